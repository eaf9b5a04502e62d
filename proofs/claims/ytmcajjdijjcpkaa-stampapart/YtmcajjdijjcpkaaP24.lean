import Derived.Test.YtmcajjdijjcpkaaP23
/- Event of package stamp. -/
namespace Go.Proofs.Ytmcajjdijjcpkaa
open Go.RowKit
open Idn (ID)

theorem nar_ev : ∀ x : EV, nar (toTr x)
  | ⟨_, .inl _⟩ => ⟨by show 0 ≤ 1000; omega, fun i => i.elim0⟩
  | ⟨_, .inr (x, y)⟩ => ⟨by show 2 ≤ 1000; omega, fun i => by
      show nar (if i.1 = 0 then toTr x else toTr y)
      split
      · exact nar_ev x
      · exact nar_ev y⟩
theorem nar_id : ∀ x : ID, nar (Idn.toTr x)
  | ⟨.inl _⟩ => ⟨by show 0 ≤ 1000; omega, fun i => i.elim0⟩
  | ⟨.inr (x, y)⟩ => ⟨by show 2 ≤ 1000; omega, fun i => by
      show nar (if i.1 = 0 then Idn.toTr x else Idn.toTr y)
      split
      · exact nar_id x
      · exact nar_id y⟩
theorem sz_two (n : Int) (kids : Fin 2 → Tr) : sz ⟨n, 2, kids⟩ = 1 + (sz (kids ⟨0, by omega⟩) + sz (kids ⟨1, by omega⟩)) := by
  conv => lhs; unfold sz
  simp [sumN]
theorem dpt_two (d : Nat) (n : Int) (t u : Tr) (ht : dpt d t) (hu : dpt d u) : dpt (d + 1) ⟨n, 2, fun i => if i.1 = 0 then t else u⟩ := fun i => by
  show dpt d (if i.1 = 0 then t else u)
  split
  · exact ht
  · exact hu
theorem dpt_leaf (d : Nat) (n : Int) (kids : Fin 0 → Tr) : dpt d ⟨n, 0, kids⟩ := by
  cases d with
  | zero => exact rfl
  | succ d => exact fun i => i.elim0
theorem sz_leaf0 (n : Int) (kids : Fin 0 → Tr) : sz ⟨n, 0, kids⟩ = 1 := by
  unfold sz
  simp [sumN]
theorem two_pow (d : Nat) : 2 ≤ 2 ^ (d + 1) := by
  have := Nat.one_le_two_pow (n := d)
  rw [Nat.pow_succ]
  omega
theorem lim_ev : ∀ (d : Nat) (x : EV) (left : Int), rg x d left = true → dpt d (toTr x) ∧ sz (toTr x) + 1 ≤ 2 ^ (d + 1)
  | d, ⟨n, .inl _⟩, left, _ => ⟨dpt_leaf d n _, by rw [toTr, sz_leaf0]; exact two_pow d⟩
  | 0, ⟨n, .inr (x, y)⟩, left, h => by simp [rg] at h
  | d + 1, ⟨n, .inr (x, y)⟩, left, h => by
    simp only [rg, Bool.and_eq_true, Nat.add_sub_cancel] at h
    obtain ⟨a1, a2⟩ := lim_ev d x _ h.2.1.2
    obtain ⟨b1, b2⟩ := lim_ev d y _ h.2.2
    refine ⟨dpt_two d n _ _ a1 b1, ?_⟩
    rw [toTr, sz_two, Nat.pow_succ]
    simp only [if_true, Nat.one_ne_zero, if_false]
    omega
theorem lim_id : ∀ (d : Nat) (x : ID), Idn.depth x ≤ d → dpt d (Idn.toTr x) ∧ sz (Idn.toTr x) + 1 ≤ 2 ^ (d + 1)
  | d, ⟨.inl b⟩, _ => ⟨dpt_leaf d _ _, by rw [Idn.toTr, sz_leaf0]; exact two_pow d⟩
  | 0, ⟨.inr (x, y)⟩, h => by
    unfold Idn.depth at h
    omega
  | d + 1, ⟨.inr (x, y)⟩, h => by
    unfold Idn.depth at h
    obtain ⟨a1, a2⟩ := lim_id d x (by omega)
    obtain ⟨b1, b2⟩ := lim_id d y (by omega)
    refine ⟨dpt_two d 0 _ _ a1 b1, ?_⟩
    rw [Idn.toTr, sz_two, Nat.pow_succ]
    simp only [if_true, Nat.one_ne_zero, if_false]
    omega
theorem copy_ev {x : EV} {n : Int} {p : Option Addr} {l c : Nat} {w : World} (hx : Is w x (TV n p l c)) (kx : ok x = true) : Calls Try.prog 32 #[TV n p l c] w fun e w' => ∃ n p l c, e = .returned (TV n p l c) ∧ Nw w.heap.size w' (fun w2 => Is w2 x (TV n p l c)) ∧ Below w.heap.size w w' :=
  have k := lim_ev 16 x _ (show rg x 16 1073741824 = true by unfold ok at kx; simp only [Bool.and_eq_true] at kx; exact kx.1)
  (tree_tr (toTr x) 16 n p l c w (lies_ok hx kx) (nar_ev x) k.1 (by omega) (by have := k.2; omega)).mono fun _ _ ⟨n, p, l, c, he, hN, hb⟩ => ⟨n, p, l, c, he, hN.nwTo fun w2 h => by
    have := (ok_of h (by rw [okT_to]; exact kx)).1
    rwa [evOf_to] at this, hb⟩
theorem copy_id {x : ID} {n : Int} {p : Option Addr} {l c : Nat} {w : World} (hx : Idn.Is w x (TV n p l c)) (kx : Idn.ok x = true) : Calls Try.prog 32 #[TV n p l c] w fun e w' => ∃ n p l c, e = .returned (TV n p l c) ∧ Nw w.heap.size w' (fun w2 => Idn.Is w2 x (TV n p l c)) ∧ Below w.heap.size w w' :=
  have k := lim_id 16 x (by unfold Idn.ok at kx; simp only [Bool.and_eq_true, decide_eq_true_eq] at kx; exact kx.1)
  (tree_tr (Idn.toTr x) 16 n p l c w (Idn.lies_is x _ hx) (nar_id x) k.1 (by omega) (by have := k.2; omega)).mono fun _ _ ⟨n, p, l, c, he, hN, hb⟩ => ⟨n, p, l, c, he, hN.nwTo fun w2 h => by
    have := Idn.is_ok h (by rw [Idn.okT_to]; exact kx)
    rwa [Idn.idOf_to] at this, hb⟩
/-- A tree that is all new. -/
def nwF (i M : Nat) (x : EV) : Facts.Fact := ([i], fun vs w => ∃ n p l c, vs = [TV n p l c] ∧ Nw M w (fun w2 => Is w2 x (TV n p l c)))
def nwI (i M : Nat) (x : ID) : Facts.Fact := ([i], fun vs w => ∃ n p l c, vs = [TV n p l c] ∧ Nw M w (fun w2 => Idn.Is w2 x (TV n p l c)))
theorem nwF_get {i M : Nat} {y : EV} {x : Nat → Value} {w : World} (h : Facts.holds (nwF i M y) x w) : ∃ n p l c, x i = TV n p l c ∧ Nw M w (fun w2 => Is w2 y (TV n p l c)) := by simpa [Facts.holds, nwF] using h
theorem nwI_get {i M : Nat} {y : ID} {x : Nat → Value} {w : World} (h : Facts.holds (nwI i M y) x w) : ∃ n p l c, x i = TV n p l c ∧ Nw M w (fun w2 => Idn.Is w2 y (TV n p l c)) := by simpa [Facts.holds, nwI] using h
theorem nwF_put {i M : Nat} {y : EV} {x : Nat → Value} {w : World} {n : Int} {p : Option Addr} {l c : Nat} (h : Nw M w (fun w2 => Is w2 y (TV n p l c))) : Facts.holds (nwF i M y) (Facts.put x i (TV n p l c)) w := ⟨n, p, l, c, by simp [Facts.put, nwF], h⟩
theorem nwI_put {i M : Nat} {y : ID} {x : Nat → Value} {w : World} {n : Int} {p : Option Addr} {l c : Nat} (h : Nw M w (fun w2 => Idn.Is w2 y (TV n p l c))) : Facts.holds (nwI i M y) (Facts.put x i (TV n p l c)) w := ⟨n, p, l, c, by simp [Facts.put, nwI], h⟩
theorem nwF_stays (i M : Nat) (x : EV) : staysF (nwF i M x) := fun _ _ _ ⟨n, p, l, c, e, h⟩ hb => ⟨n, p, l, c, e, h.later hb⟩
theorem nwI_stays (i M : Nat) (x : ID) : staysF (nwI i M x) := fun _ _ _ ⟨n, p, l, c, e, h⟩ hb => ⟨n, p, l, c, e, h.later hb⟩
theorem run_build26 {o : Oper} {x y : Operand} (ho : o.op = .build 26 #[(0, x), (1, y)]) {ρ : Operand → Value} {n : Int} {p : Option Addr} {l c : Nat} {n' : Int} {p' : Option Addr} {l' c' : Nat} (hx : ρ x = TV n p l c) (hy : ρ y = TV n' p' l' c') (w : World) : (execOp ρ o).run Try.prog w = .ok (.value (SV n p l c n' p' l' c')) w := by
  unfold execOp
  simp only [ho]
  simp [hx, hy]
  go_simp
theorem wp_build26 {op : Oper} {a : Act} {w : World} {K : Act → World → Prop} {Q : Exit → Act → World → Prop} (x y : Operand) (ho : op.op = .build 26 #[(0, x), (1, y)]) (n : Int) (p : Option Addr) (l c : Nat) (n' : Int) (p' : Option Addr) (l' c' : Nat) (hx : a.eval x = TV n p l c) (hy : a.eval y = TV n' p' l' c') (h : K (a.put op.dst (SV n p l c n' p' l' c')) w) : op.wp Try.prog a w K Q := by
  unfold Oper.wp
  rw [run_build26 ho hx hy]
  exact h
set_option maxHeartbeats 2000000 in
set_option maxRecDepth 100000 in
theorem event_bad (t u : Tr) (n : Int) (p : Option Addr) (l c : Nat) (n' : Int) (p' : Option Addr) (l' c' : Nat) (w : World) (ht : Lies w t (TV n p l c)) (hu : Lies w u (TV n' p' l' c')) (hb : (Idn.okT t && okT u) = false) :
    Calls Try.prog 18 #[SV n p l c n' p' l' c'] w (GivesSE zI zE 3 w) := by
  obtain ⟨h1, h2, hbel⟩ := two_r w 26 #[.int .i64 n, .slice p l c, .int .i64 n', .slice p' l' c'] 26 #[.int .i64 0, .slice none 0 0, .int .i64 0, .slice none 0 0] _ rfl
  have r0 := fun w1 (hb : Below w.heap.size w w1) => sCheck_tr t u n p l c n' p' l' c' w1 (ht.later hb) (hu.later hb)
  rw [hb] at r0
  clear hb ht hu
  go_enter Try.func18, Try.ntmps18
  go_wp2_with (refine load_s _ rfl rfl _ rfl h1 ?_)
  refine (r0 _ hbel).mono ?_
  rintro e w1 ⟨rfl, hb1⟩
  replace h2 := h2.later hb1
  have R := below_setRow (below_on hbel hb1) (g := w.heap.size + 1) (by omega) #[.int .i64 0, .slice none 0 0, .int .i64 0, .slice none 0 0]
  clear hb1 r0 h1 hbel
  go_wp2_with (refine store_s rfl _ _ rfl _ 0 none 0 0 0 none 0 0 rfl rfl h2 ?_)
  exact bodyPost_ret (results_se rfl rfl (h2.row _)) rfl ⟨_, _, _, _, _, _, _, _, rfl, zI_is _, zE_is _, R⟩
/-- What an Event of one that may be comes to. -/
def esI (i : ID) (e : EV) : ID := if !Idn.nil i && decide (evE i e = 0) then i else .leaf false
def esX (i : ID) (e : EV) : EV := if Idn.nil i then .leaf 0 else evX i e
def esE (i : ID) (e : EV) : Int := if Idn.nil i then 7 else evE i e
theorem evE_two (i : ID) (e : EV) : evE i e = 0 ∨ (evE i e = 41 ∧ evX i e = .leaf 0) := by
  unfold evE evX
  split
  · split
    · exact .inr ⟨rfl, rfl⟩
    · exact .inl rfl
  · exact .inl rfl

set_option maxHeartbeats 8000000 in
set_option maxRecDepth 100000 in
theorem event_ok (i : ID) (e : EV) (n : Int) (p : Option Addr) (l c : Nat) (n' : Int) (p' : Option Addr) (l' c' : Nat) (w : World) (hi : Idn.Is w i (TV n p l c)) (he : Is w e (TV n' p' l' c')) (ki : Idn.ok i = true) (ke : ok e = true) :
    Calls Try.prog 18 #[SV n p l c n' p' l' c'] w (GivesSE (esI i e) (esX i e) (esE i e) w) := by
  obtain ⟨h1, h2, hbel⟩ := two_r w 26 #[.int .i64 n, .slice p l c, .int .i64 n', .slice p' l' c'] 26 #[.int .i64 0, .slice none 0 0, .int .i64 0, .slice none 0 0] _ rfl
  have r0 := fun w1 (hb : Below w.heap.size w w1) => sCheck_is (hi.later hb) (he.later hb) ki ke
  have r1 := fun w1 => sIsNothing_is hi w1
  have r2 := fun w1 => atWork_any n p l c n' p' l' c' w1
  have r3 := fun (hn : Idn.nil i = false) w1 (hb : Below w.heap.size w w1) => next_any i e n p l c n' p' l' c' w1 (hi.later hb) (he.later hb) ki hn ke
  have r4 := fun w1 (hb : Below w.heap.size w w1) => copy_id (hi.later hb) ki
  have HO : Hid (Idn.nil i = false → evE i e = 0 → ok (evX i e) = true) := show _ → _ → _ from fun hn h => (ev_good i e ki hn ke h).ok
  have H2 : Hid (evE i e = 0 ∨ (evE i e = 41 ∧ evX i e = .leaf 0)) := evE_two i e
  unfold esI esX esE
  clear hi he ki ke
  generalize Idn.nil i = bn at r1 r3 HO ⊢
  generalize evX i e = X at r3 HO H2 ⊢
  generalize evE i e = E at r3 HO H2 ⊢
  obtain ⟨zi, HI⟩ : ∃ z, Hid ((if (!bn && decide (E = 0)) = true then i else .leaf false) = z) := ⟨_, rfl⟩
  obtain ⟨zx, HX⟩ : ∃ z, Hid ((if bn = true then .leaf 0 else X) = z) := ⟨_, rfl⟩
  obtain ⟨ze, HE⟩ : ∃ z : Int, Hid ((if bn = true then 7 else E) = z) := ⟨_, rfl⟩
  rw [HI.out, HX.out, HE.out]
  go_enter Try.func18, Try.ntmps18
  go_wp2_with (refine load_s _ rfl rfl _ rfl h1 ?_)
  refine (r0 _ hbel).mono ?_
  rintro e1 w1 ⟨rfl, hb1⟩
  replace h1 := h1.later hb1
  replace h2 := h2.later hb1
  replace hbel := below_on hbel hb1
  clear hb1 r0
  go_wp2_with (refine load_t _ rfl rfl _ _ rfl (Sx.tat0 h1) ?_)
  refine (r1 _).mono ?_
  rintro e1 w2 ⟨rfl, hb1⟩
  replace h1 := h1.later hb1
  replace h2 := h2.later hb1
  replace hbel := below_on hbel hb1
  clear hb1 r1
  cases bn
  case' true =>
    obtain rfl : zi = .leaf false := HI.out.symm
    obtain rfl : zx = .leaf 0 := HX.out.symm
    obtain rfl : ze = 7 := HE.out.symm
    have R := below_setRow hbel (g := w.heap.size + 1) (by omega) #[.int .i64 0, .slice none 0 0, .int .i64 0, .slice none 0 0]
    clear r2 r3 r4 HO H2 HI HX HE
    go_wp2_with (refine store_s rfl _ _ rfl _ 0 none 0 0 0 none 0 0 rfl rfl h2 ?_)
    exact bodyPost_ret (results_se rfl rfl (h2.row _)) rfl ⟨_, _, _, _, _, _, _, _, rfl, zI_is _, zE_is _, R⟩
  case' false =>
    obtain rfl : X = zx := HX.out
    obtain rfl : E = ze := HE.out
    replace r3 := r3 rfl
    have HO2 : Hid (E = 0 → ok X = true) := show _ → _ from fun h => HO.out rfl h
    clear HO HX HE
    go_wp2_with (refine load_s _ rfl rfl _ rfl h1 ?_)
    refine (r2 _).mono ?_
    rintro e1 w3 ⟨rfl, hb1⟩
    replace h1 := h1.later hb1
    replace h2 := h2.later hb1
    replace hbel := below_on hbel hb1
    clear hb1 r2
    go_wp2_with fail
    refine (r3 _ hbel).mono ?_
    rintro e1 w4 ⟨nx, px, lx, cx, rfl, ix, hb1⟩
    replace h1 := h1.later hb1
    replace h2 := h2.later hb1
    replace hbel := below_on hbel hb1
    clear hb1 r3
    have m0 := bx_new w4 0 none 0 0
    have bx := new_box w4 nx px lx cx
    have hb1 := new_below w4 nx px lx cx
    rcases H2.out with h0 | ⟨h0, h0'⟩
    rotate_left
    · subst h0 h0'
      obtain rfl : zi = .leaf false := HI.out.symm
      replace h2 := h2.later hb1
      have R := below_setRow (below_on hbel hb1) (g := w.heap.size + 1) (by omega) #[.int .i64 0, .slice none 0 0, .int .i64 0, .slice none 0 0]
      clear hb1 hbel h1 ix bx HO2 HI H2 r4
      go_wp2_with (first | refine store_t rfl _ _ rfl _ nx px lx cx rfl rfl m0 ?_ | refine store_s rfl _ _ rfl _ 0 none 0 0 0 none 0 0 rfl rfl h2 ?_)
      exact bodyPost_ret (results_se rfl rfl (h2.row _)) rfl ⟨_, _, _, _, _, _, _, _, rfl, zI_is _, zE_is _, R⟩
    · subst h0
      obtain rfl : i = zi := HI.out
      have kX : ok X = true := HO2.out rfl
      generalize hw : (w4.alloc (.cells #[.int .i64 0, .slice none 0 0] 24)).setRow w4.heap.size #[.int .i64 nx, .slice px lx cx] = v at bx hb1
      replace h1 := h1.later hb1
      replace h2 := h2.later hb1
      replace ix := ix.later hb1
      replace hbel := below_on hbel hb1
      have HK : Hid (ok X = true) := kX
      clear hb1 HI H2 HO2 kX
      go_wp2_with (first | rw [hw] | refine store_t rfl _ _ rfl _ nx px lx cx rfl rfl m0 ?_)
      clear m0 hw
      generalize w4.heap.size = g4 at bx ⊢
      have hS : Calm.Stays (fun w' => Sx w' w.heap.size n p l c n' p' l' c' ∧ Sx w' (w.heap.size + 1) 0 none 0 0 0 none 0 0 ∧ Bx w' g4 nx px lx cx ∧ Is w' X (TV nx px lx cx) ∧ Below w.heap.size w w') := fun wa wb h hb => ⟨h.1.later hb, h.2.1.later hb, h.2.2.1.later hb, h.2.2.2.1.later hb, below_on h.2.2.2.2 hb⟩
      have hF : Facts.Stay [eqF 0 (.pointer (some ⟨w.heap.size, 0, none⟩)), eqF 1 (TV n p l c), nwI 2 (w.heap.size + 2) i, eqF 3 (TV nx px lx cx), nwF 4 (w.heap.size + 2) X] := stay_of (by simp only [List.forall_mem_cons]; exact ⟨eqF_stays _ _, eqF_stays _ _, nwI_stays _ _ _, eqF_stays _ _, nwF_stays _ _ _, fun _ h => by cases h⟩)
      refine Facts.regionTail (by kernel_rfl) (by kernel_rfl) 5 (by decide) (by kernel_rfl) (fun w' => Sx w' w.heap.size n p l c n' p' l' c' ∧ Sx w' (w.heap.size + 1) 0 none 0 0 0 none 0 0 ∧ Bx w' g4 nx px lx cx ∧ Is w' X (TV nx px lx cx) ∧ Below w.heap.size w w') (fun x => { tmps := #[SV n p l c n' p' l' c', Value.pointer (some { block := w.heap.size, off := 0 }), Value.pointer (some { block := w.heap.size + 1, off := 0 }), Value.int IntKind.i64 0, Value.pointer (some { block := g4, off := 0 }), Value.int IntKind.i64 0, Value.bool false, SV n p l c n' p' l' c', Value.bool true, Value.bool false, undef, Value.bool false, Value.pointer (some { block := w.heap.size, off := 0 }), TV n p l c, Value.bool false, undef, Value.tuple #[TV nx px lx cx, Value.int IntKind.i64 0], SV n p l c n' p' l' c', WV n p l c n' p' l' c', Value.tuple #[TV nx px lx cx, Value.int IntKind.i64 0], TV nx px lx cx, Value.int IntKind.i64 0, Value.int IntKind.i64 0, Value.bool false, undef, undef, x 0, x 1, x 2, x 3, x 4, undef], defers := [] }) [eqF 0 (.pointer (some ⟨w.heap.size, 0, none⟩)), eqF 1 (TV n p l c), nwI 2 (w.heap.size + 2) i, eqF 3 (TV nx px lx cx), nwF 4 (w.heap.size + 2) X] _ rfl rfl (by kernel_rfl) (fun _ => undef) rfl ⟨h1, h2, bx, ix.later (Below.refl _ _).drew, hbel.drew⟩ ⟨?_, ?_, ?_, ?_, ?_, ?_, ?_, ?_, trivial⟩ ?_
      · exact fun _ => Facts.pure hS hF (fun _ _ => rfl) rfl (fun x wv hSw hd => by
          go_simp)
      · exact fun _ => Facts.loadT hS hF (fun _ _ => rfl) _ rfl rfl (fun x wv hSw hd => by have d0 := eqF_get (hd ⟨0, .data⟩ (by simp) rfl _ rfl); exact d0) (fun wv hSw => Sx.tat0 hSw.1)
      · refine fun _ => Facts.call1F hS hF (fun _ _ => rfl) rfl (by kernel_rfl) rfl (fun x wv hSw hd => ?_)
        have d1 := eqF_get (hd ⟨1, .data⟩ (by simp) rfl _ rfl)
        have hc := r4 wv hSw.2.2.2.2
        rw [← d1] at hc
        exact hc.mono fun _ _ ⟨n, p, l, c, he, hN, hb⟩ => ⟨_, he, hb, nwI_put (hN.mono (by have := Rw.lt hSw.2.1; omega))⟩
      · exact fun _ => Facts.loadT hS hF (fun _ _ => rfl) _ rfl rfl (fun x wv hSw hd => by rfl) (fun wv hSw => Bx.tat hSw.2.2.1)
      · refine fun _ => Facts.call1F hS hF (fun _ _ => rfl) rfl (by kernel_rfl) rfl (fun x wv hSw hd => ?_)
        have d3 := eqF_get (hd ⟨3, .data⟩ (by simp) rfl _ rfl)
        have hc := copy_ev hSw.2.2.2.1 HK.out
        rw [← d3] at hc
        exact hc.mono fun _ _ ⟨n, p, l, c, he, hN, hb⟩ => ⟨_, he, hb, nwF_put (hN.mono (by have := Rw.lt hSw.2.1; omega))⟩
      · exact fun h => absurd h (by decide)
      · exact fun h => absurd h (by decide)
      · exact fun h => absurd h (by decide)
      rintro x w9 ⟨h1, h2, bx, ix, hbel⟩ hf
      have e0 := eqF_get (hf 0 _ rfl)
      have e1 := eqF_get (hf 1 _ rfl)
      obtain ⟨ni, pi, li, ci, e2, hN⟩ := nwI_get (hf 2 _ rfl)
      have e3 := eqF_get (hf 3 _ rfl)
      obtain ⟨ne, pe, le, ce, e4, hM⟩ := nwF_get (hf 4 _ rfl)
      clear hf hF hS r4
      simp only [e0, e1, e2, e3, e4]
      clear e0 e1 e2 e3 e4
      refine wp_build26 _ _ rfl ni pi li ci ne pe le ce rfl rfl ?_
      refine wp_store_r 26 _ _ rfl (w.heap.size + 1) #[.int .i64 ni, .slice pi li ci, .int .i64 ne, .slice pe le ce] rfl rfl h2 size26 rfl (by simp [Value.oneCell']) ?_
      refine wp_assign _ rfl ?_
      refine Facts.tailWp_nil ?_
      have R := below_setRow hbel (g := w.heap.size + 1) (by omega) #[.int .i64 ni, .slice pi li ci, .int .i64 ne, .slice pe le ce]
      have a1 := (hN.row (q := w.heap.size + 1) (by omega) #[.int .i64 ni, .slice pi li ci, .int .i64 ne, .slice pe le ce]).here
      have a2 := (hM.row (q := w.heap.size + 1) (by omega) #[.int .i64 ni, .slice pi li ci, .int .i64 ne, .slice pe le ce]).here
      go_wp2
      exact bodyPost_ret (results_se rfl rfl (h2.row _)) rfl ⟨_, _, _, _, _, _, _, _, rfl, a1, a2, R⟩
end Go.Proofs.Ytmcajjdijjcpkaa
/- Fork of package stamp. -/
namespace Go.Proofs.Ytmcajjdijjcpkaa
open Go.RowKit
open Idn (ID)

set_option maxHeartbeats 2000000 in
set_option maxRecDepth 100000 in
theorem fork_bad (t u : Tr) (n : Int) (p : Option Addr) (l c : Nat) (n' : Int) (p' : Option Addr) (l' c' : Nat) (w : World) (ht : Lies w t (TV n p l c)) (hu : Lies w u (TV n' p' l' c')) (hb : (Idn.okT t && okT u) = false) :
    Calls Try.prog 15 #[SV n p l c n' p' l' c'] w (GivesSSE zI zE zI zE 3 w) := by
  obtain ⟨h1, h2, h3, hbel⟩ := three_r w 26 #[.int .i64 n, .slice p l c, .int .i64 n', .slice p' l' c'] 26 #[.int .i64 0, .slice none 0 0, .int .i64 0, .slice none 0 0] 26 #[.int .i64 0, .slice none 0 0, .int .i64 0, .slice none 0 0] _ rfl
  have r0 := fun w1 (hb : Below w.heap.size w w1) => sCheck_tr t u n p l c n' p' l' c' w1 (ht.later hb) (hu.later hb)
  rw [hb] at r0
  clear hb ht hu
  go_enter Try.func15, Try.ntmps15
  go_wp2_with (refine load_s _ rfl rfl _ rfl h1 ?_)
  refine (r0 _ hbel).mono ?_
  rintro e w1 ⟨rfl, hb1⟩
  replace h2 := h2.later hb1
  replace h3 := h3.later hb1
  have R := below_setRow (below_setRow (below_on hbel hb1) (g := w.heap.size + 1) (by omega) #[.int .i64 0, .slice none 0 0, .int .i64 0, .slice none 0 0]) (g := w.heap.size + 1 + 1) (by omega) #[.int .i64 0, .slice none 0 0, .int .i64 0, .slice none 0 0]
  have h3' := h3.rowOther (q := w.heap.size + 1) (by omega) #[.int .i64 0, .slice none 0 0, .int .i64 0, .slice none 0 0]
  clear hb1 r0 h1 hbel
  go_wp2_with (first | refine store_s rfl _ _ rfl _ 0 none 0 0 0 none 0 0 rfl rfl h2 ?_ | refine store_s rfl _ _ rfl _ 0 none 0 0 0 none 0 0 rfl rfl h3' ?_)
  exact bodyPost_ret (results_sse rfl rfl ((h2.row _).rowOther (by omega) _) rfl (h3'.row _)) rfl ⟨_, _, _, _, _, _, _, _, _, _, _, _, _, _, _, _, rfl, zI_is _, zE_is _, zI_is _, zE_is _, R⟩
/-- What a Fork of one that may be comes to. -/
def fkA (i : ID) : ID := Idn.splA (Idn.toTr i)
def fkB (i : ID) : ID := Idn.splB (Idn.toTr i)
def fkE (i : ID) : Int := Idn.splE (Idn.toTr i)
def fkX (i : ID) (e : EV) : EV := if fkE i = 0 then e else .leaf 0
theorem fk_cases (i : ID) (ki : Idn.ok i = true) : (fkE i = 0 ∧ (Idn.nil i = false ∧ fkA i = (Idn.halve i).1 ∧ fkB i = (Idn.halve i).2) ∧ (Idn.ok (fkA i) = true ∧ Idn.ok (fkB i) = true)) ∨ (¬ fkE i = 0 ∧ fkA i = .leaf false ∧ fkB i = .leaf false) := by
  unfold fkE fkA fkB Idn.splE Idn.splA Idn.splB
  rw [Idn.okT_to, Idn.idOf_to, ki]
  cases hn : Idn.nil i
  · cases ha : Idn.ok (Idn.halve i).1
    · simp
    · cases hb : Idn.ok (Idn.halve i).2
      · simp
      · simp [ha, hb]
  · simp
/-- A stamp built of a known tree and one that is all new; what a box holds of it. -/
def bdF (k i : Nat) (n : Int) (p : Option Addr) (l c : Nat) : Facts.Fact := ([k, i], fun vs _ => ∃ m q j d, vs = [TV m q j d, SV n p l c m q j d])
def stF (k b : Nat) (n : Int) (p : Option Addr) (l c : Nat) : Facts.Fact := ([k], fun vs w => ∃ m q j d, vs = [TV m q j d] ∧ Sx w b n p l c m q j d)
theorem bdF_get {k i : Nat} {n : Int} {p : Option Addr} {l c : Nat} {x : Nat → Value} {w : World} (h : Facts.holds (bdF k i n p l c) x w) : ∃ m q j d, x k = TV m q j d ∧ x i = SV n p l c m q j d := by simpa [Facts.holds, bdF] using h
theorem stF_get {k b : Nat} {n : Int} {p : Option Addr} {l c : Nat} {x : Nat → Value} {w : World} (h : Facts.holds (stF k b n p l c) x w) : ∃ m q j d, x k = TV m q j d ∧ Sx w b n p l c m q j d := by simpa [Facts.holds, stF] using h
theorem eqF_any {i : Nat} {v : Value} {x : Nat → Value} {w w2 : World} (h : Facts.holds (eqF i v) x w) : Facts.holds (eqF i v) x w2 := h
theorem bdF_any {k i : Nat} {n : Int} {p : Option Addr} {l c : Nat} {x : Nat → Value} {w w2 : World} (h : Facts.holds (bdF k i n p l c) x w) : Facts.holds (bdF k i n p l c) x w2 := h
theorem nwF_row {i M : Nat} {y : EV} {x : Nat → Value} {w : World} (h : Facts.holds (nwF i M y) x w) {q : Nat} (hq : q < M) (cs : Array Value) : Facts.holds (nwF i M y) x (w.setRow q cs) := by
  obtain ⟨n, p, l, c, e, h⟩ := h
  exact ⟨n, p, l, c, e, h.row hq cs⟩
theorem stF_row {k b : Nat} {n : Int} {p : Option Addr} {l c : Nat} {x : Nat → Value} {w : World} (h : Facts.holds (stF k b n p l c) x w) {q : Nat} (hq : b ≠ q) (cs : Array Value) : Facts.holds (stF k b n p l c) x (w.setRow q cs) := by
  obtain ⟨m, r, j, d, e, h⟩ := h
  exact ⟨m, r, j, d, e, Rw.rowOther h hq cs⟩
theorem stF_put {k b i : Nat} {n : Int} {p : Option Addr} {l c : Nat} {x : Nat → Value} {w : World} {m : Int} {r : Option Addr} {j d : Nat} (hk : k ≠ i) (ek : x k = TV m r j d) {v : Value} (h : Sx w b n p l c m r j d) : Facts.holds (stF k b n p l c) (Facts.put x i v) w := ⟨m, r, j, d, by simp [stF, Facts.put, hk, ek], h⟩
theorem bdF_stays (k i : Nat) (n : Int) (p : Option Addr) (l c : Nat) : staysF (bdF k i n p l c) := fun _ _ _ h _ => h
theorem stF_stays (k b : Nat) (n : Int) (p : Option Addr) (l c : Nat) : staysF (stF k b n p l c) := fun _ _ _ ⟨m, q, j, d, e, h⟩ hb => ⟨m, q, j, d, e, h.later hb⟩
theorem Facts.build26 {Q : Exit → Act → World → Prop} {S : World → Prop} {md : Region.Mode} {A : (Nat → Value) → Act} {F : List Facts.Fact} {i : Nat} {o : Oper} (hS : Calm.Stays S) (hF : Facts.Stay F) (hA : ∀ x u, (A x).put o.dst u = A (Facts.put x i u)) {u v : Operand} (ho : o.op = .build 26 #[(0, u), (1, v)]) {k : Nat} {n : Int} {p : Option Addr} {l c : Nat} (hf : F[i]? = some (bdF k i n p l c)) (hki : k ≠ i)
    (h : ∀ x w, S w → (∀ e ∈ o.after, Region.binds md e = true → ∀ f, F[e.on]? = some f → Facts.holds f x w) → (A x).eval u = TV n p l c ∧ (A x).eval v = x k ∧ ∃ m q j d, x k = TV m q j d) : Facts.StepOk Try.prog md Q S A F i o :=
  Facts.step hS hF hA fun x w hSw hdep => by
    obtain ⟨h1, h2, m, q, j, d, h3⟩ := h x w hSw hdep
    unfold Oper.wp
    rw [run_build26 ho h1 (h2.trans h3)]
    refine ⟨_, rfl, Below.refl _ _, fun f hf' => ?_⟩
    rw [hf] at hf'
    obtain rfl := Option.some.inj hf'
    exact ⟨m, q, j, d, by simp [bdF, Facts.put, hki, h3]⟩

set_option maxHeartbeats 8000000 in
set_option maxRecDepth 100000 in
theorem fork_ok (i : ID) (e : EV) (n : Int) (p : Option Addr) (l c : Nat) (n' : Int) (p' : Option Addr) (l' c' : Nat) (w : World) (hi : Idn.Is w i (TV n p l c)) (he : Is w e (TV n' p' l' c')) (ki : Idn.ok i = true) (ke : ok e = true) :
    Calls Try.prog 15 #[SV n p l c n' p' l' c'] w (GivesSSE (fkA i) (fkX i e) (fkB i) (fkX i e) (fkE i) w) := by
  obtain ⟨h1, h2, h3, hbel⟩ := three_r w 26 #[.int .i64 n, .slice p l c, .int .i64 n', .slice p' l' c'] 26 #[.int .i64 0, .slice none 0 0, .int .i64 0, .slice none 0 0] 26 #[.int .i64 0, .slice none 0 0, .int .i64 0, .slice none 0 0] _ rfl
  have r0 := fun w1 (hb : Below w.heap.size w w1) => sCheck_is (hi.later hb) (he.later hb) ki ke
  have r1 : ∀ w1 (hb : Below w.heap.size w w1), Calls Try.prog 38 #[TV n p l c] w1 (Idn.GivesTE (fkA i) (fkB i) (fkE i) w1) := fun w1 hb => Idn.split_any i n p l c w1 (hi.later hb)
  have r2 := fun w1 (hb : Below w.heap.size w w1) => copy_ev (he.later hb) ke
  have HC := fk_cases i ki
  unfold fkX
  generalize fkE i = E at r1 HC ⊢
  generalize fkA i = A at r1 HC ⊢
  generalize fkB i = B at r1 HC ⊢
  have H2 : Hid ((E = 0 ∧ Idn.short A = true ∧ Idn.short B = true) ∨ (¬ E = 0 ∧ A = .leaf false ∧ B = .leaf false)) := by
    show _ ∨ _
    rcases HC with ⟨h, _, h'⟩ | h
    · exact .inl ⟨h, (Idn.ok_parts h'.1).2, (Idn.ok_parts h'.2).2⟩
    · exact .inr h
  obtain ⟨zx, HX⟩ : ∃ z, Hid ((if E = 0 then e else .leaf 0) = z) := ⟨_, rfl⟩
  rw [HX.out]
  clear hi he ki ke HC
  go_enter Try.func15, Try.ntmps15
  go_wp2_with (refine load_s _ rfl rfl _ rfl h1 ?_)
  refine (r0 _ hbel).mono ?_
  rintro e1 w1 ⟨rfl, hb1⟩
  replace h1 := h1.later hb1
  replace h2 := h2.later hb1
  replace h3 := h3.later hb1
  replace hbel := below_on hbel hb1
  clear hb1 r0
  go_wp2_with (refine load_t _ rfl rfl _ _ rfl (Sx.tat0 h1) ?_)
  refine (r1 _ hbel).mono ?_
  rintro e1 w2 ⟨na, pa, la, ca, nb, pb, lb, cb, rfl, ia, ib, hb1⟩
  replace h1 := h1.later hb1
  replace h2 := h2.later hb1
  replace h3 := h3.later hb1
  replace hbel := below_on hbel hb1
  clear hb1 r1
  have h3lt := h3.lt
  have m0 := Idn.two_new0 w2
  have m1 := Idn.two_new1 w2 na pa la ca
  obtain ⟨k1, k2, hb1⟩ := Idn.two_new w2 na pa la ca nb pb lb cb _ rfl
  rcases H2.out with ⟨h0, sA, sB⟩ | ⟨h0, rfl, rfl⟩
  rotate_left
  · obtain rfl : EV.leaf 0 = zx := by rw [← HX.out, if_neg h0]
    generalize hw4 : (((w2.alloc (.cells #[.int .i64 0, .slice none 0 0] 24)).alloc (.cells #[.int .i64 0, .slice none 0 0] 24)).setRow w2.heap.size #[.int .i64 na, .slice pa la ca]).setRow (w2.heap.size + 1) #[.int .i64 nb, .slice pb lb cb] = w4 at k1 k2 hb1
    replace h2 := h2.later hb1
    replace h3 := h3.later hb1
    replace hbel := below_on hbel hb1
    have R := below_setRow (below_setRow hbel (g := w.heap.size + 1) (by omega) #[.int .i64 0, .slice none 0 0, .int .i64 0, .slice none 0 0]) (g := w.heap.size + 1 + 1) (by omega) #[.int .i64 0, .slice none 0 0, .int .i64 0, .slice none 0 0]
    have h3' := h3.rowOther (q := w.heap.size + 1) (by omega) #[.int .i64 0, .slice none 0 0, .int .i64 0, .slice none 0 0]
    clear hb1 r2 H2 HX hbel ia ib h1 k1 k2
    go_wp2_with (first | rw [hw4] | refine store_t rfl _ _ rfl _ na pa la ca rfl rfl m0 ?_ | refine store_t rfl _ _ rfl _ nb pb lb cb rfl rfl m1 ?_ | refine store_s rfl _ _ rfl _ 0 none 0 0 0 none 0 0 rfl rfl h2 ?_ | refine store_s rfl _ _ rfl _ 0 none 0 0 0 none 0 0 rfl rfl h3' ?_)
    exact bodyPost_ret (results_sse rfl rfl ((h2.row _).rowOther (by omega) _) rfl (h3'.row _)) rfl ⟨_, _, _, _, _, _, _, _, _, _, _, _, _, _, _, _, rfl, zI_is _, zE_is _, zI_is _, zE_is _, R⟩
  · subst h0
    obtain rfl : e = zx := by rw [← HX.out, if_pos rfl]
    generalize hw4 : (((w2.alloc (.cells #[.int .i64 0, .slice none 0 0] 24)).alloc (.cells #[.int .i64 0, .slice none 0 0] 24)).setRow w2.heap.size #[.int .i64 na, .slice pa la ca]).setRow (w2.heap.size + 1) #[.int .i64 nb, .slice pb lb cb] = w4 at k1 k2 hb1
    replace h1 := h1.later hb1
    replace h2 := h2.later hb1
    replace h3 := h3.later hb1
    replace ia := ia.later hb1
    replace ib := ib.later hb1
    replace hbel := below_on hbel hb1
    clear hb1 H2 HX
    go_wp2_with (first | rw [hw4] | refine store_t rfl _ _ rfl _ na pa la ca rfl rfl m0 ?_ | refine store_t rfl _ _ rfl _ nb pb lb cb rfl rfl m1 ?_)
    clear m0 m1 hw4
    generalize w2.heap.size = g4 at h3lt k1 k2 ⊢
    have hS : Calm.Stays (fun w' => Sx w' w.heap.size n p l c n' p' l' c' ∧ Bx w' g4 na pa la ca ∧ Bx w' (g4 + 1) nb pb lb cb ∧ (∃ cs, cs.size = 4 ∧ Rw w' (w.heap.size + 1) 26 cs) ∧ (∃ cs, cs.size = 4 ∧ Rw w' (w.heap.size + 1 + 1) 26 cs) ∧ w4.heap.size ≤ w'.heap.size ∧ Ag w4.heap.size (w.heap.size + 1) (w.heap.size + 1 + 1) w4 w' ∧ Below w.heap.size w w') := fun wa wb h hb => ⟨h.1.later hb, h.2.1.later hb, h.2.2.1.later hb, (by obtain ⟨cs, hc, h2⟩ := h.2.2.2.1; exact ⟨cs, hc, h2.later hb⟩), (by obtain ⟨cs, hc, h2⟩ := h.2.2.2.2.1; exact ⟨cs, hc, h2.later hb⟩), Nat.le_trans h.2.2.2.2.2.1 hb.size, (fun b h0 h1 h2 => (hb.block b (Nat.lt_of_lt_of_le h0 h.2.2.2.2.2.1)).trans (h.2.2.2.2.2.2.1 b h0 h1 h2)), below_on h.2.2.2.2.2.2.2 hb⟩
    have hF : Facts.Stay [eqF 0 (TV na pa la ca), eqF 1 (.pointer (some ⟨w.heap.size, 2, none⟩)), eqF 2 (TV n' p' l' c'), nwF 3 w4.heap.size e, bdF 3 4 na pa la ca, eqF 5 (TV nb pb lb cb), eqF 6 (.pointer (some ⟨w.heap.size, 2, none⟩)), eqF 7 (TV n' p' l' c'), nwF 8 w4.heap.size e, bdF 8 9 nb pb lb cb, stF 3 (w.heap.size + 1) na pa la ca, stF 8 (w.heap.size + 1 + 1) nb pb lb cb, eqF 12 (.int .i64 0)] := stay_of (by simp only [List.forall_mem_cons]; exact ⟨eqF_stays _ _, eqF_stays _ _, eqF_stays _ _, nwF_stays _ _ _, bdF_stays _ _ _ _ _ _, eqF_stays _ _, eqF_stays _ _, eqF_stays _ _, nwF_stays _ _ _, bdF_stays _ _ _ _ _ _, stF_stays _ _ _ _ _ _, stF_stays _ _ _ _ _ _, eqF_stays _ _, fun _ h => by cases h⟩)
    refine Facts.region (by kernel_rfl) (by kernel_rfl) (fun w' => Sx w' w.heap.size n p l c n' p' l' c' ∧ Bx w' g4 na pa la ca ∧ Bx w' (g4 + 1) nb pb lb cb ∧ (∃ cs, cs.size = 4 ∧ Rw w' (w.heap.size + 1) 26 cs) ∧ (∃ cs, cs.size = 4 ∧ Rw w' (w.heap.size + 1 + 1) 26 cs) ∧ w4.heap.size ≤ w'.heap.size ∧ Ag w4.heap.size (w.heap.size + 1) (w.heap.size + 1 + 1) w4 w' ∧ Below w.heap.size w w') (fun x => { tmps := #[SV n p l c n' p' l' c', Value.pointer (some { block := w.heap.size, off := 0 }), Value.pointer (some { block := w.heap.size + 1, off := 0 }), Value.pointer (some { block := w.heap.size + 1 + 1, off := 0 }), x 12, Value.pointer (some { block := g4, off := 0 }), Value.pointer (some { block := g4 + 1, off := 0 }), Value.int IntKind.i64 0, SV n p l c n' p' l' c', Value.bool true, Value.bool false, undef, undef, Value.tuple #[TV na pa la ca, TV nb pb lb cb, Value.int IntKind.i64 0], Value.pointer (some { block := w.heap.size, off := 0 }), TV n p l c, Value.tuple #[TV na pa la ca, TV nb pb lb cb, Value.int IntKind.i64 0], TV na pa la ca, TV nb pb lb cb, Value.int IntKind.i64 0, Value.int IntKind.i64 0, Value.bool false, undef, undef, undef, x 0, x 1, x 2, x 3, x 4, x 5, x 6, x 7, x 8, x 9], defers := [] }) [eqF 0 (TV na pa la ca), eqF 1 (.pointer (some ⟨w.heap.size, 2, none⟩)), eqF 2 (TV n' p' l' c'), nwF 3 w4.heap.size e, bdF 3 4 na pa la ca, eqF 5 (TV nb pb lb cb), eqF 6 (.pointer (some ⟨w.heap.size, 2, none⟩)), eqF 7 (TV n' p' l' c'), nwF 8 w4.heap.size e, bdF 8 9 nb pb lb cb, stF 3 (w.heap.size + 1) na pa la ca, stF 8 (w.heap.size + 1 + 1) nb pb lb cb, eqF 12 (.int .i64 0)] _ rfl (by kernel_rfl) (fun k => if k = 12 then .int .i64 0 else undef) rfl ⟨h1, k1, k2, ⟨_, rfl, h2⟩, ⟨_, rfl, h3⟩, Nat.le_refl _, fun _ _ _ _ => rfl, hbel.drew⟩ ⟨?_, ?_, ?_, ?_, ?_, ?_, ?_, ?_, ?_, ?_, ?_, ?_, ?_, trivial⟩ ?_
    · exact Facts.loadT hS hF (fun _ _ => rfl) _ rfl rfl (fun x wv hSw hd => by rfl) (fun wv hSw => Bx.tat hSw.2.1)
    · exact Facts.pure hS hF (fun _ _ => rfl) rfl (fun x wv hSw hd => by
        go_simp)
    · exact Facts.loadT hS hF (fun _ _ => rfl) _ rfl rfl (fun x wv hSw hd => by have d1 := eqF_get (hd ⟨1, .data⟩ (by simp) rfl _ rfl); exact d1) (fun wv hSw => Sx.tat1 hSw.1)
    · refine Facts.call1F hS hF (fun _ _ => rfl) rfl (by kernel_rfl) rfl (fun x wv hSw hd => ?_)
      have d2 := eqF_get (hd ⟨2, .data⟩ (by simp) rfl _ rfl)
      have hc := r2 wv hSw.2.2.2.2.2.2.2
      rw [← d2] at hc
      exact hc.mono fun _ _ ⟨n, p, l, c, he, hN, hb⟩ => ⟨_, he, hb, nwF_put (hN.mono hSw.2.2.2.2.2.1)⟩
    · refine Facts.build26 hS hF (fun _ _ => rfl) rfl rfl (by decide) (fun x wv hSw hd => ?_)
      have d0 := eqF_get (hd ⟨0, .data⟩ (by simp) rfl _ rfl)
      obtain ⟨m, q, j, d, ek, _⟩ := nwF_get (hd ⟨3, .data⟩ (by simp) rfl _ rfl)
      exact ⟨d0, rfl, m, q, j, d, ek⟩
    · exact Facts.loadT hS hF (fun _ _ => rfl) _ rfl rfl (fun x wv hSw hd => by rfl) (fun wv hSw => Bx.tat hSw.2.2.1)
    · exact Facts.pure hS hF (fun _ _ => rfl) rfl (fun x wv hSw hd => by
        go_simp)
    · exact Facts.loadT hS hF (fun _ _ => rfl) _ rfl rfl (fun x wv hSw hd => by have d6 := eqF_get (hd ⟨6, .data⟩ (by simp) rfl _ rfl); exact d6) (fun wv hSw => Sx.tat1 hSw.1)
    · refine Facts.call1F hS hF (fun _ _ => rfl) rfl (by kernel_rfl) rfl (fun x wv hSw hd => ?_)
      have d7 := eqF_get (hd ⟨7, .data⟩ (by simp) rfl _ rfl)
      have hc := r2 wv hSw.2.2.2.2.2.2.2
      rw [← d7] at hc
      exact hc.mono fun _ _ ⟨n, p, l, c, he, hN, hb⟩ => ⟨_, he, hb, nwF_put (hN.mono hSw.2.2.2.2.2.1)⟩
    · refine Facts.build26 hS hF (fun _ _ => rfl) rfl rfl (by decide) (fun x wv hSw hd => ?_)
      have d5 := eqF_get (hd ⟨5, .data⟩ (by simp) rfl _ rfl)
      obtain ⟨m, q, j, d, ek, _⟩ := nwF_get (hd ⟨8, .data⟩ (by simp) rfl _ rfl)
      exact ⟨d5, rfl, m, q, j, d, ek⟩
    · refine (show Facts.StepOk _ _ _ _ _ _ _ _ from ?_)
      intro x wv hSw hd
      obtain ⟨m, q, j, d, ek, eb⟩ := bdF_get (hd ⟨4, .data⟩ (by simp) rfl _ rfl)
      obtain ⟨s1, s2, s3, ⟨cs4, c4, s4⟩, ⟨cs5, c5, s5⟩, s6, s7, s8⟩ := hSw
      have hbN : (w.heap.size + 1) < w4.heap.size := by have := h3.lt; omega
      refine wp_store_r 26 _ _ rfl (w.heap.size + 1) #[.int .i64 na, .slice pa la ca, .int .i64 m, .slice q j d] rfl eb s4 size26 c4 (by simp [Value.oneCell']) ?_
      refine ⟨undef, rfl, ⟨Rw.rowOther s1 (by omega) _, Bx.rowOther s2 (by omega) _, Bx.rowOther s3 (by omega) _, ⟨_, rfl, s4.row _⟩, ⟨_, c5, s5.rowOther (by omega) _⟩, (by simpa using s6), (fun b h0 h1 h2 => (setRow_other _ _ _ _ (by omega)).trans (s7 b h0 h1 h2)), below_setRow s8 (by omega) _⟩, fun f hf' => ?_, fun j f hj hfj hh => ?_⟩
      · obtain rfl := Option.some.inj hf'
        exact stF_put (by decide) ek (Rw.row s4 _)
      · match j with
          | 0 => obtain rfl := Option.some.inj hfj; exact eqF_any hh
          | 1 => obtain rfl := Option.some.inj hfj; exact eqF_any hh
          | 2 => obtain rfl := Option.some.inj hfj; exact eqF_any hh
          | 3 => obtain rfl := Option.some.inj hfj; exact nwF_row hh hbN _
          | 4 => obtain rfl := Option.some.inj hfj; exact bdF_any hh
          | 5 => obtain rfl := Option.some.inj hfj; exact eqF_any hh
          | 6 => obtain rfl := Option.some.inj hfj; exact eqF_any hh
          | 7 => obtain rfl := Option.some.inj hfj; exact eqF_any hh
          | 8 => obtain rfl := Option.some.inj hfj; exact nwF_row hh hbN _
          | 9 => obtain rfl := Option.some.inj hfj; exact bdF_any hh
          | 11 => obtain rfl := Option.some.inj hfj; exact stF_row hh (by omega) _
          | 12 => obtain rfl := Option.some.inj hfj; exact eqF_any hh
          | 10 => exact absurd rfl hj
          | j + 13 => simp at hfj
    · refine (show Facts.StepOk _ _ _ _ _ _ _ _ from ?_)
      intro x wv hSw hd
      obtain ⟨m, q, j, d, ek, eb⟩ := bdF_get (hd ⟨9, .data⟩ (by simp) rfl _ rfl)
      obtain ⟨s1, s2, s3, ⟨cs4, c4, s4⟩, ⟨cs5, c5, s5⟩, s6, s7, s8⟩ := hSw
      have hbN : (w.heap.size + 1 + 1) < w4.heap.size := by have := h3.lt; omega
      refine wp_store_r 26 _ _ rfl (w.heap.size + 1 + 1) #[.int .i64 nb, .slice pb lb cb, .int .i64 m, .slice q j d] rfl eb s5 size26 c5 (by simp [Value.oneCell']) ?_
      refine ⟨undef, rfl, ⟨Rw.rowOther s1 (by omega) _, Bx.rowOther s2 (by omega) _, Bx.rowOther s3 (by omega) _, ⟨_, c4, s4.rowOther (by omega) _⟩, ⟨_, rfl, s5.row _⟩, (by simpa using s6), (fun b h0 h1 h2 => (setRow_other _ _ _ _ (by omega)).trans (s7 b h0 h1 h2)), below_setRow s8 (by omega) _⟩, fun f hf' => ?_, fun j f hj hfj hh => ?_⟩
      · obtain rfl := Option.some.inj hf'
        exact stF_put (by decide) ek (Rw.row s5 _)
      · match j with
          | 0 => obtain rfl := Option.some.inj hfj; exact eqF_any hh
          | 1 => obtain rfl := Option.some.inj hfj; exact eqF_any hh
          | 2 => obtain rfl := Option.some.inj hfj; exact eqF_any hh
          | 3 => obtain rfl := Option.some.inj hfj; exact nwF_row hh hbN _
          | 4 => obtain rfl := Option.some.inj hfj; exact bdF_any hh
          | 5 => obtain rfl := Option.some.inj hfj; exact eqF_any hh
          | 6 => obtain rfl := Option.some.inj hfj; exact eqF_any hh
          | 7 => obtain rfl := Option.some.inj hfj; exact eqF_any hh
          | 8 => obtain rfl := Option.some.inj hfj; exact nwF_row hh hbN _
          | 9 => obtain rfl := Option.some.inj hfj; exact bdF_any hh
          | 10 => obtain rfl := Option.some.inj hfj; exact stF_row hh (by omega) _
          | 12 => obtain rfl := Option.some.inj hfj; exact eqF_any hh
          | 11 => exact absurd rfl hj
          | j + 13 => simp at hfj
    · exact Facts.pure hS hF (fun _ _ => rfl) rfl (fun x wv hSw hd => by
        go_simp)
    rintro x w9 ⟨_, _, _, _, _, _, hA, hbel9⟩ hf
    have e0 := eqF_get (hf 0 _ (by decide) rfl)
    have e1 := eqF_get (hf 1 _ (by decide) rfl)
    have e2 := eqF_get (hf 2 _ (by decide) rfl)
    obtain ⟨n3, p3, l3, c3, e3, hN3⟩ := nwF_get (hf 3 _ (by decide) rfl)
    obtain ⟨n8, p8, l8, c8, e8, hN8⟩ := nwF_get (hf 8 _ (by decide) rfl)
    obtain ⟨m, q, j, d, f10, b10⟩ := stF_get (hf 10 _ (by decide) rfl)
    obtain ⟨m', q', j', d', f11, b11⟩ := stF_get (hf 11 _ (by decide) rfl)
    have e12 := eqF_get (hf 12 _ (by decide) rfl)
    rw [e3] at f10
    rw [e8] at f11
    simp at f10 f11
    obtain ⟨rfl, rfl, rfl, rfl⟩ := f10
    obtain ⟨rfl, rfl, rfl, rfl⟩ := f11
    have i1 := Idn.Is.off h2 h3 hA sA ia
    have i2 := Idn.Is.off h2 h3 hA sB ib
    simp only [e12]
    go_wp2
    exact bodyPost_ret (results_sse rfl rfl b10 rfl b11) rfl ⟨_, _, _, _, _, _, _, _, _, _, _, _, _, _, _, _, rfl, i1, hN3.here, i2, hN8.here, hbel9⟩
end Go.Proofs.Ytmcajjdijjcpkaa
