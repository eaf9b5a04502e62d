import Derived.Test.YtjbbmcommnhgeaaGreatPc5
import Derived.WalkMore
set_option maxRecDepth 100000
set_option maxHeartbeats 8000000
namespace Go.Proofs.YtjbbmcommnhgeaaGreat
open Go.RowKit
def ups (l : List El) : List Nat := (List.range (l.length + 1)).map (upL l)
theorem ups_len (l : List El) : (ups l).length = l.length + 1 := by simp [ups]
theorem ups_at {l : List El} {k : Nat} (h : k < (ups l).length) : (ups l)[k] = upL l k := by simp [ups]
def upk (l : List El) (k : Nat) : List Nat := (List.range (l.length + 1)).map (fun i => if i ≤ k then upL l i else 0)
theorem upk_len (l : List El) (k : Nat) : (upk l k).length = l.length + 1 := by simp [upk]
theorem upk_zero (l : List El) : upk l 0 = List.replicate (l.length + 1) 0 := by
 apply List.ext_getElem
 ·simp [upk]
 ·intro i h1 h2
  simp [upk]
  intro h
  subst h
  exact upL_zero l
theorem upk_all (l : List El) : upk l l.length = ups l := by
 apply List.ext_getElem
 ·simp [upk, ups]
 ·intro i h1 h2
  rw [upk_len] at h1
  simp only [upk, ups, List.getElem_map, List.getElem_range]
  rw [if_pos (by omega)]
theorem upk_same {l : List El} {k : Nat} (h : upL l (k + 1) = 0) : upk l (k + 1) = upk l k := by
 apply List.ext_getElem
 ·simp [upk]
 ·intro i h1 h2
  simp only [upk, List.getElem_map, List.getElem_range]
  by_cases h3 : i ≤ k
  ·rw [if_pos h3, if_pos (by omega)]
  ·rw [if_neg h3]
   split
   ·obtain rfl : i = k + 1 := by omega
    exact h
   ·rfl
theorem upk_set (l : List El) (k : Nat) : upk l (k + 1) = (upk l k).set (k + 1) (upL l (k + 1)) := by
 apply List.ext_getElem
 ·simp [upk]
 ·intro i h1 h2
  simp only [upk, List.getElem_map, List.getElem_range, List.getElem_set]
  by_cases h3 : k + 1 = i
  ·rw [if_pos h3, if_pos (by omega), h3]
  ·rw [if_neg h3]
   by_cases h4 : i ≤ k
   ·rw [if_pos h4, if_pos (by omega)]
   ·rw [if_neg h4, if_neg (by omega)]
def AhPost (l : List El) (w : World) (e : Ending) (w' : World) : Prop := (okR l = true ∧ ∃ g c, e = .returned (.tuple #[.slice (some ⟨g, 0, none⟩) (l.length + 1) c, .bool true]) ∧ w'.ownsRow w.heap.size 3 1 (.slice (some ⟨g, 0, none⟩) (l.length + 1) c) (l.length + 1) (iv (ups l)) ∧ Below w.heap.size w w') ∨ (okR l = false ∧ e = .returned (.tuple #[.slice none 0 0, .bool false]) ∧ Below w.heap.size w w')
theorem kz_eq (q u j : Int) : decide (((q, u, j) : K) = zK) = (decide (q = 0) && decide (u = 0) && decide (j = 0)) := by
 unfold zK
 by_cases h1 : q = 0 <;> by_cases h2 : u = 0 <;> by_cases h3 : j = 0 <;> simp [h1, h2, h3]
theorem aheads_any (v : Value) (l : List El) (w : World) (h : EHas w v l) (hl : l.length ≤ 100) (hp : l.Pairwise (fun a b => kl (kE a) (kE b) = true)) : Calls Tryz.prog 152 #[v] w (AhPost l w) := by
 have HE : Hid (EHas w v l) := h
 have HP : Hid (l.Pairwise (fun a b => kl (kE a) (kE b) = true)) := hp
 obtain ⟨ys, hys, h, hy⟩ := h
 have hml := maxLen_lt h.1
 obtain ⟨p, c, rfl⟩ := h.slice
 have hyl : ys.length = l.length := by rw [← hys, List.length_map]
 have HR : Hid (SHas 9 w (.slice p l.length c) l.length (rows El.cells ys)) := h
 have HY : Hid (∀ y ∈ ys, MHas w y.2 y.1.gone) := hy
 have HL : Hid (∀ k (h1 : k < ys.length) (h2 : k < l.length), ys[k].1 = l[k]) := fun k h1 h2 => by
  subst hys
  rw [List.getElem_map]
 obtain ⟨i0, hi, hz0, hz1, hz2⟩ := info_parts info3
 have wl : IntKind.i64.wrap ((l.length : Int) + 1) = ((l.length + 1 : Nat) : Int) := by rw [IntKind.wrap_i64]; omega
 have hmx : l.length + 1 ≤ maxLen := by simp [maxLen]; omega
 clear h hy hys hp
 go_enter Tryz.func152, Tryz.ntmps152
 go_wp2_with (first | refine wpList_make_full _ rfl _ _ 129 rfl w.heap.size 3 i0 (.int .i64 0) 1 Tryz.underlying129 hi hz0 hz1 .i64 .i64 _ _ (l.length + 1) rfl rfl (by go_simp) (by go_simp) (by rw [hz2]; omega) hmx (Nat.le_refl _) ?_)
 intro w1 ho hg1
 rw [iv_made] at ho
 have hb1 := bel_grown hg1
 generalize hG : w.heap.size = g at ho ⊢
 have HG : Hid (g = w.heap.size) := hG.symm
 clear hG hg1
 rw [← upk_zero] at ho
 have HOK : Hid (∀ k (h : k < l.length), okR l = true → rE l[k] = zK ∨ ∃ j, pl l (rE l[k]) = some j) := fun k h hk => okR_iff.1 hk _ (List.getElem_mem h)
 go_wp2_with fail
 go_loopw [15] (fun vi wr => ∃ k : Nat, vi = .int .i64 k ∧ k ≤ l.length ∧ Hid (∀ i (h : i < l.length), i < k → rE l[i] = zK ∨ ∃ j, pl l (rE l[i]) = some j) ∧ wr.ownsRow w.heap.size 3 1 (.slice (some ⟨g, 0, none⟩) (l.length + 1) (l.length + 1)) (l.length + 1) (iv (upk l k)) ∧ Below w.heap.size w wr) (fun vi _ => l.length - (intOf vi).toNat)
 case atStart => exact ⟨0, rfl, by omega, (show ∀ i (_ : i < l.length), i < 0 → _ from fun i _ h => by omega), by rw [HG.out] at ho ⊢; exact ho, hb1⟩
 case round =>
  obtain ⟨k, rfl, hk, HV, ho, hbel⟩ := hrel
  by_cases hlt : k < l.length
  ·have hlt' : (k : Int) < (l.length : Int) := by omega
   obtain ⟨g1, o, rfl, hd0⟩ := HR.out.at (by omega)
   have hd := range_later hd0 hbel
   have d : wr.rangeAt g1 (o + k * 9) (El.cells (ys[k]'(by omega))) := range_sub hd (k * 9) fun j u hu => rows_at El.len ys k (by omega) j u hu
   have hyk := (HY.out ys[k] (List.getElem_mem _)).later hbel
   obtain ⟨yy, HX⟩ := hid_ex (ys[k]'(by omega))
   have HX2 : Hid (l[k] = yy.1) := by
    show _ = _
    rw [← HL.out k (by omega) hlt, HX.out]
   rw [HX.out] at d hyk
   obtain ⟨y, yv⟩ := yy
   replace hyk : MHas wr yv y.gone := hyk
   obtain ⟨py, cy, rfl⟩ := hyk.slice
   replace d : wr.rangeAt g1 (o + k * 9) [Value.int .i64 y.p, .int .i64 y.s, .int .i64 y.i, .int .i64 y.t, .int .i64 y.q, .int .i64 y.u, .int .i64 y.j, .string y.x, .slice py y.gone.length cy] := d
   replace HX2 : Hid (l[k] = y) := HX2
   clear hd0 HR HY HX hyk hd
   have zb : (Tryz.prog.info? 69).map (·.size) = some [Value.int .i64 y.p, .int .i64 y.s, .int .i64 y.i, .int .i64 y.t, .int .i64 y.q, .int .i64 y.u, .int .i64 y.j, .string y.x, .slice py y.gone.length cy].length := size69
   have R := rw_new wr 69 #[.int .i64 y.p, .int .i64 y.s, .int .i64 y.i, .int .i64 y.t, .int .i64 y.q, .int .i64 y.u, .int .i64 y.j, .string y.x, .slice py y.gone.length cy]
   have hbA := bel_alloc (Below.refl wr.heap.size wr) (.cells #[.int .i64 y.p, .int .i64 y.s, .int .i64 y.i, .int .i64 y.t, .int .i64 y.q, .int .i64 y.u, .int .i64 y.j, .string y.x, .slice py y.gone.length cy] 69)
   replace ho := own_later ho hbA
   have hbB := below_on hbel hbA
   have E := fun w => eq_mark w y.q y.u y.j 0 0 0
   obtain ⟨t, HT⟩ := hid_ex (decide (rE y = zK))
   rw [show (decide (y.q = 0) && decide (y.u = 0) && decide (y.j = 0)) = t from (kz_eq _ _ _).symm.trans HT.out] at E
   have EV0 := HE.out.later hbB
   generalize hWA : wr.alloc (.cells #[.int .i64 y.p, .int .i64 y.s, .int .i64 y.i, .int .i64 y.t, .int .i64 y.q, .int .i64 y.u, .int .i64 y.j, .string y.x, .slice py y.gone.length cy] 69) = wa at R hbA hbB ho EV0
   have c0 : wa.cell? ⟨wr.heap.size, 4, none⟩ = some (.int .i64 y.q) := R.cell 4
   have c1 : wa.cell? ⟨wr.heap.size, 5, none⟩ = some (.int .i64 y.u) := R.cell 5
   have c2 : wa.cell? ⟨wr.heap.size, 6, none⟩ = some (.int .i64 y.j) := R.cell 6
   cases t
   ·have C1 := find_any _ l (rM y) wa EV0 hl HP.out
    have hne : rE y ≠ zK := by simpa using HT.out
    go_wp2_with (first | refine load_m 69 _ rfl rfl _ _ rfl d Tryz.underlying69 rfl zb ?_ | rw [hWA] | rw [E])
    refine C1.mono ?_
    clear C1 c0 c1 c2 hWA R d
    rintro e w2 ⟨k2, b, rfl, hk2, _, _, hpl, hb2⟩
    replace ho := own_later ho hb2
    replace hbB := below_on hbB hb2
    cases b
    ·have hok : okR l = false := by
      cases e : okR l
      ·rfl
      ·rcases okR_iff.1 e _ (List.getElem_mem hlt) with h | ⟨j, h⟩
       ·rw [HX2.out] at h
        exact absurd h hne
       ·rw [HX2.out] at h
        rw [if_neg (by simp)] at hpl
        rw [show rE y = kM (rM y) from rfl, hpl] at h
        cases h
     have HF : Hid (AhPost l w (.returned (.tuple #[.slice none 0 0, .bool false])) w2) := Or.inr ⟨hok, rfl, hbB⟩
     clear hok hpl HX2 HT HV ho
     go_wp2_with fail
     refine bodyPost_ret (v := .tuple #[.slice none 0 0, .bool false]) (by simp [results, Tryz.results152, go_sem]) rfl ?_
     exact HF.out
    ·have hu : upL l (k + 1) = k2 + 1 := by
      rw [if_pos rfl] at hpl
      rw [upL_succ hlt, HX2.out, if_neg hne, show rE y = kM (rM y) from rfl, hpl]
     have HV2 : Hid (∀ i (h : i < l.length), i < k + 1 → rE l[i] = zK ∨ ∃ j, pl l (rE l[i]) = some j) := fun i h hi => by
      rcases Nat.lt_or_ge i k with h' | h'
      ·exact HV.out i h h'
      ·obtain rfl : i = k := by omega
       rw [HX2.out]
       exact Or.inr ⟨k2, hpl⟩
     have hcl : w2.cell? ⟨g, k + 1, none⟩ = some (.int .i64 ((upk l k)[k + 1]'(by rw [upk_len]; omega) : Int)) := own_iat ho (by rw [upk_len]; omega)
     have hfz := own_fz ho (k + 1)
     have ho2 := own_iset ho (k + 1) (k2 + 1)
     rw [← hu, ← upk_set, hu] at ho2
     have hge := (own_ge ho).1
     have w3 : IntKind.i64.wrap ((k : Int) + 1) = ((k + 1 : Nat) : Int) := by rw [IntKind.wrap_i64]; omega
     have w4 : IntKind.i64.wrap ((k2 : Int) + 1) = ((k2 + 1 : Nat) : Int) := by rw [IntKind.wrap_i64]; omega
     have hk3 : ((k + 1 : Nat) : Int) < ((l.length + 1 : Nat) : Int) := by omega
     have hbC := below_cell hbB hge (k + 1) (.int .i64 ((k2 + 1 : Nat) : Int))
     clear hpl HX2 HT HV ho hu hbB
     go_wp2_with fail
     go_roundw
     case rel => exact ⟨k + 1, by simp, by omega, HV2, ho2, hbC⟩
     case measure => simp [intOf]; omega
   ·have he : rE y = zK := by simpa using HT.out
    have HV2 : Hid (∀ i (h : i < l.length), i < k + 1 → rE l[i] = zK ∨ ∃ j, pl l (rE l[i]) = some j) := fun i h hi => by
     rcases Nat.lt_or_ge i k with h' | h'
     ·exact HV.out i h h'
     ·obtain rfl : i = k := by omega
      rw [HX2.out]
      exact Or.inl he
    have hu : upL l (k + 1) = 0 := by rw [upL_succ hlt, HX2.out, if_pos he]
    rw [← upk_same hu] at ho
    clear HX2 HT HV
    go_wp2_with (first | refine load_m 69 _ rfl rfl _ _ rfl d Tryz.underlying69 rfl zb ?_ | rw [hWA] | rw [E])
    go_roundw
    case rel => exact ⟨k + 1, by simp, by omega, HV2, ho, hbB⟩
    case measure => simp [intOf]; omega
  ·have hlt' : ¬ (k : Int) < (l.length : Int) := by omega
   obtain rfl : k = l.length := by omega
   have hok : okR l = true := okR_iff.2 (fun e he => by
    obtain ⟨i, hi, rfl⟩ := List.getElem_of_mem he
    exact HV.out i hi hi)
   rw [upk_all] at ho
   have HF : Hid (AhPost l w (.returned (.tuple #[.slice (some ⟨g, 0, none⟩) (l.length + 1) (l.length + 1), .bool true])) wr) := Or.inl ⟨hok, _, _, rfl, ho, hbel⟩
   clear ho HV hok HOK HR HY HL HE HP
   go_wp2_with fail
   refine bodyPost_ret (v := .tuple #[.slice (some ⟨g, 0, none⟩) (l.length + 1) (l.length + 1), .bool true]) (by simp [results, Tryz.results152, go_sem]) rfl ?_
   exact HF.out
theorem rt_on {f : Nat → Nat} (h0 : f 0 = 0) {k : Nat} (h : rt f k) : ∀ i, rt f (it f i k)
 | 0 => h
 | i + 1 => by rw [it_succ]; exact rt_down h0 (rt_on h0 h i)
def isZ : Option Value → Bool
 | some (.int _ v) => decide (v = 0)
 | _ => false
def mz (g n : Nat) (w : World) : Nat := (List.range n).countP (fun i => isZ (w.cell? ⟨g, i, none⟩))
theorem mz_eq {w : World} {B e g c n : Nat} {W : List Nat} (h : w.ownsRow B e 1 (.slice (some ⟨g, 0, none⟩) n c) n (iv W)) : mz g n w = (List.range W.length).countP (fun i => decide (W[i]? = some 0)) := by
 have hn : W.length = n := by
  have := h.1
  rw [iv_len] at this
  omega
 subst hn
 unfold mz
 apply List.countP_congr
 intro i hi
 rw [List.mem_range] at hi
 rw [own_iat h hi, List.getElem?_eq_getElem hi]
 simp [isZ]
theorem mz_less {W : List Nat} {a k : Nat} (ha : a < W.length) (h0 : W[a] = 0) (hk : k ≠ 0) : (List.range (W.set a k).length).countP (fun i => decide ((W.set a k)[i]? = some 0)) < (List.range W.length).countP (fun i => decide (W[i]? = some 0)) := by
 rw [List.length_set]
 obtain ⟨b, hb⟩ : ∃ b, W.length = a + 1 + b := ⟨W.length - (a + 1), by omega⟩
 have e : List.range W.length = List.range a ++ a :: (List.range b).map (a + 1 + ·) := by
  rw [hb, List.range_add, List.range_succ, List.append_assoc]
  rfl
 rw [e, List.countP_append, List.countP_append, List.countP_cons, List.countP_cons]
 have e1 : (List.range a).countP (fun i => decide ((W.set a k)[i]? = some 0)) = (List.range a).countP (fun i => decide (W[i]? = some 0)) := List.countP_congr (fun i hi => by
  rw [List.mem_range] at hi
  rw [List.getElem?_set_ne (by omega)])
 have e2 : ((List.range b).map (a + 1 + ·)).countP (fun i => decide ((W.set a k)[i]? = some 0)) = ((List.range b).map (a + 1 + ·)).countP (fun i => decide (W[i]? = some 0)) := List.countP_congr (fun i hi => by
  rw [List.mem_map] at hi
  obtain ⟨j, _, rfl⟩ := hi
  rw [List.getElem?_set_ne (by omega)])
 rw [e1, e2]
 simp [ha, h0, hk]
def RgPost (up : List Nat) (w : World) (e : Ending) (w' : World) : Prop := ∃ b : Bool, e = .returned (.bool b) ∧ (b = false ↔ ∀ k, k < up.length → rt (fun i => up.getD i 0) k) ∧ Below w.heap.size w w'
theorem hasRing_any (B g1 c : Nat) (up : List Nat) (w : World) (h : w.ownsRow B 3 1 (.slice (some ⟨g1, 0, none⟩) up.length c) up.length (iv up)) (hl : up.length ≤ 101) (h0 : up.getD 0 0 = 0) (hu : ∀ k (h : k < up.length), up[k] < up.length) : Calls Tryz.prog 153 #[.slice (some ⟨g1, 0, none⟩) up.length c] w (RgPost up w) := by
 obtain ⟨f, hf⟩ : ∃ f : Nat → Nat, f = fun i => up.getD i 0 := ⟨_, rfl⟩
 have HR : Hid (w.ownsRow B 3 1 (.slice (some ⟨g1, 0, none⟩) up.length c) up.length (iv up)) := h
 have HZ : Hid (f 0 = 0) := by rw [hf]; exact h0
 have HU : Hid (∀ k (h : k < up.length), up[k] = f k ∧ f k < up.length) := fun k h => by
  have e : f k = up[k] := by rw [hf]; simp [h]
  rw [e]
  exact ⟨rfl, hu k h⟩
 have HP : Hid (∀ e w', RgPost up w e w' ↔ ∃ b : Bool, e = .returned (.bool b) ∧ (b = false ↔ ∀ k, k < up.length → rt f k) ∧ Below w.heap.size w w') := fun e w' => by unfold RgPost; rw [hf]
 obtain ⟨Q, HQ⟩ : ∃ Q, Hid (RgPost up w = Q) := ⟨_, rfl⟩
 rw [HQ.out]
 obtain ⟨i0, hi, hz0, hz1, hz2⟩ := info_parts info3
 have hmx : up.length ≤ maxLen := by simp [maxLen]; omega
 clear h h0 hu hf
 go_enter Tryz.func153, Tryz.ntmps153
 go_wp2_with fail
 go_step3
 go_wp2_with (first | refine wpList_make_full _ rfl _ _ 129 rfl w.heap.size 3 i0 (.int .i64 0) 1 Tryz.underlying129 hi hz0 hz1 .i64 .i64 _ _ up.length rfl rfl rfl rfl (by rw [hz2]; omega) hmx (Nat.le_refl _) ?_)
 intro w1 ho hg1
 rw [iv_made] at ho
 have hb1 := bel_grown hg1
 generalize hG : w.heap.size = g at ho ⊢
 have HG : Hid (g = w.heap.size) := hG.symm
 clear hG hg1
 go_wp2_with fail
 go_step3
 go_wp2_with fail
 go_loopw [11] (fun vi wr => ∃ (k : Nat) (W : List Nat), vi = .int .i64 k ∧ k ≤ up.length ∧ W.length = up.length ∧ Hid (∀ a (h : a < W.length), W[a] ≠ 0 → rt f a ∧ W[a] < k) ∧ Hid (∀ j, j < k → rt f j) ∧ wr.ownsRow w.heap.size 3 1 (.slice (some ⟨g, 0, none⟩) up.length up.length) up.length (iv W) ∧ Below w.heap.size w wr) (fun vi _ => up.length - (intOf vi).toNat)
 case atStart => exact ⟨0, List.replicate up.length 0, rfl, by omega, by simp, (show ∀ a (_ : a < _), _ from fun a h hn => absurd (by simp) hn), (show ∀ j, j < 0 → _ from fun j h => by omega), by rw [HG.out] at ho ⊢; exact ho, hb1⟩
 case round =>
  obtain ⟨k, W, rfl, hk, hW, HV, HJ, ho, hbel⟩ := hrel
  by_cases hlt : k < up.length
  ·have hlt' : (k : Int) < (up.length : Int) := by omega
   go_wp2_with fail
   go_loopw [5] (fun va wr => ∃ (j : Nat) (W : List Nat), va = .int .i64 (it f j k) ∧ it f j k < up.length ∧ W.length = up.length ∧ Hid (∀ i, i < j → it f i k ≠ 0) ∧ Hid (∀ a (h : a < W.length), W[a] ≠ 0 → (rt f a ∧ W[a] < k) ∨ (W[a] = k ∧ ∃ i, i < j ∧ a = it f i k)) ∧ wr.ownsRow w.heap.size 3 1 (.slice (some ⟨g, 0, none⟩) up.length up.length) up.length (iv W) ∧ Below w.heap.size w wr) (fun _ wr => mz g up.length wr)
   case atStart => exact ⟨0, W, rfl, hlt, hW, (show ∀ i, i < 0 → _ from fun i h => by omega), (show ∀ a (_ : a < _), _ from fun a h hn => Or.inl (HV.out a h hn)), ho, hbel⟩
   case round =>
    clear HV ho hbel hW W
    obtain ⟨j, W, rfl, hat, hW, HN, HV, ho, hbel⟩ := hrel
    obtain ⟨a, HA⟩ := hid_ex (it f j k)
    rw [HA.out] at hat ⊢
    by_cases ha : a = 0
    ·subst ha
     have HV2 : Hid (∀ a (h : a < W.length), W[a] ≠ 0 → rt f a ∧ W[a] < k + 1) := fun b hb hn => by
      have hrk : rt f k := ⟨j, HA.out⟩
      rcases HV.out b hb hn with h | ⟨h, i, hi, e⟩
      ·exact ⟨h.1, by omega⟩
      ·rw [h, e]
       exact ⟨rt_on HZ.out hrk i, by omega⟩
     have HJ2 : Hid (∀ j, j < k + 1 → rt f j) := fun i hi => by
      rcases Nat.lt_or_ge i k with h' | h'
      ·exact HJ.out i h'
      ·obtain rfl : i = k := by omega
       exact ⟨j, HA.out⟩
     clear HV HJ HN
     go_wp2_with fail
     go_roundw
     case rel => exact ⟨k + 1, W, by simp, by omega, hW, HV2, HJ2, ho, hbel⟩
     case measure => simp [intOf]; omega
    ·have ha' : ¬ ((a : Int) = 0) := by omega
     have haW : a < W.length := by omega
     have hcl := own_iat ho haW
     have hfz := own_fz ho a
     have hal : (a : Int) < (up.length : Int) := by omega
     have ha0 : (0 : Int) ≤ (a : Int) := by omega
     have hup := own_iat (own_later HR.out hbel) hat
     have HUa := HU.out a hat
     rw [HUa.1] at hup
     obtain ⟨x, HX⟩ := hid_ex (W[a])
     rw [HX.out] at hcl
     by_cases hx0 : x = 0
     ·subst hx0
      have hk0 : k ≠ 0 := fun e => by
       rw [e, it_zero HZ.out] at HA
       exact ha HA.out.symm
      have ho2 := own_iset ho a k
      have hge := (own_ge ho).1
      have hlo := (own_ge HR.out).2
      have hup2 := own_iat (own_over (own_later HR.out hbel) (b := g) (fun q hq => by simp [Value.ownBlock] at hq; omega) a (.int .i64 (k : Int))) hat
      rw [HUa.1] at hup2
      have hbC := below_cell hbel hge a (.int .i64 (k : Int))
      have HN2 : Hid (∀ i, i < j + 1 → it f i k ≠ 0) := fun i hi => by
       rcases Nat.lt_or_ge i j with h' | h'
       ·exact HN.out i h'
       ·obtain rfl : i = j := by omega
        rw [HA.out]
        exact ha
      have HV2 : Hid (∀ b (h : b < (W.set a k).length), (W.set a k)[b] ≠ 0 → (rt f b ∧ (W.set a k)[b] < k) ∨ ((W.set a k)[b] = k ∧ ∃ i, i < j + 1 ∧ b = it f i k)) := fun b hb hn => by
       rw [List.getElem_set] at hn ⊢
       by_cases hab : a = b
       ·rw [if_pos hab]
        exact Or.inr ⟨rfl, j, by omega, by rw [HA.out, hab]⟩
       ·rw [if_neg hab] at hn ⊢
        rw [List.length_set] at hb
        rcases HV.out b hb hn with h | ⟨h, i, hi, e⟩
        ·exact Or.inl h
        ·exact Or.inr ⟨h, i, by omega, e⟩
      have HS : Hid (f a = it f (j + 1) k) := by
       show _ = _
       rw [it_succ, HA.out]
      have hms : mz g up.length (wr.setCell ⟨g, a, none⟩ (.int .i64 (k : Int))) < mz g up.length wr := by
       rw [mz_eq ho2, mz_eq ho]
       exact mz_less haW HX.out hk0
      have HMS : Hid (mz g up.length (wr.setCell ⟨g, a, none⟩ (.int .i64 (k : Int))) < mz g up.length wr) := hms
      clear hms HV HN hup HX
      go_wp2_with fail
      go_roundw
      case rel => exact ⟨j + 1, W.set a k, by rw [HS.out], by rw [← HS.out]; exact HUa.2, by rw [List.length_set]; exact hW, HN2, HV2, ho2, hbC⟩
      case measure => exact HMS.out
     ·have hx0' : ¬ ((x : Int) = 0) := by omega
      by_cases hxk : x = k
      ·have HF : Hid (Q (.returned (.bool true)) wr) := by
        show Q _ _
        rw [← HQ.out, HP.out]
        refine ⟨true, rfl, ⟨fun e => by (cases e), fun hall => ?_⟩, hbel⟩
        obtain ⟨m, hm⟩ := hall k hlt
        rcases HV.out a haW (by rw [HX.out]; exact hx0) with h | ⟨_, i, hi, e⟩
        ·rw [HX.out] at h
         omega
        ·exact absurd hm (ring_not hi HN.out (by rw [HA.out, e]) m)
       subst hxk
       clear HP HQ HV HN HX HA HU HJ
       go_wp2_with fail
       exact HF.out
      ·have hxk' : ¬ ((x : Int) = (k : Int)) := by omega
       have hra : rt f a := by
        rcases HV.out a haW (by rw [HX.out]; exact hx0) with h | ⟨h, _⟩
        ·exact h.1
        ·rw [HX.out] at h
         exact absurd h hxk
       have hrk : rt f k := rt_it j (by rw [HA.out]; exact hra)
       have HV2 : Hid (∀ a (h : a < W.length), W[a] ≠ 0 → rt f a ∧ W[a] < k + 1) := fun b hb hn => by
        rcases HV.out b hb hn with h | ⟨h, i, hi, e⟩
        ·exact ⟨h.1, by omega⟩
        ·rw [h, e]
         exact ⟨rt_on HZ.out hrk i, by omega⟩
       have HJ2 : Hid (∀ j, j < k + 1 → rt f j) := fun i hi => by
        rcases Nat.lt_or_ge i k with h' | h'
        ·exact HJ.out i h'
        ·obtain rfl : i = k := by omega
         exact hrk
       clear HV HJ HN HX
       go_wp2_with fail
       go_roundw
       case rel => exact ⟨k + 1, W, by simp, by omega, hW, HV2, HJ2, ho, hbel⟩
       case measure => simp [intOf]; omega
  ·have hlt' : ¬ (k : Int) < (up.length : Int) := by omega
   obtain rfl : k = up.length := by omega
   have HF : Hid (Q (.returned (.bool false)) wr) := by
    show Q _ _
    rw [← HQ.out, HP.out]
    exact ⟨false, rfl, ⟨fun _ => HJ.out, fun _ => rfl⟩, hbel⟩
   clear ho HV HJ HR HU HP HQ
   go_wp2_with fail
   exact HF.out
theorem ups_fun (l : List El) : (fun i => (ups l).getD i 0) = upL l := by
 funext i
 by_cases h : i < l.length + 1
 ·rw [List.getD_eq_getElem?_getD, List.getElem?_eq_getElem (by rw [ups_len]; exact h), Option.getD_some, ups_at]
 ·rw [List.getD_eq_getElem?_getD, List.getElem?_eq_none (by rw [ups_len]; omega)]
  unfold upL
  rw [if_neg (by omega), List.getElem?_eq_none (by omega)]
  rfl
theorem checkRefs_any (v : Value) (l : List El) (w : World) (h : EHas w v l) (hl : l.length ≤ 100) (hp : l.Pairwise (fun a b => kl (kE a) (kE b) = true)) : Calls Tryz.prog 128 #[v] w (Tells (.bool (cr l)) w) := by
 obtain ⟨z, HZ⟩ := hid_ex (cr l)
 rw [HZ.out]
 have C1 := aheads_any v l w h hl hp
 obtain ⟨p, c, rfl⟩ := h.slice
 clear h hp
 go_enter Tryz.func128, Tryz.ntmps128
 go_wp2_with fail
 refine C1.mono ?_
 clear C1
 rintro e w1 (⟨hok, g, c1, rfl, ho, hb1⟩ | ⟨hok, rfl, hb1⟩)
 ·have C2 := hasRing_any w.heap.size g c1 (ups l) w1 (by rw [ups_len]; exact ho) (by rw [ups_len]; omega) (by rw [show (ups l).getD 0 0 = (fun i => (ups l).getD i 0) 0 from rfl, ups_fun]; rfl) (fun k h => by rw [ups_at, ups_len]; have := upL_le l k; omega)
  rw [ups_len] at C2
  have HE : Hid (∀ b : Bool, (b = false ↔ ∀ k, k < (ups l).length → rt (fun i => (ups l).getD i 0) k) → (!b) = z) := fun b hb => by
   rw [ups_fun, ups_len] at hb
   rw [← HZ.out]
   unfold cr
   rw [hok, Bool.true_and]
   cases b
   ·rw [Bool.not_false, noR_iff.2 (fun k hk => hb.1 rfl k (by omega))]
   ·cases e : noR l
    ·rfl
    ·have := hb.2 (fun k hk => noR_iff.1 e k (by omega))
     cases this
  clear HZ hok ho
  go_wp2_with fail
  refine C2.mono ?_
  rintro e w2 ⟨b, rfl, hb, hb2⟩
  have e := HE.out b hb
  subst e
  clear hb HE C2
  go_wp2_with fail
  go_ret
  exact ⟨rfl, below_on hb1 hb2⟩
 ·obtain rfl : z = false := by
   rw [← HZ.out]
   unfold cr
   rw [hok]
   rfl
  clear HZ hok
  go_wp2_with fail
  go_ret
  exact ⟨rfl, hb1⟩
theorem check_any (x : X) (va vw vm ve : Value) (w : World) (h : Four w x va vw vm ve) (hs : Sm x) : Calls Tryz.prog 86 #[CV x.k x.b va vw vm ve] w (Tells (.bool (ck x)) w) := by
 obtain ⟨z, HZ⟩ := hid_ex (ck x)
 rw [HZ.out]
 obtain ⟨pa, ca', pw, cw, pm, cm, pe, ce', rfl, rfl, rfl, rfl⟩ := h.slices
 have HA : Hid (EHas w (.slice pe x.el.length ce') x.el) := h.e
 clear h
 obtain ⟨ha, ht, hm, he, _, _⟩ := hs
 have w1 : IntKind.i64.wrap ((x.am.length : Int) + (x.wr.length : Int)) = (x.am.length : Int) + (x.wr.length : Int) := by rw [IntKind.wrap_i64]; omega
 have w2 : IntKind.i64.wrap ((x.am.length : Int) + (x.wr.length : Int) + (x.mb.length : Int)) = (x.am.length : Int) + (x.wr.length : Int) + (x.mb.length : Int) := by rw [IntKind.wrap_i64]; omega
 have hz : Hid (z = (decide (x.k = 5) && (decide (x.b = 0) && (decide (x.am.length + x.wr.length + x.mb.length = 0) && (ce x.el && cr x.el))))) := by
  show _ = _
  rw [← HZ.out]
  rfl
 clear HZ
 by_cases hk : x.k = 5
 ·by_cases hb : x.b = 0
  ·by_cases h0 : x.am.length + x.wr.length + x.mb.length = 0
   ·have h0' : (x.am.length : Int) + (x.wr.length : Int) + (x.mb.length : Int) = 0 := by omega
    obtain ⟨y1, HY1⟩ := hid_ex (ce x.el)
    have hz2 : Hid (z = (y1 && cr x.el)) := by
     show _ = _
     have := hz.out
     rw [HY1.out] at this
     simpa [hk, hb, h0] using this
    clear hz
    go_enter Tryz.func86, Tryz.ntmps86
    go_wp2_with fail
    refine (checkElems_any _ _ _ (HA.out.later (bel_alloc (Below.refl _ _) _))).mono ?_
    rintro e w2 ⟨rfl, hb2⟩
    rw [HY1.out]
    have cE : w2.cell? ⟨w.heap.size, 5, none⟩ = some (.slice pe x.el.length ce') := ((rw_new w 27 (cvc 5 0 (.slice pa x.am.length ca') (.slice pw x.wr.length cw) (.slice pm x.mb.length cm) (.slice pe x.el.length ce'))).later hb2).cell 5
    replace hb2 := below_on (bel_alloc (Below.refl _ _) _) hb2
    cases y1
    ·obtain rfl : z = false := by have := hz2.out; simpa using this
     clear HY1 hz2
     go_wp2_with fail
     go_ret
     exact ⟨rfl, hb2⟩
    ·obtain rfl : z = cr x.el := by have := hz2.out; simpa using this
     have C2 := checkRefs_any _ _ w2 (HA.out.later hb2) he (ce_up HY1.out)
     clear HY1 hz2
     go_wp2_with fail
     refine C2.mono ?_
     clear C2
     rintro e w3 ⟨rfl, hb3⟩
     go_wp2_with fail
     go_ret
     exact ⟨rfl, below_on hb2 hb3⟩
   ·have h0' : ¬ (x.am.length : Int) + (x.wr.length : Int) + (x.mb.length : Int) = 0 := by omega
    obtain rfl : z = false := by have := hz.out; rw [decide_eq_false h0] at this; simpa using this
    clear hz h0
    go_enter Tryz.func86, Tryz.ntmps86
    go_wp2_with fail
    go_ret
    exact ⟨rfl, bel_alloc (Below.refl _ _) _⟩
  ·obtain rfl : z = false := by have := hz.out; rw [decide_eq_false hb] at this; simpa using this
   clear hz
   go_enter Tryz.func86, Tryz.ntmps86
   go_wp2_with fail
   go_ret
   exact ⟨rfl, bel_alloc (Below.refl _ _) _⟩
 ·obtain rfl : z = false := by have := hz.out; rw [decide_eq_false hk] at this; simpa using this
  clear hz
  go_enter Tryz.func86, Tryz.ntmps86
  go_wp2_with fail
  go_ret
  exact ⟨rfl, bel_alloc (Below.refl _ _) _⟩
structure Bxs (w : World) (bt bi : Nat) (q u : Int) (v : List Int) (t : Int) (sl : Value) (idx : Int) : Prop where
 r : Rw w bt 34 (txc q u v t sl).toArray
 c : Rw w bi 3 #[.int .i64 idx]
theorem Bxs.later {w w' : World} {bt bi : Nat} {q u : Int} {v : List Int} {t : Int} {sl : Value} {idx : Int} (h : Bxs w bt bi q u v t sl idx) (hb : Below w.heap.size w w') : Bxs w' bt bi q u v t sl idx := ⟨h.r.later hb, h.c.later hb⟩
theorem Bxs.row {w : World} {bt bi : Nat} {q u : Int} {v : List Int} {t : Int} {sl : Value} {idx : Int} (h : Bxs w bt bi q u v t sl idx) {g : Nat} (h1 : bt ≠ g) (h2 : bi ≠ g) (cs : Array Value) : Bxs (w.setRow g cs) bt bi q u v t sl idx := ⟨h.r.rowOther h1 cs, h.c.rowOther h2 cs⟩
theorem takes1_any (y : M) (bt bi : Nat) (q u : Int) (v : List Int) (t : Int) (sl : Value) (idx : Int) (w : World) (hv : v.length = 13) (B : Bxs w bt bi q u v t sl idx) :
  Calls Tryz.prog 131 #[MV y.p y.s y.i, .pointer (some ⟨bt, 0, none⟩), .pointer (some ⟨bi, 0, none⟩)] w (Tells (.bool (bf y.p y.s y.i q u v idx)) w) := by
 have C1 := fun w => before_any y.p y.s y.i q u v t sl idx w hv
 generalize bf y.p y.s y.i q u v idx = z at C1 ⊢
 have hbel := bel_alloc (Below.refl w.heap.size w) (.cells #[.int .i64 y.p, .int .i64 y.s, .int .i64 y.i] 50)
 have R0 := rw_new w 50 #[.int .i64 y.p, .int .i64 y.s, .int .i64 y.i]
 have R1 := B.r.later hbel
 have c1 : (w.alloc (.cells #[.int .i64 y.p, .int .i64 y.s, .int .i64 y.i] 50)).cell? ⟨bi, 0, none⟩ = some (.int .i64 idx) := (B.c.later hbel).cell 0
 generalize hW : w.alloc (.cells #[.int .i64 y.p, .int .i64 y.s, .int .i64 y.i] 50) = w0 at hbel R0 R1 c1
 have zt := size_tx (p := q) (s := u) (t := t) (sl := sl) hv
 go_enter Tryz.func131, Tryz.ntmps131
 go_wp2_with (first | rw [hW] | refine load_r 50 _ rfl rfl _ rfl R0 Tryz.underlying50 rfl size50 ?_ | refine load_r 34 _ rfl rfl _ rfl R1 Tryz.underlying34 rfl zt ?_)
 refine (C1 _).mono ?_
 rintro e w1 ⟨rfl, hb1⟩
 go_wp2_with fail
 go_ret
 exact ⟨rfl, below_on hbel hb1⟩
def Bxc (w : World) (bt : Nat) (v : List Int) : Prop := At w bt v
theorem Bxc.later {w w' : World} {bt : Nat} {v : List Int} (h : Bxc w bt v) (hb : Below w.heap.size w w') : Bxc w' bt v := At.later h hb
theorem Bxc.row {w : World} {bt : Nat} {v : List Int} (h : Bxc w bt v) {g : Nat} (h1 : bt ≠ g) (cs : Array Value) : Bxc (w.setRow g cs) bt v := At.rowOther h h1 cs
def IxPost (l : List M) (f : M → Bool) (w : World) (e : Ending) (w' : World) : Prop :=
 (e = .returned (.int .i64 (-1)) ∧ (∀ y ∈ l, f y = false) ∧ Below w.heap.size w w') ∨ ∃ k : Nat, ∃ h : k < l.length, e = .returned (.int .i64 k) ∧ f l[k] = true ∧ (∀ j (hj : j < l.length), j < k → f l[j] = false) ∧ Below w.heap.size w w'
theorem index_any (v0 : Value) (l : List M) (f : M → Bool) (bt bi : Nat) (w : World) (h : MHas w v0 l) (hl : l.length ≤ 100) (C : ∀ (y : M) (w' : World), Below w.heap.size w w' → Calls Tryz.prog 131 #[MV y.p y.s y.i, .pointer (some ⟨bt, 0, none⟩), .pointer (some ⟨bi, 0, none⟩)] w' (Tells (.bool (f y)) w')) :
  Calls Tryz.prog 151 #[v0, .func (.func 131) #[] #[.pointer (some ⟨bt, 0, none⟩), .pointer (some ⟨bi, 0, none⟩)]] w (IxPost l f w) := by
 obtain ⟨pa, ca', rfl⟩ := h.slice
 have HA : Hid (MHas w (.slice pa l.length ca') l) := h
 clear h
 go_enter Tryz.func151, Tryz.ntmps151
 go_wp2
 go_loopw [8] (fun vi wr => ∃ k : Nat, vi = .int .i64 k ∧ k ≤ l.length ∧ Hid (∀ j (hj : j < l.length), j < k → f l[j] = false) ∧ Below w.heap.size w wr) (fun vi _ => l.length - (intOf vi).toNat)
 case atStart => exact ⟨0, rfl, by omega, (show ∀ j (_ : j < l.length), j < 0 → _ from fun j _ h => by omega), Below.refl _ _⟩
 case round =>
  obtain ⟨k, rfl, hk, HV, hbel⟩ := hrel
  by_cases hlt : k < l.length
  ·have hlt' : (k : Int) < (l.length : Int) := by omega
   obtain ⟨g, o, rfl, hd0⟩ := HA.out.at (by omega)
   have d := M.elem (range_later hd0 hbel) k hlt
   clear hd0 HA
   obtain ⟨x, HX⟩ := hid_ex l[k]
   rw [HX.out] at d
   have zm : (Tryz.prog.info? 50).map (·.size) = some x.cells.length := size50
   have Cx := C x _ hbel
   obtain ⟨y, HY⟩ := hid_ex (f x)
   rw [HY.out] at Cx
   have HF : Hid (f l[k] = y) := by show _ = _; rw [HX.out, HY.out]
   clear C HX HY
   go_wp2_with (refine load_m 50 _ rfl rfl _ _ rfl d Tryz.underlying50 rfl zm ?_)
   refine Cx.mono ?_
   clear Cx
   rintro e w1 ⟨rfl, hb1⟩
   replace hbel := below_on hbel hb1
   cases y
   ·go_wp2_with fail
    go_roundw
    case rel =>
     refine ⟨k + 1, by simp, by omega, (show ∀ j (hj : j < l.length), j < k + 1 → f l[j] = false from fun j hj hjk => ?_), hbel⟩
     rcases Nat.lt_or_ge j k with h' | h'
     ·exact HV.out j hj h'
     ·obtain rfl : j = k := by omega
      exact HF.out
    case measure => simp [intOf]; omega
   ·go_wp2_with fail
    go_ret
    exact .inr ⟨k, hlt, rfl, HF.out, HV.out, hbel⟩
  ·have hlt' : ¬ (k : Int) < (l.length : Int) := by omega
   clear HA C
   go_wp2_with fail
   go_ret
   refine .inl ⟨rfl, fun y hy => ?_, hbel⟩
   obtain ⟨j, hj, rfl⟩ := List.getElem_of_mem hy
   exact HV.out j hj (by omega)
theorem clear1_any (y : M) (bt bi : Nat) (q u : Int) (v : List Int) (t : Int) (sl : Value) (idx : Int) (w : World) (hv : v.length = 13) (B : Bxs w bt bi q u v t sl idx) :
  Calls Tryz.prog 237 #[MV y.p y.s y.i, .pointer (some ⟨bt, 0, none⟩), .pointer (some ⟨bi, 0, none⟩)] w (Tells (.bool (bf y.p y.s y.i q u v idx)) w) := by
 have C1 := fun w => before_any y.p y.s y.i q u v t sl idx w hv
 generalize bf y.p y.s y.i q u v idx = z at C1 ⊢
 have hbel := bel_alloc (Below.refl w.heap.size w) (.cells #[.int .i64 y.p, .int .i64 y.s, .int .i64 y.i] 50)
 have R0 := rw_new w 50 #[.int .i64 y.p, .int .i64 y.s, .int .i64 y.i]
 have R1 := B.r.later hbel
 have c1 : (w.alloc (.cells #[.int .i64 y.p, .int .i64 y.s, .int .i64 y.i] 50)).cell? ⟨bi, 0, none⟩ = some (.int .i64 idx) := (B.c.later hbel).cell 0
 generalize hW : w.alloc (.cells #[.int .i64 y.p, .int .i64 y.s, .int .i64 y.i] 50) = w0 at hbel R0 R1 c1
 have zt := size_tx (p := q) (s := u) (t := t) (sl := sl) hv
 go_enter Tryz.func237, Tryz.ntmps237
 go_wp2_with (first | rw [hW] | refine load_r 50 _ rfl rfl _ rfl R0 Tryz.underlying50 rfl size50 ?_ | refine load_r 34 _ rfl rfl _ rfl R1 Tryz.underlying34 rfl zt ?_)
 refine (C1 _).mono ?_
 rintro e w1 ⟨rfl, hb1⟩
 go_wp2_with fail
 go_ret
 exact ⟨rfl, below_on hbel hb1⟩
theorem del1_any (y x : M) (br : Nat) (w : World) (R : Rw w br 50 #[.int .i64 x.p, .int .i64 x.s, .int .i64 x.i]) :
  Calls Tryz.prog 92 #[MV y.p y.s y.i, .pointer (some ⟨br, 0, none⟩)] w (Tells (.bool (decide (kM y = kM x))) w) := by
 have E := fun w => eq_mark w y.p y.s y.i x.p x.s x.i
 obtain ⟨z, HZ⟩ := hid_ex (decide (kM y = kM x))
 rw [show (decide (y.p = x.p) && decide (y.s = x.s) && decide (y.i = x.i)) = z from (kq y.p y.s y.i x).symm.trans HZ.out] at E
 rw [HZ.out]
 have hbel := bel_alloc (Below.refl w.heap.size w) (.cells #[.int .i64 y.p, .int .i64 y.s, .int .i64 y.i] 50)
 have R0 := rw_new w 50 #[.int .i64 y.p, .int .i64 y.s, .int .i64 y.i]
 replace R := R.later hbel
 generalize hW : w.alloc (.cells #[.int .i64 y.p, .int .i64 y.s, .int .i64 y.i] 50) = w0 at hbel R0 R
 clear HZ
 go_enter Tryz.func92, Tryz.ntmps92
 go_wp2_with (first | rw [hW] | refine load_r 50 _ rfl rfl _ rfl R0 Tryz.underlying50 rfl size50 ?_ | refine load_r 50 _ rfl rfl _ rfl R Tryz.underlying50 rfl size50 ?_ | rw [E])
 go_ret
 exact ⟨rfl, hbel⟩
theorem contains_any (v0 : Value) (l : List M) (f : M → Bool) (bt bi : Nat) (w : World) (h : MHas w v0 l) (hl : l.length ≤ 100) (C : ∀ (y : M) (w' : World), Below w.heap.size w w' → Calls Tryz.prog 131 #[MV y.p y.s y.i, .pointer (some ⟨bt, 0, none⟩), .pointer (some ⟨bi, 0, none⟩)] w' (Tells (.bool (f y)) w')) :
  Calls Tryz.prog 130 #[v0, .func (.func 131) #[] #[.pointer (some ⟨bt, 0, none⟩), .pointer (some ⟨bi, 0, none⟩)]] w (Tells (.bool (l.any f)) w) := by
 obtain ⟨z, HZ⟩ := hid_ex (l.any f)
 rw [HZ.out]
 obtain ⟨p, c, rfl⟩ := h.slice
 have C1 := index_any _ l f bt bi w h hl C
 clear h C
 go_enter Tryz.func130, Tryz.ntmps130
 go_wp2_with fail
 refine C1.mono ?_
 clear C1
 rintro e w1 (⟨rfl, hn, hb1⟩ | ⟨k, hk, rfl, hf, _, hb1⟩)
 ·obtain rfl : z = false := by
   rw [← HZ.out, List.any_eq_false]
   exact fun y hy => by rw [hn y hy]; simp
  clear HZ hn
  go_wp2_with fail
  go_ret
  exact ⟨rfl, hb1⟩
 ·obtain rfl : z = true := by
   rw [← HZ.out, List.any_eq_true]
   exact ⟨_, List.getElem_mem hk, hf⟩
  have hk0 : (0 : Int) ≤ (k : Int) := by omega
  clear HZ hf
  go_wp2_with fail
  go_ret
  exact ⟨rfl, hb1⟩
abbrev bfP (q u : Int) (v : List Int) (idx : Int) : M → Bool := fun y => bf y.p y.s y.i q u v idx
def tk (l : List El) (r : K) (p : M → Bool) : Bool := decide (r = zK) || (match l.find? (fun e => decide (kE e = r)) with
 | some e => !e.gone.any p
 | none => false)
theorem find_pl {l : List El} {r : K} : l.find? (fun e => decide (kE e = r)) = (pl l r).bind (fun k => l[k]?) := by
 unfold pl
 induction l with
 | nil => rfl
 | cons a t ih =>
  rw [List.find?_cons, List.findIdx?_cons]
  cases h : decide (kE a = r)
  ·rw [ih]
   cases List.findIdx? (fun e => decide (kE e = r)) t <;> simp
  ·simp
theorem takes_any (v0 : Value) (l : List El) (x : M) (q u : Int) (v : List Int) (t : Int) (sl : Value) (idx : Int) (w : World) (hv : v.length = 13) (h : EHas w v0 l) (hl : l.length ≤ 100) (hg : ∀ e ∈ l, e.gone.length ≤ 100) (hp : l.Pairwise (fun a b => kl (kE a) (kE b) = true)) :
  Calls Tryz.prog 88 #[v0, MV x.p x.s x.i, TxV q u v t sl, .int .i64 idx] w (Tells (.bool (tk l (kM x) (bfP q u v idx))) w) := by
 obtain ⟨z, HZ⟩ := hid_ex (tk l (kM x) (bfP q u v idx))
 rw [HZ.out]
 have b0 := Below.refl w.heap.size w
 have b1 := bel_alloc b0 (.cells #[.int .i64 x.p, .int .i64 x.s, .int .i64 x.i] 50)
 have b2 := bel_alloc b1 (.cells (txc q u v t sl).toArray 34)
 have b3 := bel_alloc b2 (.cells #[.int .i64 idx] 3)
 have R1 := ((rw_new w 50 #[.int .i64 x.p, .int .i64 x.s, .int .i64 x.i]).alloc (.cells (txc q u v t sl).toArray 34)).alloc (.cells #[.int .i64 idx] 3)
 have R2 := (rw_new (w.alloc (.cells #[.int .i64 x.p, .int .i64 x.s, .int .i64 x.i] 50)) 34 (txc q u v t sl).toArray).alloc (.cells #[.int .i64 idx] 3)
 have R3 := rw_new ((w.alloc (.cells #[.int .i64 x.p, .int .i64 x.s, .int .i64 x.i] 50)).alloc (.cells (txc q u v t sl).toArray 34)) 3 #[.int .i64 idx]
 simp only [World.size_alloc] at R2 R3
 generalize hW : ((w.alloc (.cells #[.int .i64 x.p, .int .i64 x.s, .int .i64 x.i] 50)).alloc (.cells (txc q u v t sl).toArray 34)).alloc (.cells #[.int .i64 idx] 3) = w0 at b3 R1 R2 R3
 have BX : Bxs w0 (w.heap.size + 1) (w.heap.size + 1 + 1) q u v t sl idx := ⟨R2, R3⟩
 have HB : Hid (Bxs w0 (w.heap.size + 1) (w.heap.size + 1 + 1) q u v t sl idx) := BX
 have E := fun w => eq_mark w x.p x.s x.i 0 0 0
 obtain ⟨y1, HY⟩ := hid_ex (decide (kM x = zK))
 rw [show (decide (x.p = 0) && decide (x.s = 0) && decide (x.i = 0)) = y1 from (kz_eq _ _ _).symm.trans HY.out] at E
 replace h := h.later b3
 obtain ⟨p0, c0, rfl⟩ := h.slice
 have HE : Hid (EHas w0 (.slice p0 l.length c0) l) := h
 have C1 := find_any _ l x w0 h hl hp
 clear b0 b1 b2 R2 R3 BX h
 cases y1
 ·have hne : kM x ≠ zK := by simpa using HY.out
  go_enter Tryz.func88, Tryz.ntmps88
  go_wp2_with (first | rw [hW] | refine load_r 50 _ rfl rfl _ rfl R1 Tryz.underlying50 rfl size50 ?_ | rw [E])
  clear hW E R1
  refine C1.mono ?_
  clear C1
  rintro e w1 ⟨k, b, rfl, hk, _, _, hpl, hb1⟩
  cases b
  ·obtain rfl : z = false := by
    rw [← HZ.out]
    unfold tk
    rw [find_pl, hpl, decide_eq_false hne]
    rfl
   clear HZ hpl HY HE
   go_wp2_with fail
   go_ret
   exact ⟨rfl, below_on b3 hb1⟩
  ·obtain ⟨hkl, ek⟩ := pl_some hpl
   have hz : Hid (z = !(l[k].gone.any (bfP q u v idx))) := by
    show _ = _
    rw [← HZ.out]
    unfold tk
    rw [find_pl, hpl, decide_eq_false hne]
    simp [hkl]
   obtain ⟨ys, hys, hS, hy⟩ := HE.out.later hb1
   have hyl : ys.length = l.length := by rw [← hys, List.length_map]
   obtain ⟨g1, o, rfl, hd⟩ := hS.at (by omega)
   have d : w1.rangeAt g1 (o + k * 9) (El.cells (ys[k]'(by omega))) := range_sub hd (k * 9) fun j u hu => rows_at El.len ys k (by omega) j u hu
   have hyk := hy ys[k] (List.getElem_mem _)
   have ey : l[k] = ys[k].1 := by
    subst hys
    rw [List.getElem_map]
   have hgk : ys[k].1.gone.length ≤ 100 := by rw [← ey]; exact hg _ (List.getElem_mem _)
   rw [ey] at hz
   obtain ⟨yy, HX⟩ := hid_ex (ys[k]'(by omega))
   rw [HX.out] at d hyk hgk hz
   obtain ⟨y, yv⟩ := yy
   replace hyk : MHas w1 yv y.gone := hyk
   replace hgk : y.gone.length ≤ 100 := hgk
   replace hz : Hid (z = !(y.gone.any (bfP q u v idx))) := hz
   have cg : w1.cell? ⟨g1, o + k * 9 + 8, none⟩ = some yv := d 8 yv rfl
   have C2 := contains_any yv y.gone (bfP q u v idx) (w.heap.size + 1) (w.heap.size + 1 + 1) w1 hyk hgk (fun m w' hb' => takes1_any m _ _ q u v t sl idx w' hv (HB.out.later (below_on hb1 hb')))
   obtain ⟨t2, HT2⟩ := hid_ex (y.gone.any (bfP q u v idx))
   rw [HT2.out] at C2 hz
   have e := hz.out
   subst e
   obtain ⟨py, cy, rfl⟩ := hyk.slice
   have hk0 : (0 : Int) ≤ (k : Int) := by omega
   have hk1 : (k : Int) < (l.length : Int) := by omega
   clear HZ hpl HY HE hz hS hy hys hd d hyk HX ey HT2
   go_wp2_with fail
   refine C2.mono ?_
   clear C2
   rintro e w2 ⟨rfl, hb2⟩
   go_wp2_with fail
   go_ret
   exact ⟨rfl, below_on (below_on b3 hb1) hb2⟩
 ·obtain rfl : z = true := by
   rw [← HZ.out]
   unfold tk
   rw [HY.out]
   rfl
  clear C1 HZ HE HY
  go_enter Tryz.func88, Tryz.ntmps88
  go_wp2_with (first | rw [hW] | refine load_r 50 _ rfl rfl _ rfl R1 Tryz.underlying50 rfl size50 ?_ | rw [E])
  go_ret
  exact ⟨rfl, b3⟩
end Go.Proofs.YtjbbmcommnhgeaaGreat
