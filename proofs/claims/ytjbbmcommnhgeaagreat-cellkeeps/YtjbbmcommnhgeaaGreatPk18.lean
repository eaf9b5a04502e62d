import Derived.Test.YtjbbmcommnhgeaaGreatPk16
import Derived.Test.YtjbbmcommnhgeaaGreatPk17
import Derived.Test.YtjbbmcommnhgeaaGreatPk15
set_option maxRecDepth 100000
set_option maxHeartbeats 8000000
namespace Go.Proofs.YtjbbmcommnhgeaaGreat
open Go.RowKit
def LfPost (l : List El) (p : M → Bool) (w : World) (e : Ending) (w' : World) : Prop := ∃ (u : Value) (g : Nat → Bool), e = .returned u ∧ EHas w' u (stay g 0 l) ∧ Fix (upL l) l.length (stL l p) g ∧ Below w.heap.size w w'
def isF : Option Value → Bool
 | some (.bool b) => !b
 | _ => false
def mf (g n : Nat) (w : World) : Nat := (List.range n).countP (fun i => isF (w.cell? ⟨g, i, none⟩))
theorem mf_eq {w : World} {B e g c n : Nat} {W : List Bool} (h : w.ownsRow B e 1 (.slice (some ⟨g, 0, none⟩) n c) n (bv W)) : mf g n w = (List.range W.length).countP (fun i => decide (W[i]? = some false)) := by
 have hn : W.length = n := by
  have := h.1
  rw [bv_len] at this
  omega
 subst hn
 unfold mf
 apply List.countP_congr
 intro i hi
 rw [List.mem_range] at hi
 rw [own_bat h hi, List.getElem?_eq_getElem hi]
 simp [isF]
theorem mf_less {W : List Bool} {a : Nat} (ha : a < W.length) (h0 : W[a] = false) : (List.range (W.set a true).length).countP (fun i => decide ((W.set a true)[i]? = some false)) < (List.range W.length).countP (fun i => decide (W[i]? = some false)) := by
 rw [List.length_set]
 obtain ⟨b, hb⟩ : ∃ b, W.length = a + 1 + b := ⟨W.length - (a + 1), by omega⟩
 have e : List.range W.length = List.range a ++ a :: (List.range b).map (a + 1 + ·) := by
  rw [hb, List.range_add, List.range_succ, List.append_assoc]
  rfl
 rw [e, List.countP_append, List.countP_append, List.countP_cons, List.countP_cons]
 have e1 : (List.range a).countP (fun i => decide ((W.set a true)[i]? = some false)) = (List.range a).countP (fun i => decide (W[i]? = some false)) := List.countP_congr (fun i hi => by
  rw [List.mem_range] at hi
  rw [List.getElem?_set_ne (by omega)])
 have e2 : ((List.range b).map (a + 1 + ·)).countP (fun i => decide ((W.set a true)[i]? = some false)) = ((List.range b).map (a + 1 + ·)).countP (fun i => decide (W[i]? = some false)) := List.countP_congr (fun i hi => by
  rw [List.mem_map] at hi
  obtain ⟨j, _, rfl⟩ := hi
  rw [List.getElem?_set_ne (by omega)])
 rw [e1, e2]
 simp [ha, h0]
def tg (W : List Bool) (k : Nat) : Bool := W.getD k false
theorem tg_at {W : List Bool} {k : Nat} (h : k < W.length) : W[k] = tg W k := by simp [tg, h]
theorem tg_set {W : List Bool} {a : Nat} (ha : a < W.length) : tg (W.set a true) = fun c => if c = a then true else tg W c := by
 funext c
 unfold tg
 by_cases e : c = a
 ·subst e
  simp [ha]
 ·simp [e, List.getElem?_set_ne (Ne.symm e)]
theorem leftS_any (v : Value) (l : List El) (p : M → Bool) (bt : Nat) (w : World) (h : EHas w v l) (hl : l.length ≤ 100) (hg : ∀ e ∈ l, e.gone.length ≤ 100) (hp : l.Pairwise (fun a b => kl (kE a) (kE b) = true)) (hok : okR l = true) (hpos : 0 < l.length) (C : ∀ (y : M) (w' : World), Below w.heap.size w w' → Calls Tryz.prog 239 #[MV y.p y.s y.i, .pointer (some ⟨bt, 0, none⟩)] w' (Tells (.bool (p y)) w')) :
  Calls Tryz.prog 238 #[v, .func (.func 239) #[] #[.pointer (some ⟨bt, 0, none⟩)]] w (LfPost l p w) := by
 obtain ⟨Q, HQ⟩ : ∃ Q, Hid (LfPost l p w = Q) := ⟨_, rfl⟩
 rw [HQ.out]
 have C1 := aheads_any v l w h hl hp
 have HC : Hid (∀ (y : M) (w' : World), Below w.heap.size w w' → Calls Tryz.prog 239 #[MV y.p y.s y.i, .pointer (some ⟨bt, 0, none⟩)] w' (Tells (.bool (p y)) w')) := C
 obtain ⟨ys, hys, h, hy⟩ := h
 have hml := maxLen_lt h.1
 obtain ⟨pv, cv, rfl⟩ := h.slice
 have hyl : ys.length = l.length := by rw [← hys, List.length_map]
 have HR : Hid (SHas 9 w (.slice pv l.length cv) l.length (rows El.cells ys)) := h
 have HY : Hid (∀ y ∈ ys, MHas w y.2 y.1.gone) := hy
 have HL : Hid (∀ k (h1 : k < ys.length) (h2 : k < l.length), ys[k].1 = l[k]) := fun k h1 h2 => by
  subst hys
  rw [List.getElem_map]
 have HYS : Hid (ys.map (·.1) = l) := hys
 have HGL : Hid (∀ e ∈ l, e.gone.length ≤ 100) := hg
 obtain ⟨i0, hi, hz0, hz1, hz2⟩ := info_parts info3
 obtain ⟨i1, hi1, hy0, hy1, hy2⟩ := info_parts info4
 have hmx : l.length + 1 ≤ maxLen := by simp [maxLen]; omega
 clear h hy hys hg hp C
 go_enter Tryz.func238, Tryz.ntmps238
 go_wp2_with fail
 refine C1.mono ?_
 clear C1
 rintro e w1 (⟨_, gu, cu, rfl, hu, hb1⟩ | ⟨h', _⟩)
 rotate_left
 ·rw [hok] at h'
  cases h'
 have hw1 : w.heap.size ≤ w1.heap.size := hb1.size
 have hgu := own_ge hu
 go_wp2_with (first | refine wpList_make_full _ rfl _ _ 129 rfl w1.heap.size 3 i0 (.int .i64 0) 1 Tryz.underlying129 hi hz0 hz1 .i64 .i64 _ _ (l.length + 1) rfl rfl (by first | rfl | simp) (by first | rfl | simp) (by rw [hz2]; omega) hmx (Nat.le_refl _) ?_)
 intro w2 hB hg2
 rw [iv_made] at hB
 have hb2 := bel_grown hg2
 generalize hGb : w1.heap.size = gb at hB ⊢
 have HGb : Hid (gb = w1.heap.size) := hGb.symm
 clear hg2 hGb
 replace hu := own_later hu hb2
 have hbw2 := below_on hb1 hb2
 obtain ⟨gg0, hgg0⟩ : ∃ n, n = l.length := ⟨_, rfl⟩
 have hcu : l.length + 1 ≤ cu := by
  obtain ⟨_, ⟨h0, _⟩ | ⟨g', cap', cur, h', _, _, hnc, _⟩⟩ := hu
  ·cases h0
  ·simp only [Value.slice.injEq, true_and] at h'
   rw [h'.2]
   exact hnc
 have hcu' : ((l.length : Int) + 1) ≤ (cu : Int) := by omega
 have hcu2 : (1 : Int) ≤ (l.length : Int) + 1 := by omega
 have hcu3 : ¬ cu = 1 := by omega
 have hcu4 : ¬ (cu : Int) = 1 := by omega
 have hcu5 : ¬ cu - 1 = 0 := by omega
 have hcu6 : (1 : Int) < (cu : Int) := by omega
 have hcu7 : ¬ (1 : Int) = (cu : Int) := by omega
 have HUP : Hid (∀ k, k ≤ l.length → ∃ h : k < (ups l).length, (ups l)[k] = upL l k) := fun k hk => ⟨by rw [ups_len]; omega, ups_at _⟩
 clear hgg0 gg0
 go_wp2_with fail
 go_loopw [27] (fun vi wr => ∃ (i : Nat) (Bs : List Nat), vi = .int .i64 i ∧ i ≤ l.length ∧ Bs.length = l.length + 1 ∧ Hid (∀ q (h : q < Bs.length), Bs[q] = cntG (upL l) i (fun _ => false) q) ∧ wr.ownsRow gb 3 1 (.slice (some ⟨gb, 0, none⟩) (l.length + 1) (l.length + 1)) (l.length + 1) (iv Bs) ∧ wr.ownsRow w.heap.size 3 1 (.slice (some ⟨gu, 0, none⟩) (l.length + 1) cu) (l.length + 1) (iv (ups l)) ∧ Below w.heap.size w wr) (fun vi _ => l.length - (intOf vi).toNat)
 case atStart => exact ⟨0, List.replicate (l.length + 1) 0, rfl, by omega, by simp, (show ∀ q (_ : q < _), _ from fun q h => by simp [cntG]), hB, hu, hbw2⟩
 case round =>
  clear hB hu hbw2
  obtain ⟨i, Bs, rfl, hi', hBl, HB, hB, hu, hbw⟩ := hrel
  by_cases hlt : i < l.length
  ·have hlt' : (i : Int) < (l.length : Int) := by omega
   obtain ⟨hul, hue⟩ := HUP.out (1 + i) (by omega)
   have hc1 := own_iat hu hul
   rw [hue] at hc1
   obtain ⟨a, HA⟩ := hid_ex (upL l (1 + i))
   have hal : a ≤ l.length := by rw [← HA.out]; exact upL_le _ _
   rw [HA.out] at hc1
   have hc2 := own_iat hB (show a < Bs.length by omega)
   have hfz := own_fz hB a
   obtain ⟨x, HX⟩ := hid_ex (Bs[a]'(by omega))
   rw [HX.out] at hc2
   have hx : x ≤ 100 := by
    rw [← HX.out, HB.out]
    unfold cntG
    exact Nat.le_trans List.countP_le_length (by simp; omega)
   have ho2 := own_iset hB a (x + 1)
   have hge := (own_ge hB).1
   have hu2 := own_over hu (b := gb) (fun k hk => by simp [Value.ownBlock] at hk; have := HGb.out; omega) a (.int .i64 ((x + 1 : Nat) : Int))
   have hbC := below_cell hbw (show w.heap.size ≤ gb by have := HGb.out; omega) a (.int .i64 ((x + 1 : Nat) : Int))
   have wx : IntKind.i64.wrap ((x : Int) + 1) = ((x + 1 : Nat) : Int) := by rw [IntKind.wrap_i64]; omega
   have ha0 : (0 : Int) ≤ (a : Int) := by omega
   have ha1 : (a : Int) < (l.length : Int) + 1 := by omega
   have hi0 : (0 : Int) ≤ (i : Int) := by omega
   have HB2 : Hid (∀ q (h : q < (Bs.set a (x + 1)).length), (Bs.set a (x + 1))[q] = cntG (upL l) (i + 1) (fun _ => false) q) := fun q h => by
    rw [cntG_succ, List.getElem_set, Nat.add_comm i 1, HA.out]
    rw [List.length_set] at h
    by_cases e : a = q
    ·subst e
     rw [if_pos rfl, ← HB.out a h, HX.out]
     simp
    ·rw [if_neg e, HB.out q h]
     simp [e]
   clear HB HX hB hu hbw
   go_wp2_with fail
   go_roundw
   case rel => exact ⟨i + 1, Bs.set a (x + 1), by simp, by omega, by rw [List.length_set]; exact hBl, HB2, ho2, hu2, hbC⟩
   case measure => simp [intOf]; omega
  ·have hlt' : ¬ (i : Int) < (l.length : Int) := by omega
   obtain rfl : i = l.length := by omega
   go_wp2_with (first | refine wpList_make_full _ rfl _ _ 223 rfl wr.heap.size 4 i1 (.bool false) 1 Tryz.underlying223 hi1 hy0 hy1 .i64 .i64 _ _ (l.length + 1) rfl rfl (by first | rfl | simp) (by first | rfl | simp) (by rw [hy2]; omega) hmx (Nat.le_refl _) ?_)
   intro w3 hG hg3
   rw [bv_made] at hG
   have hb3 := bel_grown hg3
   generalize hGg : wr.heap.size = gg at hG ⊢
   have HGg : Hid (gg = wr.heap.size) := hGg.symm
   have hgbw := (own_ge hB).2
   clear hg3 hGg
   replace hB := own_later hB hb3
   replace hu := own_later hu hb3
   replace hbw := below_on hbw hb3
   have HB0 : Hid (∀ q (h : q < Bs.length), Bs[q] = cntG (upL l) l.length (tg (List.replicate (l.length + 1) false)) q) := fun q h => by
    rw [HB.out q h]
    unfold cntG
    apply List.countP_congr
    intro c _
    have : tg (List.replicate (l.length + 1) false) (c + 1) = false := by
     unfold tg
     rw [List.getD_eq_getElem?_getD, List.getElem?_replicate]
     split <;> rfl
    rw [this]
   have HT0 : Hid (∀ a, tg (List.replicate (l.length + 1) false) a = false) := fun a => by
    unfold tg
    rw [List.getD_eq_getElem?_getD, List.getElem?_replicate]
    split <;> rfl
   have hgu2 : gu < gb := by have := HGb.out; omega
   have hgb2 : gb < gg := by have := HGg.out; omega
   have hwg : w.heap.size ≤ gu := hgu.1
   clear HB HGb HGg hgbw hgu
   go_wp2_with fail
   go_loopw [43] (fun vk wr => ∃ (k : Nat) (Gs : List Bool) (Bs : List Nat), vk = .int .i64 k ∧ k ≤ l.length + 1 ∧ Gs.length = l.length + 1 ∧ Bs.length = l.length + 1 ∧ Hid (∀ q (h : q < Bs.length), Bs[q] = cntG (upL l) l.length (tg Gs) q) ∧ Hid (∀ a, 1 ≤ a → a ≤ l.length → tg Gs a = true → stL l p a = true ∧ ∀ c, 1 ≤ c → c ≤ l.length → upL l c = a → tg Gs c = true) ∧ Hid (∀ a, 1 ≤ a → a < k → a ≤ l.length → stL l p a = true → cntG (upL l) l.length (tg Gs) a = 0 → tg Gs a = true) ∧ wr.ownsRow gg 4 1 (.slice (some ⟨gg, 0, none⟩) (l.length + 1) (l.length + 1)) (l.length + 1) (bv Gs) ∧ wr.ownsRow gb 3 1 (.slice (some ⟨gb, 0, none⟩) (l.length + 1) (l.length + 1)) (l.length + 1) (iv Bs) ∧ wr.ownsRow w.heap.size 3 1 (.slice (some ⟨gu, 0, none⟩) (l.length + 1) cu) (l.length + 1) (iv (ups l)) ∧ Below w.heap.size w wr) (fun vk _ => l.length + 1 - (intOf vk).toNat)
   case atStart => exact ⟨0, _, Bs, rfl, by omega, by simp, hBl, HB0, (show ∀ a, _ from fun a _ _ h => by rw [HT0.out] at h; cases h), (show ∀ a, _ from fun a _ h => by omega), hG, hB, hu, hbw⟩
   case round =>
    clear hG hB hu hbw HB0 HT0 hBl Bs
    obtain ⟨k, Gs, Bs, rfl, hk, hGl, hBl, H1, H2, H3, hG, hB, hu, hbw⟩ := hrel
    by_cases hkl : k < l.length + 1
    ·have hkl' : (k : Int) < (l.length : Int) + 1 := by omega
     go_wp2_with fail
     go_loopw [12] (fun va wr => ∃ (a : Nat) (Gs : List Bool) (Bs : List Nat), va = .int .i64 a ∧ a ≤ l.length ∧ Gs.length = l.length + 1 ∧ Bs.length = l.length + 1 ∧ Hid (∀ q (h : q < Bs.length), Bs[q] = cntG (upL l) l.length (tg Gs) q) ∧ Hid (∀ a, 1 ≤ a → a ≤ l.length → tg Gs a = true → stL l p a = true ∧ ∀ c, 1 ≤ c → c ≤ l.length → upL l c = a → tg Gs c = true) ∧ Hid (∀ b, 1 ≤ b → b < k + 1 → b ≤ l.length → b ≠ a → stL l p b = true → cntG (upL l) l.length (tg Gs) b = 0 → tg Gs b = true) ∧ wr.ownsRow gg 4 1 (.slice (some ⟨gg, 0, none⟩) (l.length + 1) (l.length + 1)) (l.length + 1) (bv Gs) ∧ wr.ownsRow gb 3 1 (.slice (some ⟨gb, 0, none⟩) (l.length + 1) (l.length + 1)) (l.length + 1) (iv Bs) ∧ wr.ownsRow w.heap.size 3 1 (.slice (some ⟨gu, 0, none⟩) (l.length + 1) cu) (l.length + 1) (iv (ups l)) ∧ Below w.heap.size w wr) (fun _ wr => mf gg (l.length + 1) wr)
     case atStart => exact ⟨k, Gs, Bs, rfl, by omega, hGl, hBl, H1, H2, (show ∀ b, _ from fun b b1 b2 b3 b4 => H3.out b b1 (by omega) b3), hG, hB, hu, hbw⟩
     case round =>
      clear hG hB hu hbw H1 H2 H3 hGl hBl Gs Bs
      obtain ⟨a, Gs, Bs, rfl, hal, hGl, hBl, H1, H2, H3, hG, hB, hu, hbw⟩ := hrel
      have OUT : ∀ (s1 : ¬ (a ≠ 0 ∧ tg Gs a = false ∧ cntG (upL l) l.length (tg Gs) a = 0 ∧ stL l p a = true)), Hid (∀ b, 1 ≤ b → b < k + 1 → b ≤ l.length → stL l p b = true → cntG (upL l) l.length (tg Gs) b = 0 → tg Gs b = true) := fun s1 b b1 b2 b3 b4 b5 => by
       by_cases e : b = a
       ·subst e
        cases hh : tg Gs b
        ·exact absurd ⟨by omega, hh, b5, b4⟩ s1
        ·rfl
       ·exact H3.out b b1 b2 b3 e b4 b5
      by_cases ha0 : a = 0
      ·have H4 := OUT (fun s => s.1 ha0)
       subst ha0
       clear OUT H3
       go_wp2_with fail
       go_roundw
       case rel => exact ⟨k + 1, Gs, Bs, by simp, by omega, hGl, hBl, H1, H2, H4, hG, hB, hu, hbw⟩
       case measure => simp [intOf]; omega
      ·have ha0' : ¬ ((a : Int) = 0) := by omega
       have ha1 : (0 : Int) ≤ (a : Int) := by omega
       have ha2 : (a : Int) < (l.length : Int) + 1 := by omega
       have haG : a < Gs.length := by omega
       have haB : a < Bs.length := by omega
       have cG := own_bat hG haG
       rw [tg_at haG] at cG
       obtain ⟨bg, HBG⟩ := hid_ex (tg Gs a)
       rw [HBG.out] at cG
       cases bg
       ·have cB := own_iat hB haB
        rw [H1.out a haB] at cB
        obtain ⟨xb, HXB⟩ := hid_ex (cntG (upL l) l.length (tg Gs) a)
        rw [HXB.out] at cB
        by_cases hx0 : xb = 0
        ·subst hx0
         have HMF0 : Hid (mf gg (l.length + 1) wr = (List.range Gs.length).countP (fun i => decide (Gs[i]? = some false))) := mf_eq hG
         obtain ⟨a1, rfl⟩ : ∃ a1, a = a1 + 1 := ⟨a - 1, by omega⟩
         have ha3 : a1 < l.length := by omega
         have ha4 : a1 < ys.length := by omega
         obtain ⟨g1, o, rfl, hd0⟩ := HR.out.at (by omega)
         have hd := range_later hd0 hbw
         have d : wr.rangeAt g1 (o + a1 * 9) (El.cells ys[a1]) := range_sub hd (a1 * 9) fun j u hu => rows_at El.len ys a1 ha4 j u hu
         have hyk := (HY.out ys[a1] (List.getElem_mem _)).later hbw
         have ey := HL.out a1 ha4 ha3
         have hgk : ys[a1].1.gone.length ≤ 100 := by rw [ey]; exact HGL.out _ (List.getElem_mem _)
         have HST : Hid (stL l p (a1 + 1) = ys[a1].1.gone.any p) := by
          show _ = _
          rw [stL_succ ha3, ey]
         obtain ⟨yy, HX⟩ := hid_ex (ys[a1])
         rw [HX.out] at d hyk hgk HST
         obtain ⟨y, yv⟩ := yy
         replace hyk : MHas wr yv y.gone := hyk
         replace hgk : y.gone.length ≤ 100 := hgk
         replace HST : Hid (stL l p (a1 + 1) = y.gone.any p) := HST
         have cg : wr.cell? ⟨g1, o + a1 * 9 + 8, none⟩ = some yv := d 8 yv rfl
         have C2 := containsF_any yv y.gone p bt wr hyk hgk (fun m w' hb => HC.out m w' (below_on hbw hb))
         obtain ⟨b, HB2⟩ := hid_ex (y.gone.any p)
         rw [HB2.out] at C2 HST
         obtain ⟨py, cy, rfl⟩ := hyk.slice
         have wa : IntKind.i64.wrap ((a1 : Int) + 1 - 1) = (a1 : Int) := by rw [IntKind.wrap_i64]; omega
         have wa2 : IntKind.i64.wrap (a1 : Int) = (a1 : Int) := by rw [IntKind.wrap_i64]; omega
         have wa3 : (0 : Int) ≤ (a1 : Int) := by omega
         have wa4 : (a1 : Int) < (l.length : Int) := by omega
         have wa5 : ¬ ((a1 : Int) + 1 = 0) := by omega
         have wa6 : (0 : Int) ≤ (a1 : Int) + 1 := by omega
         have wa7 : (a1 : Int) + 1 < (l.length : Int) + 1 := by omega
         clear hd hd0 d hyk HX ey HB2 ha0 ha0'
         go_wp2_with fail
         refine C2.mono ?_
         clear C2
         rintro e w5 ⟨rfl, hb5⟩
         replace hG := own_later hG hb5
         replace hB := own_later hB hb5
         replace hu := own_later hu hb5
         replace hbw := below_on hbw hb5
         cases b
         ·have H4 := OUT (fun s => by rw [HST.out] at s; cases s.2.2.2)
          clear OUT H3 HXB HBG HST cG cB cg
          go_wp2_with fail
          go_roundw
          case rel => exact ⟨k + 1, Gs, Bs, by simp, by omega, hGl, hBl, H1, H2, H4, hG, hB, hu, hbw⟩
          case measure => simp [intOf]; omega
         ·obtain ⟨hul, hue⟩ := HUP.out (a1 + 1) hal
          obtain ⟨ua, HA⟩ := hid_ex (upL l (a1 + 1))
          have hual : ua ≤ l.length := by rw [← HA.out]; exact upL_le _ _
          have hcs := cntG_set (up := upL l) (n := l.length) HBG.out (show 1 ≤ a1 + 1 by omega)
          rw [← tg_set haG] at hcs
          have HCS : Hid (∀ q, cntG (upL l) l.length (tg Gs) q = cntG (upL l) l.length (tg (Gs.set (a1 + 1) true)) q + (if ua = q then 1 else 0)) := fun q => by
           rw [hcs q, HA.out]
           simp [hal]
          obtain ⟨x1, HX1⟩ := hid_ex (cntG (upL l) l.length (tg (Gs.set (a1 + 1) true)) ua)
          have hxu : Bs[ua]'(by omega) = x1 + 1 := by
           rw [H1.out ua (by omega), HCS.out ua, HX1.out]
           simp
          have hx1 : x1 ≤ 100 := by
           rw [← HX1.out]
           unfold cntG
           exact Nat.le_trans List.countP_le_length (by simp; omega)
          -- the goes of it
          have hG2 := own_bset hG (a1 + 1) true
          have hfG := own_fz hG (a1 + 1)
          have hcG := own_bat hG haG
          have hB2 := own_over hB (b := gg) (fun q hq => by simp [Value.ownBlock] at hq; omega) (a1 + 1) (.bool true)
          have hu2 := own_over hu (b := gg) (fun q hq => by simp [Value.ownBlock] at hq; omega) (a1 + 1) (.bool true)
          have hbw2 := below_cell hbw (show w.heap.size ≤ gg by omega) (a1 + 1) (.bool true)
          have hc1 := own_iat hu2 hul
          rw [hue, HA.out] at hc1
          have hc2 := own_iat hB2 (show ua < Bs.length by omega)
          rw [hxu] at hc2
          have hfB := own_fz hB2 ua
          -- those behind the one ahead
          have hB3 := own_iset hB2 ua x1
          have hG3 := own_over hG2 (b := gb) (fun q hq => by simp [Value.ownBlock] at hq; omega) ua (.int .i64 (x1 : Int))
          have hu3 := own_over hu2 (b := gb) (fun q hq => by simp [Value.ownBlock] at hq; omega) ua (.int .i64 (x1 : Int))
          have hbw3 := below_cell hbw2 (show w.heap.size ≤ gb by omega) ua (.int .i64 (x1 : Int))
          have hc3 := own_iat hu3 hul
          rw [hue, HA.out] at hc3
          have wx1 : IntKind.i64.wrap (((x1 + 1 : Nat) : Int) - 1) = (x1 : Int) := by rw [IntKind.wrap_i64]; omega
          have wx2 : IntKind.i64.wrap (x1 : Int) = (x1 : Int) := by rw [IntKind.wrap_i64]; omega
          have wu0 : (0 : Int) ≤ (ua : Int) := by omega
          have wu1 : (ua : Int) < (l.length : Int) + 1 := by omega
          have K1 : Hid (∀ q (h : q < (Bs.set ua x1).length), (Bs.set ua x1)[q] = cntG (upL l) l.length (tg (Gs.set (a1 + 1) true)) q) := fun q h => by
           rw [List.getElem_set]
           rw [List.length_set] at h
           by_cases e : ua = q
           ·subst e
            rw [if_pos rfl, HX1.out]
           ·rw [if_neg e, H1.out q h, HCS.out q, if_neg e, Nat.add_zero]
          have K2 : Hid (∀ a, 1 ≤ a → a ≤ l.length → tg (Gs.set (a1 + 1) true) a = true → stL l p a = true ∧ ∀ c, 1 ≤ c → c ≤ l.length → upL l c = a → tg (Gs.set (a1 + 1) true) c = true) := fun b b1 b2 b3 => by
           rw [tg_set haG] at b3 ⊢
           by_cases e : b = a1 + 1
           ·subst e
            refine ⟨HST.out, fun c c1 c2 c3 => ?_⟩
            simp only
            rw [cntG_zero.1 HXB.out c c1 c2 c3]
            simp
           ·simp only [if_neg e] at b3
            obtain ⟨s1, s2⟩ := H2.out b b1 b2 b3
            refine ⟨s1, fun c c1 c2 c3 => ?_⟩
            simp only
            rw [s2 c c1 c2 c3]
            simp
          have K3 : Hid (∀ b, 1 ≤ b → b < k + 1 → b ≤ l.length → b ≠ ua → stL l p b = true → cntG (upL l) l.length (tg (Gs.set (a1 + 1) true)) b = 0 → tg (Gs.set (a1 + 1) true) b = true) := fun b b1 b2 b3 b4 b5 b6 => by
           rw [tg_set haG]
           by_cases e : b = a1 + 1
           ·simp [e]
           ·simp only [if_neg e]
            refine H3.out b b1 b2 b3 e b5 ?_
            rw [HCS.out b, if_neg (Ne.symm b4), b6]
          have HMS : Hid (mf gg (l.length + 1) ((w5.setCell ⟨gg, a1 + 1, none⟩ (.bool true)).setCell ⟨gb, ua, none⟩ (.int .i64 (x1 : Int))) < mf gg (l.length + 1) wr) := by
           show _ < _
           rw [mf_eq hG3, HMF0.out]
           exact mf_less haG (by rw [tg_at haG]; exact HBG.out)
          clear OUT H1 H2 H3 HXB HBG HST HCS HX1 hG hB hu hbw hG2 hB2 hu2 hbw2 cG cB cg hcs hue HMF0 HA hxu
          go_wp2_with fail
          go_roundw
          case rel => exact ⟨ua, _, _, rfl, hual, by rw [List.length_set]; exact hGl, by rw [List.length_set]; exact hBl, K1, K2, K3, hG3, hB3, hu3, hbw3⟩
          case measure => exact HMS.out
        ·have hx0' : ¬ ((xb : Int) = 0) := by omega
         have H4 := OUT (fun s => hx0 (by rw [← HXB.out]; exact s.2.2.1))
         clear OUT H3 HXB HBG
         go_wp2_with fail
         go_roundw
         case rel => exact ⟨k + 1, Gs, Bs, by simp, by omega, hGl, hBl, H1, H2, H4, hG, hB, hu, hbw⟩
         case measure => simp [intOf]; omega
       ·have H4 := OUT (fun s => by rw [HBG.out] at s; cases s.2.1)
        clear OUT H3 HBG
        go_wp2_with fail
        go_roundw
        case rel => exact ⟨k + 1, Gs, Bs, by simp, by omega, hGl, hBl, H1, H2, H4, hG, hB, hu, hbw⟩
        case measure => simp [intOf]; omega
    ·have hkl' : ¬ (k : Int) < (l.length : Int) + 1 := by omega
     obtain rfl : k = l.length + 1 := by omega
     have HFX : Hid (Fix (upL l) l.length (stL l p) (tg Gs)) := fun a a1 a2 => ⟨fun h => H2.out a a1 a2 h, fun ⟨h, h'⟩ => H3.out a a1 (by omega) a2 h (cntG_zero.2 h')⟩
     obtain ⟨j0, hj0, hje0, hje1, hje2⟩ := info_parts info69
     clear H1 H2 H3 hB hu
     go_wp2_with fail
     go_loopw [13, 92] (fun vs vi w' => ∃ k : Nat, vi = .int .i64 k ∧ k ≤ l.length ∧ w'.ownsRow w.heap.size 69 9 vs (stay (tg Gs) 0 (ys.take k)).length (rows El.cells (stay (tg Gs) 0 (ys.take k))) ∧ w'.ownsRow gg 4 1 (.slice (some ⟨gg, 0, none⟩) (l.length + 1) (l.length + 1)) (l.length + 1) (bv Gs) ∧ Below w.heap.size w w') (fun _ vi _ => l.length - (intOf vi).toNat)
     case atStart => exact ⟨0, rfl, by omega, own_none _ _ _ _, hG, hbw⟩
     case round =>
      clear hG hbw
      obtain ⟨k, rfl, hk2, ho, hG, hbw⟩ := hrel
      obtain ⟨n0, HN0⟩ := hid_ex (stay (tg Gs) 0 (ys.take k)).length
      have hn0 : n0 ≤ k := by
       rw [← HN0.out]
       exact Nat.le_trans (stay_sub _ _ _).length_le (by simp; omega)
      rw [HN0.out] at ho
      obtain ⟨q0, d0, rfl⟩ := own_sl ho
      by_cases hlt : k < l.length
      ·have hlt' : (k : Int) < (l.length : Int) := by omega
       have hky : k < ys.length := by omega
       obtain ⟨g1, o, rfl, hd0⟩ := HR.out.at (by omega)
       have hd := range_later hd0 hbw
       have d : wr.rangeAt g1 (o + k * 9) (El.cells ys[k]) := range_sub hd (k * 9) fun j u hu => rows_at El.len ys k hky j u hu
       have hyk := (HY.out ys[k] (List.getElem_mem _)).later hbw
       have HSN : Hid (stay (tg Gs) 0 (ys.take (k + 1)) = stay (tg Gs) 0 (ys.take k) ++ (if tg Gs (k + 1) = true then [] else [ys[k]])) := by
        show _ = _
        rw [List.take_succ_eq_append_getElem hky, stay_snoc]
        simp [Nat.min_eq_left (Nat.le_of_lt hky)]
       obtain ⟨yy, HX⟩ := hid_ex (ys[k])
       rw [HX.out] at d hyk HSN
       obtain ⟨y, yv⟩ := yy
       replace hyk : MHas wr yv y.gone := hyk
       obtain ⟨py, cy, rfl⟩ := hyk.slice
       replace d : wr.rangeAt g1 (o + k * 9) [Value.int .i64 y.p, .int .i64 y.s, .int .i64 y.i, .int .i64 y.t, .int .i64 y.q, .int .i64 y.u, .int .i64 y.j, .string y.x, .slice py y.gone.length cy] := d
       have zb : (Tryz.prog.info? 69).map (·.size) = some [Value.int .i64 y.p, .int .i64 y.s, .int .i64 y.i, .int .i64 y.t, .int .i64 y.q, .int .i64 y.u, .int .i64 y.j, .string y.x, .slice py y.gone.length cy].length := size69
       have RB := rw_new wr 69 #[.int .i64 y.p, .int .i64 y.s, .int .i64 y.i, .int .i64 y.t, .int .i64 y.q, .int .i64 y.u, .int .i64 y.j, .string y.x, .slice py y.gone.length cy]
       have hbA := bel_alloc (Below.refl wr.heap.size wr) (.cells #[.int .i64 y.p, .int .i64 y.s, .int .i64 y.i, .int .i64 y.t, .int .i64 y.q, .int .i64 y.u, .int .i64 y.j, .string y.x, .slice py y.gone.length cy] 69)
       have haG : k + 1 < Gs.length := by omega
       replace hG := own_later hG hbA
       replace ho := own_later ho hbA
       replace hbw := below_on hbw hbA
       generalize hWA : wr.alloc (.cells #[.int .i64 y.p, .int .i64 y.s, .int .i64 y.i, .int .i64 y.t, .int .i64 y.q, .int .i64 y.u, .int .i64 y.j, .string y.x, .slice py y.gone.length cy] 69) = wa at RB hbA hG ho hbw
       have cG := own_bat hG haG
       rw [tg_at haG] at cG
       obtain ⟨b, HB⟩ := hid_ex (tg Gs (k + 1))
       rw [HB.out] at cG HSN
       have wk1 : IntKind.i64.wrap ((k : Int) + 1) = (k : Int) + 1 := by rw [IntKind.wrap_i64]; omega
       have wk2 : (0 : Int) ≤ (k : Int) + 1 := by omega
       have wk3 : (k : Int) + 1 < (l.length : Int) + 1 := by omega
       clear hd hd0 hyk HX HB
       cases b
       ·have hb2 := bel_alloc (Below.refl wa.heap.size wa) (.cells #[.int .i64 y.p, .int .i64 y.s, .int .i64 y.i, .int .i64 y.t, .int .i64 y.q, .int .i64 y.u, .int .i64 y.j, .string y.x, .slice py y.gone.length cy] 69)
        have ho2 := own_later ho hb2
        have hG2 := own_later hG hb2
        have hbw2 := below_on hbw hb2
        have hB1 : w.heap.size ≤ (wa.alloc (.cells #[.int .i64 y.p, .int .i64 y.s, .int .i64 y.i, .int .i64 y.t, .int .i64 y.q, .int .i64 y.u, .int .i64 y.j, .string y.x, .slice py y.gone.length cy] 69)).heap.size := hbw2.size
        have HCL : Hid (∀ j u, [Value.int .i64 y.p, .int .i64 y.s, .int .i64 y.i, .int .i64 y.t, .int .i64 y.q, .int .i64 y.u, .int .i64 y.j, .string y.x, .slice py y.gone.length cy][j]? = some u → (wa.alloc (.cells #[.int .i64 y.p, .int .i64 y.s, .int .i64 y.i, .int .i64 y.t, .int .i64 y.q, .int .i64 y.u, .int .i64 y.j, .string y.x, .slice py y.gone.length cy] 69)).cell? ((⟨wa.heap.size, 0, none⟩ : Addr).add j) = some u) := fun j u hu => by
         have Rn := rw_new wa 69 #[.int .i64 y.p, .int .i64 y.s, .int .i64 y.i, .int .i64 y.t, .int .i64 y.q, .int .i64 y.u, .int .i64 y.j, .string y.x, .slice py y.gone.length cy]
         rw [show ((⟨wa.heap.size, 0, none⟩ : Addr).add j) = ⟨wa.heap.size, j, none⟩ by simp [Addr.add]; (try omega), Rn.cell j]
         simpa using hu
        have hm1 : n0 + 1 ≤ maxLen := by simp [maxLen]; omega
        have hm2 : (n0 + 1) * 96 ≤ 140737488355328 := by omega
        generalize hWn : wa.alloc (.cells #[.int .i64 y.p, .int .i64 y.s, .int .i64 y.i, .int .i64 y.t, .int .i64 y.q, .int .i64 y.u, .int .i64 y.j, .string y.x, .slice py y.gone.length cy] 69) = wn at hb2 ho2 hG2 hbw2 hB1 HCL
        go_wp2_with (first | refine load_m 69 _ rfl rfl _ _ rfl d Tryz.underlying69 rfl zb ?_ | rw [hWA] | refine load_r 69 _ rfl rfl _ rfl RB Tryz.underlying69 rfl size69 ?_ | rw [hWn] | (at_builtin; refine wpList_append_own _ rfl _ _ 25 rfl w.heap.size 69 j0 (.agg #[.int .i64 0, .int .i64 0, .int .i64 0, .int .i64 0, .int .i64 0, .int .i64 0, .int .i64 0, .string noS, .slice none 0 0]) 9 96 Tryz.underlying25 hj0 hje0 hje1 hje2 rfl (by decide) _ _ _ rfl ho2 ⟨wa.heap.size, 0, none⟩ 1 1 [Value.int .i64 y.p, .int .i64 y.s, .int .i64 y.i, .int .i64 y.t, .int .i64 y.q, .int .i64 y.u, .int .i64 y.j, .string y.x, .slice py y.gone.length cy] rfl rfl HCL.out (by simp [Value.oneCell']) hm1 hm2 hB1 ?_))
        intro v2 w2 ho3 hg3 _
        have hbw3 : Below w.heap.size w w2 := hbw2.grown hg3 hB1 (fun q hq => (World.ownsRow.lt ho2 q hq).1)
        have hG3 := own_kp hG2 (o := (Value.slice q0 n0 d0).ownBlock) (fun b h1 h2 => hg3.block b h1 (Ne.symm h2)) (fun q hq e => own_tag hG2 ho2 (by decide) e q hq rfl)
        rw [if_neg (by decide)] at HSN
        have ho4 : w2.ownsRow w.heap.size 69 9 v2 (stay (tg Gs) 0 (ys.take (k + 1))).length (rows El.cells (stay (tg Gs) 0 (ys.take (k + 1)))) := by
         rw [HSN.out, List.length_append, HN0.out, rows_append]
         exact ho3
        obtain ⟨q2, d2, e2⟩ := own_sl ho3
        clear HSN HN0 ho ho2 ho3 hg3 HCL hWA hWn hG2
        subst e2
        go_wp2_with fail
        go_roundw
        case rel => exact ⟨k + 1, by simp, by omega, ho4, hG3, hbw3⟩
        case measure => simp [intOf]; omega
       ·rw [if_pos rfl, List.append_nil] at HSN
        have ho2 : wa.ownsRow w.heap.size 69 9 (.slice q0 n0 d0) (stay (tg Gs) 0 (ys.take (k + 1))).length (rows El.cells (stay (tg Gs) 0 (ys.take (k + 1)))) := by rw [HSN.out, HN0.out]; exact ho
        clear HSN HN0 ho
        go_wp2_with (first | refine load_m 69 _ rfl rfl _ _ rfl d Tryz.underlying69 rfl zb ?_ | rw [hWA])
        go_roundw
        case rel => exact ⟨k + 1, by simp, by omega, ho2, hG, hbw⟩
        case measure => simp [intOf]; omega
      ·have hlt' : ¬ (k : Int) < (l.length : Int) := by omega
       obtain rfl : k = l.length := by omega
       have HF : Hid (Q (.returned (.slice q0 n0 d0)) wr) := by
        show Q _ _
        rw [← HQ.out]
        refine ⟨_, tg Gs, rfl, ⟨stay (tg Gs) 0 ys, ?_, ?_, ?_⟩, HFX.out, hbw⟩
        ·rw [← stay_map, HYS.out]
        ·rw [List.take_of_length_le (by omega)] at ho HN0
         rw [← HN0.out] at ho
         rw [show (stay (tg Gs) 0 l).length = (stay (tg Gs) 0 ys).length by rw [← HYS.out, stay_map, List.length_map], ← HN0.out]
         exact own_sh ho
        ·exact fun y hy => (HY.out y ((stay_sub _ _ _).subset hy)).later hbw
       clear ho HFX HYS HY HQ HN0
       go_wp2_with fail
       exact HF.out
theorem leftN_any (v : Value) (p : M → Bool) (bt : Nat) (w : World) (h : EHas w v []) :
  Calls Tryz.prog 238 #[v, .func (.func 239) #[] #[.pointer (some ⟨bt, 0, none⟩)]] w (LfPost [] p w) := by
 have C1 := aheads_any v [] w h (by simp) List.Pairwise.nil
 obtain ⟨pv, cv, rfl⟩ := h.slice
 obtain ⟨i0, hi, hz0, hz1, hz2⟩ := info_parts info3
 obtain ⟨i1, hi1, hy0, hy1, hy2⟩ := info_parts info4
 obtain ⟨Q, HQ⟩ : ∃ Q, Hid (LfPost [] p w = Q) := ⟨_, rfl⟩
 rw [HQ.out]
 have HF : Hid (∀ w', Below w.heap.size w w' → Q (.returned (.slice none 0 0)) w') := fun w' hb => by
  rw [← HQ.out]
  exact ⟨_, fun _ => false, rfl, EHas.nil w', fun a h1 h2 => absurd h2 (by simp; omega), hb⟩
 clear h HQ
 go_enter Tryz.func238, Tryz.ntmps238
 go_wp2_with fail
 refine C1.mono ?_
 clear C1
 rintro e w1 (⟨_, gu, cu, rfl, hu, hb1⟩ | ⟨h', _⟩)
 rotate_left
 ·cases h'
 have hcu : 1 ≤ cu := by
  obtain ⟨_, ⟨h0, _⟩ | ⟨g', cap', cur, h', _, _, hnc, _⟩⟩ := hu
  ·cases h0
  ·simp only [Value.slice.injEq, true_and] at h'
   rw [h'.2]
   exact hnc
 have hcu' : (1 : Int) ≤ (cu : Int) := by omega
 have hgu := own_ge hu
 go_wp2_with (first | refine wpList_make_full _ rfl _ _ 129 rfl w1.heap.size 3 i0 (.int .i64 0) 1 Tryz.underlying129 hi hz0 hz1 .i64 .i64 _ _ 1 rfl rfl (by first | rfl | simp) (by first | rfl | simp) (by rw [hz2]; omega) (by simp [maxLen]) (Nat.le_refl _) ?_)
 intro w2 hB hg2
 have hb2 := below_on hb1 (bel_grown hg2)
 clear hg2 hB hu
 go_wp2_with fail
 all_goals
  refine wp_loop_rounds 1 ?_
  rw [rounds_succ]
  go_wp2_with (first | refine wpList_make_full _ rfl _ _ 223 rfl w2.heap.size 4 i1 (.bool false) 1 Tryz.underlying223 hi1 hy0 hy1 .i64 .i64 _ _ 1 rfl rfl (by first | rfl | simp) (by first | rfl | simp) (by rw [hy2]; omega) (by simp [maxLen]) (Nat.le_refl _) ?_)
  intro w3 hG hg3
  have hb3 := below_on hb2 (bel_grown hg3)
  clear hg3 hG
  go_wp2_with fail
  refine wp_loop_rounds 2 ?_
  rw [rounds_succ]
  go_wp2_with fail
  refine wp_loop_rounds 1 ?_
  rw [rounds_succ]
  go_wp2_with fail
  rw [rounds_succ]
  go_wp2_with fail
  refine wp_loop_rounds 1 ?_
  rw [rounds_succ]
  go_wp2_with fail
  exact HF.out _ hb3
theorem left_any (v : Value) (l : List El) (p : M → Bool) (bt : Nat) (w : World) (h : EHas w v l) (hl : l.length ≤ 100) (hg : ∀ e ∈ l, e.gone.length ≤ 100) (hp : l.Pairwise (fun a b => kl (kE a) (kE b) = true)) (hok : okR l = true) (C : ∀ (y : M) (w' : World), Below w.heap.size w w' → Calls Tryz.prog 239 #[MV y.p y.s y.i, .pointer (some ⟨bt, 0, none⟩)] w' (Tells (.bool (p y)) w')) :
  Calls Tryz.prog 238 #[v, .func (.func 239) #[] #[.pointer (some ⟨bt, 0, none⟩)]] w (LfPost l p w) := by
 rcases Nat.eq_zero_or_pos l.length with hz | hz
 ·obtain rfl := List.eq_nil_of_length_eq_zero hz
  exact leftN_any v p bt w h
 ·exact leftS_any v l p bt w h hl hg hp hok hz C
def gF (up : Nat → Nat) (n : Nat) (St : Nat → Bool) : Nat → Nat → Bool
 | 0, _ => false
 | f + 1, k => St k && (List.range n).all (fun c => !(decide (up (c + 1) = k)) || gF up n St f (c + 1))
theorem gF_succ {up : Nat → Nat} {n : Nat} {St : Nat → Bool} {f k : Nat} : gF up n St (f + 1) k = true ↔ St k = true ∧ ∀ c, 1 ≤ c → c ≤ n → up c = k → gF up n St f c = true := by
 simp only [gF, Bool.and_eq_true, List.all_eq_true, List.mem_range, Bool.or_eq_true, Bool.not_eq_true', decide_eq_false_iff_not]
 constructor
 ·rintro ⟨h1, h2⟩
  refine ⟨h1, fun c c1 c2 e => ?_⟩
  have := h2 (c - 1) (by omega)
  rw [show c - 1 + 1 = c by omega] at this
  exact this.resolve_left (fun h => h e)
 ·rintro ⟨h1, h2⟩
  refine ⟨h1, fun c hc => ?_⟩
  by_cases e : up (c + 1) = k
  ·exact Or.inr (h2 (c + 1) (by omega) (by omega) e)
  ·exact Or.inl e
theorem gF_more {up : Nat → Nat} {n : Nat} {St : Nat → Bool} (hf : ∀ k, k ≤ n → up k ≤ n) (h0 : up 0 = 0) (hr : ∀ k, k ≤ n → rt up k) : ∀ (f k : Nat), 1 ≤ k → k ≤ n → n - dp up n k < f → gF up n St (f + 1) k = gF up n St f k
 | 0, _, _, _, h => by omega
 | f + 1, k, k1, k2, h => by
  rw [Bool.eq_iff_iff, gF_succ, gF_succ]
  have kid : ∀ c, 1 ≤ c → c ≤ n → up c = k → gF up n St (f + 1) c = gF up n St f c := fun c c1 c2 e => by
   have d1 := dp_up hf h0 c2 (by omega) (hr c c2)
   rw [e] at d1
   have d2 := dp_le up n c
   exact gF_more hf h0 hr f c c1 c2 (by omega)
  constructor
  ·rintro ⟨x, y⟩
   exact ⟨x, fun c c1 c2 e => by rw [← kid c c1 c2 e]; exact y c c1 c2 e⟩
  ·rintro ⟨x, y⟩
   exact ⟨x, fun c c1 c2 e => by rw [kid c c1 c2 e]; exact y c c1 c2 e⟩
theorem gF_fix {up : Nat → Nat} {n : Nat} {St : Nat → Bool} (hf : ∀ k, k ≤ n → up k ≤ n) (h0 : up 0 = 0) (hr : ∀ k, k ≤ n → rt up k) : Fix up n St (gF up n St (n + 1)) := fun a a1 a2 => by
 rw [← gF_more hf h0 hr (n + 1) a a1 a2 (by omega), gF_succ]
theorem stay_congr {α : Type} {g h : Nat → Bool} : ∀ (k : Nat) (l : List α), (∀ a, k < a → a ≤ k + l.length → g a = h a) → stay g k l = stay h k l
 | _, [], _ => rfl
 | k, e :: t, H => by
  unfold stay
  rw [H (k + 1) (by omega) (by simp), stay_congr (k + 1) t (fun a a1 a2 => H a (by omega) (by simp; omega))]
def fdE (l : List El) (p : M → Bool) : List El := stay (gF (upL l) l.length (stL l p) (l.length + 1)) 0 l
def fdX (x : X) (p : M → Bool) : X := if ck x = true then { x with el := fdE x.el p } else x
theorem cr_parts {l : List El} (h : cr l = true) : okR l = true ∧ ∀ k, k ≤ l.length → rt (upL l) k := by
 unfold cr at h
 rw [Bool.and_eq_true] at h
 exact ⟨h.1, noR_iff.1 h.2⟩
theorem fd_stay {l : List El} {p : M → Bool} {g : Nat → Bool} (h : cr l = true) (hg : Fix (upL l) l.length (stL l p) g) : stay g 0 l = fdE l p :=
 stay_congr 0 l (fun a a1 a2 => fix_one (fun k _ => upL_le l k) (upL_zero l) (cr_parts h).2 hg (gF_fix (fun k _ => upL_le l k) (upL_zero l) (cr_parts h).2) _ a (by omega) (by omega) (Nat.le_refl _))
theorem set_row {w : World} {b : Nat} {t : TypeId} {cs : Array Value} (R : Rw w b t cs) (i : Nat) (u : Value) : w.setCell ⟨b, i, none⟩ u = w.setRow b (cs.setIfInBounds i u) := by
 have h : w.heap[b]? = some (.cells cs t) := R
 unfold World.setCell World.setRow
 congr 1
 apply Array.ext_getElem?
 intro k
 simp only [Array.getElem?_modify]
 by_cases e : b = k
 ·subst e
  simp [h]
 ·simp [e]
theorem fold_any (x : X) (va vw vm ve : Value) (v : List Int) (w : World) (hv : v.length = 13) (h : Four w x va vw vm ve) (hs : Sm x) :
  Calls Tryz.prog 235 #[CV x.k x.b va vw vm ve, V v] w (Gives (fdX x (hsP v)) w) := by
 obtain ⟨pa, ca', pw, cw, pm, cm, pe, ce', rfl, rfl, rfl, rfl⟩ := h.slices
 have HF : Hid (Four w x (.slice pa x.am.length ca') (.slice pw x.wr.length cw) (.slice pm x.mb.length cm) (.slice pe x.el.length ce')) := h
 clear h
 obtain ⟨z, HZ⟩ := hid_ex (fdX x (hsP v))
 rw [HZ.out]
 have R0 := (((rw_new w 27 (cx x pa ca' pw cw pm cm pe ce')).alloc (.cells (vals v).toArray 31)).alloc (.cells z4 27))
 have R1 := ((rw_new (w.alloc (.cells (cx x pa ca' pw cw pm cm pe ce') 27)) 31 (vals v).toArray).alloc (.cells z4 27))
 have R3 := (rw_new ((w.alloc (.cells (cx x pa ca' pw cw pm cm pe ce') 27)).alloc (.cells (vals v).toArray 31)) 27 z4)
 have hbel := (bel_alloc (bel_alloc (bel_alloc (Below.refl w.heap.size w) (.cells (cx x pa ca' pw cw pm cm pe ce') 27)) (.cells (vals v).toArray 31)) (.cells z4 27))
 have hsz : (((w.alloc (.cells (cx x pa ca' pw cw pm cm pe ce') 27)).alloc (.cells (vals v).toArray 31)).alloc (.cells z4 27)).heap.size = w.heap.size + 3 := by simp
 generalize hW : (((w.alloc (.cells (cx x pa ca' pw cw pm cm pe ce') 27)).alloc (.cells (vals v).toArray 31)).alloc (.cells z4 27)) = w0 at R0 R1 R3 hbel hsz
 simp only [World.size_alloc] at R1 R3
 go_enter Tryz.func235, Tryz.ntmps235
 go_wp2_with (first | rw [hW] | refine load_r 27 _ rfl rfl _ rfl R0 Tryz.underlying27 rfl size27 ?_)
 clear hW
 refine (copied_any x _ _ _ _ w0 (HF.out.later hbel) hs).mono ?_
 rintro e w1 ⟨ua, uw, um, ue, rfl, ho, hb1⟩
 obtain ⟨qa, da, qw, dw, qm, dx, qe, de, rfl, rfl, rfl, rfl⟩ := ho.four.slices
 rw [hsz] at ho
 replace R0 := R0.later hb1
 replace R1 := R1.later hb1
 replace R3 := R3.later hb1
 replace hbel := below_on hbel hb1
 have hB : w.heap.size + 3 ≤ w1.heap.size := by have := hb1.size; omega
 clear hb1 hsz
 have ho2 := ho.row (by omega) R0 (cx x qa da qw dw qm dx qe de)
 have hbs := below_setRow hbel (Nat.le_refl w.heap.size) (cx x qa da qw dw qm dx qe de)
 have hB2 : w.heap.size + 3 ≤ (w1.setRow w.heap.size (cx x qa da qw dw qm dx qe de)).heap.size := by simpa [World.setRow] using hB
 replace R1 := R1.rowOther (q := w.heap.size) (by omega) (cx x qa da qw dw qm dx qe de)
 replace R3 := R3.rowOther (q := w.heap.size) (by omega) (cx x qa da qw dw qm dx qe de)
 have R4 := R0.row (cx x qa da qw dw qm dx qe de)
 generalize hW : w1.setRow w.heap.size (cx x qa da qw dw qm dx qe de) = w2 at ho2 hbs hB2 R1 R3 R4
 go_wp2_with (first | rw [hW] | refine store_r rfl 27 _ _ rfl _ (cx x qa da qw dw qm dx qe de) rfl rfl R0 size27 rfl (by simp [Value.oneCell']) ?_ | refine load_r 27 _ rfl rfl _ rfl R4 Tryz.underlying27 rfl size27 ?_)
 clear hW ho hbel hB R0
 refine (check_any x _ _ _ _ w2 ho2.four hs).mono ?_
 rintro e w3 ⟨rfl, hb1⟩
 replace R1 := R1.later hb1
 replace R3 := R3.later hb1
 replace R4 := R4.later hb1
 replace ho2 := ho2.later hb1
 replace hbs := below_on hbs hb1
 replace hB2 := Nat.le_trans hB2 hb1.size
 clear hb1
 have HQ : Hid (z = if ck x = true then { x with el := fdE x.el (hsP v) } else x) := by
  show _ = _
  rw [← HZ.out]
  rfl
 clear HZ
 obtain ⟨y1, HY1⟩ := hid_ex (ck x)
 rw [HY1.out] at HQ ⊢
 cases y1
 ·have e := HQ.out
  rw [if_neg (by decide)] at e
  have e := e.symm
  subst e
  go_wp2_with (first | refine load_r 27 _ rfl rfl _ rfl R4 Tryz.underlying27 rfl size27 ?_ | refine store_r rfl 27 _ _ rfl _ (cx x qa da qw dw qm dx qe de) rfl rfl R3 size27 rfl (by simp [Value.oneCell']) ?_)
  refine bodyPost_ret (results_r rfl rfl (R3.row (cx x qa da qw dw qm dx qe de)) rfl Tryz.underlying27 size27) rfl ?_
  exact ⟨_, _, _, _, rfl, (ho2.row (by omega) R3 (cx x qa da qw dw qm dx qe de)).four, below_setRow hbs (by omega) _⟩
 ·have e := HQ.out
  rw [if_pos rfl] at e
  have HE : Hid (z = { x with el := fdE x.el (hsP v) }) := e
  have hcr := (ck_parts HY1.out).2.2.2.2.2.2
  have HCR : Hid (cr x.el = true) := hcr
  have C2 := left_any (.slice qe x.el.length de) x.el (hsP v) (w.heap.size + 1) w3 ho2.four.e hs.e hs.ei (ce_up (ck_parts HY1.out).2.2.2.2.2.1) (cr_parts hcr).1 (fun m w' hb => fold1_any m _ v w' hv ⟨hv, R1.later hb⟩)
  have cE : w3.cell? ⟨w.heap.size, 5, none⟩ = some (.slice qe x.el.length de) := R4.cell 5
  clear e HQ HY1 hcr
  go_wp2_with fail
  refine C2.mono ?_
  clear C2 cE
  rintro e w4 ⟨u, g, rfl, hE, hfx, hb1⟩
  have est := fd_stay HCR.out hfx
  replace R3 := R3.later hb1
  replace R4 := R4.later hb1
  replace ho2 := ho2.later hb1
  replace hbs := below_on hbs hb1
  replace hB2 := Nat.le_trans hB2 hb1.size
  rw [est] at hE
  clear hb1 hfx est
  obtain ⟨p7, c7, rfl⟩ := hE.slice
  obtain ⟨n7, HN7⟩ := hid_ex (fdE x.el (hsP v)).length
  rw [HN7.out] at hE ⊢
  have c5 : w4.cell? ⟨w.heap.size, 5, none⟩ = some (.slice qe x.el.length de) := R4.cell 5
  have f5 := R4.frozen 5
  have eS := set_row R4 5 (.slice p7 n7 c7)
  have R6 := R4.set 5 (.slice p7 n7 c7)
  replace R6 : Rw (w4.setCell ⟨w.heap.size, 5, none⟩ (.slice p7 n7 c7)) w.heap.size 27 (cvc x.k x.b (.slice qa x.am.length da) (.slice qw x.wr.length dw) (.slice qm x.mb.length dx) (.slice p7 n7 c7)) := R6
  have R7 := R3.setOther (q := w.heap.size) (by omega) 5 (.slice p7 n7 c7)
  have HF9 : Hid (Gives z w (.returned (CV x.k x.b (.slice qa x.am.length da) (.slice qw x.wr.length dw) (.slice qm x.mb.length dx) (.slice p7 n7 c7))) ((w4.setCell ⟨w.heap.size, 5, none⟩ (.slice p7 n7 c7)).setRow (w.heap.size + 1 + 1) (cvc x.k x.b (.slice qa x.am.length da) (.slice qw x.wr.length dw) (.slice qm x.mb.length dx) (.slice p7 n7 c7)))) := by
   have e0 := HE.out.symm
   subst e0
   obtain ⟨f1, f2, f3, _⟩ := ho2.four
   have F : Four (w4.setCell ⟨w.heap.size, 5, none⟩ (.slice p7 n7 c7)) { x with el := fdE x.el (hsP v) } (.slice qa x.am.length da) (.slice qw x.wr.length dw) (.slice qm x.mb.length dx) (.slice p7 n7 c7) := by
    rw [eS]
    exact Four.row (x := { x with el := fdE x.el (hsP v) }) ⟨f1, f2, f3, hE⟩ R4 _
   exact ⟨_, _, _, _, rfl, F.row R7 _, below_setRow (below_cell hbs (Nat.le_refl _) _ _) (by omega) _⟩
  clear hE HE HN7 ho2 eS hbs HF
  go_wp2_with (first | refine load_r 27 _ rfl rfl _ rfl R6 Tryz.underlying27 rfl size27 ?_ | refine store_r rfl 27 _ _ rfl _ (cvc x.k x.b (.slice qa x.am.length da) (.slice qw x.wr.length dw) (.slice qm x.mb.length dx) (.slice p7 n7 c7)) rfl rfl R7 size27 rfl (by simp [Value.oneCell']) ?_)
  refine bodyPost_ret (results_r rfl rfl (R7.row (cvc x.k x.b (.slice qa x.am.length da) (.slice qw x.wr.length dw) (.slice qm x.mb.length dx) (.slice p7 n7 c7))) rfl Tryz.underlying27 size27) rfl ?_
  exact HF9.out
def clk (x : X) (q u : Int) (v : List Int) (i : Int) : X := cse x.k (Ct.clX x q u v i) (Rg.clX x q u v i) (Os.clX x q u v i) (goX x ⟨q, u, i⟩ (bfP q u v i)) x
def clc (x : X) (q u : Int) (v : List Int) (i : Int) : X := if i < 1 then x else clk x q u v i
def foc (x : X) (v : List Int) : X := cse x.k (Ct.foX x v) x (Os.fdX x v) (fdX x (hsP v)) x
theorem copy_c (x : X) (va vw vm ve : Value) (w : World) (h : Four w x va vw vm ve) (hs : Sm x) : Calls Tryz.prog 35 #[CV x.k x.b va vw vm ve] w (Gives x w) := (copied_any x va vw vm ve w h hs).mono fun _ _ ⟨_, _, _, _, he, ho, hb⟩ => ⟨_, _, _, _, he, ho.four, hb⟩
theorem clearM (x : X) (va vw vm ve : Value) (q u : Int) (v : List Int) (t : Int) (sl : Value) (i : Int) (w : World) (hv : v.length = 13) (h : Four w x va vw vm ve) (hs : Sm x) : Calls Tryz.prog (cse x.k 201 213 222 231 260) #[CV x.k x.b va vw vm ve, TxV q u v t sl, .int .i64 i] w (Gives (clk x q u v i) w) := by
 obtain ⟨k, b, am, wr, mb, el⟩ := x
 rcases kinds k with rfl | rfl | rfl | rfl | rfl | hk
 ·rw [cse1, show clk ⟨1, b, am, wr, mb, el⟩ q u v i = Ct.clX ⟨1, b, am, wr, mb, el⟩ q u v i from rfl]
  exact cl83 1 b va vw vm ve q u v t sl i w hv fun w' hb => Ct.clear_any ⟨1, b, am, wr, mb, el⟩ va vw vm ve q u v t sl i w' hv (h.later hb) hs
 ·rw [cse2, show clk ⟨2, b, am, wr, mb, el⟩ q u v i = Rg.clX ⟨2, b, am, wr, mb, el⟩ q u v i from rfl]
  exact cl85 2 b va vw vm ve q u v t sl i w hv fun w' hb => Rg.clear_any ⟨2, b, am, wr, mb, el⟩ va vw vm ve q u v t sl i w' hv (h.later hb) hs
 ·rw [cse3, show clk ⟨3, b, am, wr, mb, el⟩ q u v i = Rg.clX ⟨3, b, am, wr, mb, el⟩ q u v i from rfl]
  exact cl85 3 b va vw vm ve q u v t sl i w hv fun w' hb => Rg.clear_any ⟨3, b, am, wr, mb, el⟩ va vw vm ve q u v t sl i w' hv (h.later hb) hs
 ·rw [cse4, show clk ⟨4, b, am, wr, mb, el⟩ q u v i = Os.clX ⟨4, b, am, wr, mb, el⟩ q u v i from rfl]
  exact cl87 4 b va vw vm ve q u v t sl i w hv fun w' hb => Os.clear_any ⟨4, b, am, wr, mb, el⟩ va vw vm ve q u v t sl i w' hv (h.later hb) hs
 ·rw [cse5, show clk ⟨5, b, am, wr, mb, el⟩ q u v i = goX ⟨5, b, am, wr, mb, el⟩ ⟨q, u, i⟩ (bfP q u v i) from rfl]
  exact cl88 5 b va vw vm ve q u v t sl i w hv fun w' hb => clear_any ⟨5, b, am, wr, mb, el⟩ va vw vm ve q u v t sl i w' hv (h.later hb) hs
 ·rw [cse0 _ _ _ _ _ hk, show clk ⟨k, b, am, wr, mb, el⟩ q u v i = ⟨k, b, am, wr, mb, el⟩ from cse0 _ _ _ _ _ hk]
  exact cl97 k b va vw vm ve q u v t sl i w fun w' hb => copy_c ⟨k, b, am, wr, mb, el⟩ va vw vm ve w' (h.later hb) hs
theorem foldM (x : X) (va vw vm ve : Value) (v : List Int) (w : World) (hv : v.length = 13) (h : Four w x va vw vm ve) (hs : Sm x) : Calls Tryz.prog (cse x.k 202 214 223 232 261) #[CV x.k x.b va vw vm ve, V v] w (Gives (foc x v) w) := by
 obtain ⟨k, b, am, wr, mb, el⟩ := x
 rcases kinds k with rfl | rfl | rfl | rfl | rfl | hk
 ·rw [cse1, show foc ⟨1, b, am, wr, mb, el⟩ v = Ct.foX ⟨1, b, am, wr, mb, el⟩ v from rfl]
  exact fo83 1 b va vw vm ve v w hv fun w' hb => Ct.fold_any ⟨1, b, am, wr, mb, el⟩ va vw vm ve v w' hv (h.later hb) hs
 ·rw [cse2, show foc ⟨2, b, am, wr, mb, el⟩ v = ⟨2, b, am, wr, mb, el⟩ from rfl]
  exact fo85 2 b va vw vm ve v w fun w' hb => copy_c ⟨2, b, am, wr, mb, el⟩ va vw vm ve w' (h.later hb) hs
 ·rw [cse3, show foc ⟨3, b, am, wr, mb, el⟩ v = ⟨3, b, am, wr, mb, el⟩ from rfl]
  exact fo85 3 b va vw vm ve v w fun w' hb => copy_c ⟨3, b, am, wr, mb, el⟩ va vw vm ve w' (h.later hb) hs
 ·rw [cse4, show foc ⟨4, b, am, wr, mb, el⟩ v = Os.fdX ⟨4, b, am, wr, mb, el⟩ v from rfl]
  exact fo87 4 b va vw vm ve v w hv fun w' hb => Os.fold_any ⟨4, b, am, wr, mb, el⟩ va vw vm ve v w' hv (h.later hb) hs
 ·rw [cse5, show foc ⟨5, b, am, wr, mb, el⟩ v = fdX ⟨5, b, am, wr, mb, el⟩ (hsP v) from rfl]
  exact fo88 5 b va vw vm ve v w hv fun w' hb => fold_any ⟨5, b, am, wr, mb, el⟩ va vw vm ve v w' hv (h.later hb) hs
 ·rw [cse0 _ _ _ _ _ hk, show foc ⟨k, b, am, wr, mb, el⟩ v = ⟨k, b, am, wr, mb, el⟩ from cse0 _ _ _ _ _ hk]
  exact fo97 k b va vw vm ve v w fun w' hb => copy_c ⟨k, b, am, wr, mb, el⟩ va vw vm ve w' (h.later hb) hs
theorem clear_c (x : X) (va vw vm ve : Value) (q u : Int) (v : List Int) (t : Int) (sl : Value) (i : Int) (w : World) (hv : v.length = 13) (h : Four w x va vw vm ve) (hs : Sm x) : Calls Tryz.prog 15 #[CV x.k x.b va vw vm ve, TxV q u v t sl, .int .i64 i] w (Gives (clc x q u v i) w) := by
 obtain ⟨R0, R1, R2, hb⟩ := rows3 w (cvc x.k x.b va vw vm ve) 27 (txc q u v t sl).toArray 34 z4 27
 generalize hW : ((w.alloc (.cells (cvc x.k x.b va vw vm ve) 27)).alloc (.cells (txc q u v t sl).toArray 34)).alloc (.cells z4 27) = w0 at R0 R1 R2 hb
 have C1 := fun w' (hb : Below w.heap.size w w') => copy_c x va vw vm ve w' (h.later hb) hs
 have C : ∀ w', Below w.heap.size w w' → Calls Tryz.prog (cse x.k 201 213 222 231 260) #[CV x.k x.b va vw vm ve, TxV q u v t sl, .int .i64 i] w' (Gives (clk x q u v i) w') := fun w' hb => clearM x va vw vm ve q u v t sl i w' hv (h.later hb) hs
 have M := m_clear x.k (CV x.k x.b va vw vm ve)
 have E := e_clear x.k
 generalize cse x.k 201 213 222 231 260 = F at C M E
 unfold clc
 generalize clk x q u v i = z at C ⊢
 have zx : (Tryz.prog.info? 27).map (·.size) = some ([Value.int .i64 x.k, .int .i64 x.b, va, vw, vm, ve] : List Value).length := size27
 have ztx : (Tryz.prog.info? 34).map (·.size) = some (txc q u v t sl).length := by rw [txc_length hv]; exact size34
 by_cases hi : i < 1
 ·rw [if_pos hi]
  clear C M E
  go_enter Tryz.func15, Tryz.ntmps15
  go_wp2_with (first | rw [hW] | refine load_r 27 _ rfl rfl _ rfl R0 Tryz.underlying27 rfl size27 ?_)
  refine (C1 w0 hb).mono ?_
  rintro e w1 ⟨ua, uw, um, ue, rfl, hz, hb1⟩
  obtain ⟨na, ea, nw, ew, nm, em, ne, ee, rfl, rfl, rfl, rfl⟩ := hz.slices
  replace R2 := R2.later hb1
  go_wp2_with (refine store_r rfl 27 _ _ rfl _ (cx x na ea nw ew nm em ne ee) rfl rfl R2 size27 rfl (by simp [Value.oneCell']) ?_)
  refine bodyPost_ret (results_r rfl rfl (R2.row _) rfl Tryz.underlying27 size27) rfl ?_
  exact ⟨_, _, _, _, rfl, hz.row R2 _, below_setRow (below_on hb hb1) (by omega) _⟩
 ·rw [if_neg hi]
  go_enter Tryz.func15, Tryz.ntmps15
  go_wp2_with (first | rw [hW])
  clear hW
  have hS : Calm.Stays (fun w' => Below w0.heap.size w0 w') := fun wa wb h hb => below_on h hb
  have hF : Facts.Stay [pF 0 (eqP (.agg ([Value.int .i64 x.k, .int .i64 x.b, va, vw, vm, ve] : List Value).toArray)), pF 1 (eqP (.iface (wk x.k) (CV x.k x.b va vw vm ve))), pF 2 (eqP (.agg (txc q u v t sl).toArray)), pF 3 (eqP (.int .i64 i)), pF 4 (cP z)] := stay_of (by simp only [List.forall_mem_cons]; exact ⟨⟨_, _, rfl, eqP_keeps _⟩, ⟨_, _, rfl, eqP_keeps _⟩, ⟨_, _, rfl, eqP_keeps _⟩, ⟨_, _, rfl, eqP_keeps _⟩, ⟨_, _, rfl, cP_keeps _⟩, fun _ h => by cases h⟩)
  refine Facts.regionTail (by kernel_rfl) (by kernel_rfl) 5 (by decide) (by kernel_rfl) (fun w' => Below w0.heap.size w0 w') (fun xv => { tmps := #[CV x.k x.b va vw vm ve, TxV q u v t sl, Value.int IntKind.i64 i, Value.pointer (some { block := w.heap.size, off := 0 }), Value.pointer (some { block := w.heap.size + 1, off := 0 }), undef, Value.pointer (some { block := w.heap.size + 1 + 1, off := 0 }), Value.int IntKind.i64 i, Value.bool false, undef, undef, xv 0, xv 1, xv 2, xv 3, xv 4], defers := [] }) [pF 0 (eqP (.agg ([Value.int .i64 x.k, .int .i64 x.b, va, vw, vm, ve] : List Value).toArray)), pF 1 (eqP (.iface (wk x.k) (CV x.k x.b va vw vm ve))), pF 2 (eqP (.agg (txc q u v t sl).toArray)), pF 3 (eqP (.int .i64 i)), pF 4 (cP z)] _ rfl rfl (by kernel_rfl) (fun j => [undef, undef, undef, undef, undef].getD j undef) rfl (Below.refl _ w0).drew ⟨?_, ?_, ?_, ?_, ?_, ?_, trivial⟩ ?_
  ·exact fun _ => Facts.loadP hS hF (fun _ _ => rfl) 27 Tryz.underlying27 rfl zx _ rfl rfl (fun xv wv hSw hd => by rfl) (fun wv hSw => Rw.whole (cs := [Value.int .i64 x.k, .int .i64 x.b, va, vw, vm, ve]) (R0.later hSw))
  ·refine fun _ => Facts.call1P hS hF (fun _ _ => rfl) rfl (by kernel_rfl) rfl (fun xv wv hSw hd => ?_)
   have d0 : xv 0 = _ := pF_get (hd ⟨0, .data⟩ (by simp) rfl _ rfl)
   show Calls Tryz.prog 34 #[xv 0] wv _
   rw [d0]
   exact (atWork_any x.k x.b va vw vm ve wv).mono fun e w' ⟨he, hb⟩ => ⟨_, he, rfl, hb⟩
  ·exact fun _ => Facts.loadP hS hF (fun _ _ => rfl) 34 Tryz.underlying34 rfl ztx _ rfl rfl (fun xv wv hSw hd => by rfl) (fun wv hSw => Rw.whole (cs := (txc q u v t sl)) (R1.later hSw))
  ·exact fun _ => Facts.pureP hS hF (fun _ _ => rfl) rfl (fun xv wv hSw hd => by
    go_simp)
  ·exact fun _ => Facts.inv2P hS hF (fun _ _ => rfl) rfl E (M _ (by kernel_rfl)) rfl (fun xv wv hSw hd => by
     have d1 : xv 1 = _ := pF_get (hd ⟨1, .data⟩ (by simp) rfl _ rfl)
     exact d1) (fun xv wv hSw hd => by
     have d2 : xv 2 = _ := pF_get (hd ⟨2, .data⟩ (by simp) rfl _ rfl)
     have d3 : xv 3 = _ := pF_get (hd ⟨3, .data⟩ (by simp) rfl _ rfl)
     show Calls Tryz.prog F #[CV x.k x.b va vw vm ve, xv 2, xv 3] wv _
     rw [d2, d3]
     exact (C wv (below_on hb hSw)).mono fun e w' h => gives_p h)
  ·exact fun h => absurd h (by decide)
  intro x9 w5 hb5 hf
  obtain ⟨ua, uw, um, ue, ez, hz⟩ := pF_get (hf 4 _ rfl)
  obtain ⟨na, ea, nw, ew, nm, em, ne, ee, rfl, rfl, rfl, rfl⟩ := hz.slices
  replace R2 := R2.later hb5
  replace hb := below_on hb hb5
  refine tail_store 27 _ _ rfl (w.heap.size + 2) 0 rfl (show _ = CV z.k z.b (.slice na z.am.length ea) (.slice nw z.wr.length ew) (.slice nm z.mb.length em) (.slice ne z.el.length ee) from ez) (R2.store (cx z na ea nw ew nm em ne ee) size27 rfl (by simp [Value.oneCell'])) ?_
  refine Facts.tailWp_nil ?_
  go_wp2_with fail
  refine bodyPost_ret (results_r rfl rfl (R2.row (cx z na ea nw ew nm em ne ee)) rfl Tryz.underlying27 size27) rfl ?_
  exact ⟨_, _, _, _, rfl, hz.row R2 _, below_setRow hb (by omega) _⟩
theorem fold_c (x : X) (va vw vm ve : Value) (v : List Int) (w : World) (hv : v.length = 13) (h : Four w x va vw vm ve) (hs : Sm x) : Calls Tryz.prog 24 #[CV x.k x.b va vw vm ve, V v] w (Gives (foc x v) w) := by
 obtain ⟨R0, R1, R2, hb⟩ := rows3 w (cvc x.k x.b va vw vm ve) 27 (vals v).toArray 31 z4 27
 generalize hW : ((w.alloc (.cells (cvc x.k x.b va vw vm ve) 27)).alloc (.cells (vals v).toArray 31)).alloc (.cells z4 27) = w0 at R0 R1 R2 hb
 have C : ∀ w', Below w.heap.size w w' → Calls Tryz.prog (cse x.k 202 214 223 232 261) #[CV x.k x.b va vw vm ve, V v] w' (Gives (foc x v) w') := fun w' hb => foldM x va vw vm ve v w' hv (h.later hb) hs
 have M := m_fold x.k (CV x.k x.b va vw vm ve)
 have E := e_fold x.k
 generalize cse x.k 202 214 223 232 261 = F at C M E
 generalize foc x v = z at C ⊢
 have zx : (Tryz.prog.info? 27).map (·.size) = some ([Value.int .i64 x.k, .int .i64 x.b, va, vw, vm, ve] : List Value).length := size27
 have ztx := info31 hv
 go_enter Tryz.func24, Tryz.ntmps24
 go_wp2_with (first | rw [hW])
 clear hW
 have hS : Calm.Stays (fun w' => Below w0.heap.size w0 w') := fun wa wb h hb => below_on h hb
 have hF : Facts.Stay [pF 0 (eqP (.agg ([Value.int .i64 x.k, .int .i64 x.b, va, vw, vm, ve] : List Value).toArray)), pF 1 (eqP (.iface (wk x.k) (CV x.k x.b va vw vm ve))), pF 2 (eqP (.agg (vals v).toArray)), pF 3 (cP z)] := stay_of (by simp only [List.forall_mem_cons]; exact ⟨⟨_, _, rfl, eqP_keeps _⟩, ⟨_, _, rfl, eqP_keeps _⟩, ⟨_, _, rfl, eqP_keeps _⟩, ⟨_, _, rfl, cP_keeps _⟩, fun _ h => by cases h⟩)
 refine Facts.regionTail (by kernel_rfl) (by kernel_rfl) 4 (by decide) (by kernel_rfl) (fun w' => Below w0.heap.size w0 w') (fun xv => { tmps := #[CV x.k x.b va vw vm ve, V v, Value.pointer (some { block := w.heap.size, off := 0 }), Value.pointer (some { block := w.heap.size + 1, off := 0 }), Value.pointer (some { block := w.heap.size + 1 + 1, off := 0 }), xv 0, xv 1, xv 2, xv 3], defers := [] }) [pF 0 (eqP (.agg ([Value.int .i64 x.k, .int .i64 x.b, va, vw, vm, ve] : List Value).toArray)), pF 1 (eqP (.iface (wk x.k) (CV x.k x.b va vw vm ve))), pF 2 (eqP (.agg (vals v).toArray)), pF 3 (cP z)] _ rfl rfl (by kernel_rfl) (fun j => [undef, undef, undef, undef].getD j undef) rfl (Below.refl _ w0).drew ⟨?_, ?_, ?_, ?_, ?_, trivial⟩ ?_
 ·exact fun _ => Facts.loadP hS hF (fun _ _ => rfl) 27 Tryz.underlying27 rfl zx _ rfl rfl (fun xv wv hSw hd => by rfl) (fun wv hSw => Rw.whole (cs := [Value.int .i64 x.k, .int .i64 x.b, va, vw, vm, ve]) (R0.later hSw))
 ·refine fun _ => Facts.call1P hS hF (fun _ _ => rfl) rfl (by kernel_rfl) rfl (fun xv wv hSw hd => ?_)
  have d0 : xv 0 = _ := pF_get (hd ⟨0, .data⟩ (by simp) rfl _ rfl)
  show Calls Tryz.prog 34 #[xv 0] wv _
  rw [d0]
  exact (atWork_any x.k x.b va vw vm ve wv).mono fun e w' ⟨he, hb⟩ => ⟨_, he, rfl, hb⟩
 ·exact fun _ => Facts.loadP hS hF (fun _ _ => rfl) 31 Tryz.underlying31 rfl ztx _ rfl rfl (fun xv wv hSw hd => by rfl) (fun wv hSw => Rw.whole (cs := (vals v)) (R1.later hSw))
 ·exact fun _ => Facts.inv1P hS hF (fun _ _ => rfl) rfl E (M _ (by kernel_rfl)) rfl (fun xv wv hSw hd => by
    have d1 : xv 1 = _ := pF_get (hd ⟨1, .data⟩ (by simp) rfl _ rfl)
    exact d1) (fun xv wv hSw hd => by
    have d2 : xv 2 = _ := pF_get (hd ⟨2, .data⟩ (by simp) rfl _ rfl)
    show Calls Tryz.prog F #[CV x.k x.b va vw vm ve, xv 2] wv _
    rw [d2]
    exact (C wv (below_on hb hSw)).mono fun e w' h => gives_p h)
 ·exact fun h => absurd h (by decide)
 intro x9 w5 hb5 hf
 obtain ⟨ua, uw, um, ue, ez, hz⟩ := pF_get (hf 3 _ rfl)
 obtain ⟨na, ea, nw, ew, nm, em, ne, ee, rfl, rfl, rfl, rfl⟩ := hz.slices
 replace R2 := R2.later hb5
 replace hb := below_on hb hb5
 refine tail_store 27 _ _ rfl (w.heap.size + 2) 0 rfl (show _ = CV z.k z.b (.slice na z.am.length ea) (.slice nw z.wr.length ew) (.slice nm z.mb.length em) (.slice ne z.el.length ee) from ez) (R2.store (cx z na ea nw ew nm em ne ee) size27 rfl (by simp [Value.oneCell'])) ?_
 refine Facts.tailWp_nil ?_
 go_wp2_with fail
 refine bodyPost_ret (results_r rfl rfl (R2.row (cx z na ea nw ew nm em ne ee)) rfl Tryz.underlying27 size27) rfl ?_
 exact ⟨_, _, _, _, rfl, hz.row R2 _, below_setRow hb (by omega) _⟩
end Go.Proofs.YtjbbmcommnhgeaaGreat
namespace Go.Proofs.YtjbbmcommnhgeaaGreat.Rg
open Go.RowKit
def LaPost (l : List Wt) (w : World) (e : Ending) (w' : World) : Prop := ∃ u, e = .returned u ∧ WHas w' u l ∧ Below w.heap.size w w'
theorem whas_one (w : World) (y : Wt) : WHas (w.alloc (.cells #[.int .i64 y.p, .int .i64 y.s, .int .i64 y.i, .int .i64 y.t, .string y.x] 64)) (.slice (some ⟨w.heap.size, 0, none⟩) 1 1) [y] := by
 refine ⟨by show 1 ≤ maxLen; unfold maxLen; decide, rfl, .inr ⟨_, _, rfl, ⟨Nat.le_refl _, by unfold maxLen; decide⟩, fun _ => ⟨_, _, rfl, ?_⟩⟩⟩
 rw [rows_one]
 exact Rw.whole (cs := y.cells) (rw_new w 64 _)
theorem last_any (v : Value) (l : List Wt) (w : World) (h : WHas w v l) (hl : l.length ≤ 100) : Calls Tryz.prog 217 #[v] w (LaPost (lastW l) w) := by
 obtain ⟨p, c, rfl⟩ := h.slice
 obtain ⟨hcl, hcm⟩ := h.cap
 cases l with
 | nil =>
  go_enter Tryz.func217, Tryz.ntmps217
  go_wp2
  go_ret
  exact ⟨_, rfl, WHas.nil _, Below.refl _ _⟩
 | cons y l =>
  obtain ⟨g, o, rfl, hd⟩ := h.at (by simp)
  have HD : Hid (w.rangeAt g o (rows Wt.cells (y :: l))) := hd
  have d0 : w.rangeAt g o y.cells := by
   have := Wt.elem hd 0 (by simp)
   simpa using this
  have z42 : (Tryz.prog.info? 64).map (·.size) = some y.cells.length := size64
  rw [List.length_cons] at hl hcl ⊢
  clear h hd
  have hl0 : ¬ ((l.length : Int) + 1 = 0) := by omega
  have hcI : (c : Int) ≤ 9223372036854775807 := maxLen_lt hcm
  have R := rw_new w 64 #[.int .i64 y.p, .int .i64 y.s, .int .i64 y.i, .int .i64 y.t, .string y.x]
  have hbel := bel_alloc (Below.refl w.heap.size w) (.cells #[.int .i64 y.p, .int .i64 y.s, .int .i64 y.i, .int .i64 y.t, .string y.x] 64)
  obtain ⟨P, hP⟩ : ∃ P : Nat, P = if c = 1 then o else o + 5 := ⟨_, rfl⟩
  obtain ⟨z, HZ⟩ := hid_ex (lastW (y :: l))
  rw [HZ.out]
  generalize hW : w.alloc (.cells #[.int .i64 y.p, .int .i64 y.s, .int .i64 y.i, .int .i64 y.t, .string y.x] 64) = w0 at R hbel
  by_cases hc1 : c = 1
  ·subst hc1
   obtain rfl : l = [] := List.eq_nil_of_length_eq_zero (by omega)
   have e : z = [y] := HZ.out.symm
   subst e
   clear HZ
   go_enter Tryz.func217, Tryz.ntmps217
   go_wp2_with (first | rw [hW] | refine load_m 64 _ rfl rfl _ _ rfl d0 Tryz.underlying64 rfl z42 ?_)
   refine wp_loop_rounds 1 ?_
   rw [rounds_succ]
   go_wp2_with (first | refine load_r 64 _ rfl rfl _ rfl R Tryz.underlying64 rfl size64 ?_)
   go_ret
   exact ⟨_, rfl, whas_one _ _, bel_alloc hbel _⟩
  ·go_enter Tryz.func217, Tryz.ntmps217
   go_wp2_with (first | rw [hW] | refine load_m 64 _ rfl rfl _ _ rfl d0 Tryz.underlying64 rfl z42 ?_)
   go_loopw [15] (fun vi wr => ∃ k : Nat, vi = .int .i64 k ∧ k ≤ l.length ∧ (∃ b : Wt, Hid (b = bst y (l.take k)) ∧ Rw wr w.heap.size 64 #[.int .i64 b.p, .int .i64 b.s, .int .i64 b.i, .int .i64 b.t, .string b.x]) ∧ Below w.heap.size w wr) (fun vi _ => l.length - (intOf vi).toNat)
   case atStart => exact ⟨0, rfl, by omega, ⟨y, (rfl : y = y), R⟩, hbel⟩
   case round =>
    clear R hbel hW d0 w0
    obtain ⟨k, rfl, hk, ⟨b, HB, R⟩, hbel⟩ := hrel
    by_cases hlt : k < l.length
    ·have hlt' : (k : Int) < (l.length : Int) := by omega
     have d : wr.rangeAt g (o + 5 + k * 5) l[k].cells := by
      have := Wt.elem (range_later HD.out hbel) (k + 1) (by simpa using hlt)
      rw [show o + 5 + k * 5 = o + (k + 1) * 5 by omega]
      simpa using this
     obtain ⟨x, HX⟩ := hid_ex l[k]
     rw [HX.out] at d
     have zx : (Tryz.prog.info? 64).map (·.size) = some x.cells.length := size64
     have HS : Hid (bst y (l.take (k + 1)) = if b.t ≤ x.t then x else b) := by
      show _ = _
      rw [List.take_succ_eq_append_getElem hlt, bst_snoc, HX.out, HB.out]
     have hbA := bel_alloc (Below.refl wr.heap.size wr) (.cells #[.int .i64 x.p, .int .i64 x.s, .int .i64 x.i, .int .i64 x.t, .string x.x] 64)
     have R5 := rw_new wr 64 #[.int .i64 x.p, .int .i64 x.s, .int .i64 x.i, .int .i64 x.t, .string x.x]
     have hne : w.heap.size < wr.heap.size := R.lt
     replace R := R.later hbA
     replace hbel := below_on hbel hbA
     generalize hW : wr.alloc (.cells #[.int .i64 x.p, .int .i64 x.s, .int .i64 x.i, .int .i64 x.t, .string x.x] 64) = w1 at R R5 hbel
     have cb : w1.cell? ⟨w.heap.size, 3, none⟩ = some (.int .i64 b.t) := R.cell 3
     have cx : w1.cell? ⟨wr.heap.size, 3, none⟩ = some (.int .i64 x.t) := R5.cell 3
     clear hbA HX HZ
     by_cases hge : b.t ≤ x.t
     ·rw [if_pos hge] at HS
      go_wp2_with (first | rw [hW] | refine load_m 64 _ rfl rfl _ _ rfl d Tryz.underlying64 rfl zx ?_ | refine load_r 64 _ rfl rfl _ rfl R5 Tryz.underlying64 rfl size64 ?_ | refine store_r rfl 64 _ _ rfl _ #[.int .i64 x.p, .int .i64 x.s, .int .i64 x.i, .int .i64 x.t, .string x.x] rfl rfl R size64 rfl (by simp [Value.oneCell']) ?_)
      go_roundw
      case rel => exact ⟨k + 1, by simp, by omega, ⟨x, HS.out.symm, R.row _⟩, below_setRow hbel (Nat.le_refl _) _⟩
      case measure => simp [intOf]; omega
     ·rw [if_neg hge] at HS
      have hge' : ¬ b.t ≤ x.t := hge
      go_wp2_with (first | rw [hW] | refine load_m 64 _ rfl rfl _ _ rfl d Tryz.underlying64 rfl zx ?_)
      go_roundw
      case rel => exact ⟨k + 1, by simp, by omega, ⟨b, HS.out.symm, R⟩, hbel⟩
      case measure => simp [intOf]; omega
    ·have hlt' : ¬ (k : Int) < (l.length : Int) := by omega
     obtain rfl : k = l.length := by omega
     rw [List.take_length] at HB
     have e : z = [b] := by
      rw [← HZ.out, HB.out]
      rfl
     subst e
     clear HZ HB HD
     go_wp2_with (first | refine load_r 64 _ rfl rfl _ rfl R Tryz.underlying64 rfl size64 ?_)
     go_ret
     exact ⟨_, rfl, whas_one _ _, bel_alloc hbel _⟩
end Go.Proofs.YtjbbmcommnhgeaaGreat.Rg
