import Derived.Test.YtjbbmcommnhgeaaGreatPc22
set_option maxRecDepth 100000
set_option maxHeartbeats 8000000
namespace Go.Proofs.YtjbbmcommnhgeaaGreat
open Go.RowKit
theorem mk3 {w : World} {b o : Nat} {a c d : Value} {l : List Value} (h : w.rangeAt b o (a :: c :: d :: l)) : w.rangeAt b o [a, c, d] := fun j u hu => by
 refine h j u ?_
 match j, hu with
 | 0, hu => exact hu
 | 1, hu => exact hu
 | 2, hu => exact hu
 | j + 3, hu => simp at hu
theorem zm3 (p s i : Int) : (Tryz.prog.info? 50).map (·.size) = some [Value.int .i64 p, .int .i64 s, .int .i64 i].length := size50
structure Seen (x : X) (b : Int → Int → Int → Bool) : Prop where
 a : ∀ j (h : j < x.am.length), b x.am[j].p x.am[j].s x.am[j].i = true
 t : ∀ j (h : j < x.wr.length), b x.wr[j].p x.wr[j].s x.wr[j].i = true
 m : ∀ j (h : j < x.mb.length) k (h2 : k < x.mb[j].ms.length), b x.mb[j].ms[k].p x.mb[j].ms[k].s x.mb[j].ms[k].i = true
 e : ∀ j (h : j < x.el.length), b x.el[j].p x.el[j].s x.el[j].i = true
def AllPost (x : X) (q u : Int) (v : List Int) (w : World) (e : Ending) (w' : World) : Prop := ∃ z, e = .returned (.bool z) ∧ (z = true → Seen x (fun p s i => bf p s i q u v 1)) ∧ Below w.heap.size w w'
def Im (z : Bool) (P : Prop) : Prop := z = true → P
theorem more {n : Nat} {f : Nat → Bool} {z y : Bool} {k : Nat} (H : Im z (∀ j, j < n → j < k → f j = true)) (hy : y = true → z = true ∧ f k = true) : Im y (∀ j, j < n → j < k + 1 → f j = true) := fun h j h1 h2 => by
 obtain ⟨hz, hf⟩ := hy h
 rcases Nat.lt_or_ge j k with h3 | h3
 ·exact H hz j h1 h3
 ·obtain rfl : j = k := by omega
  exact hf
def gA (x : X) (b : Int → Int → Int → Bool) (j : Nat) : Bool := match x.am[j]? with
 | some y => b y.p y.s y.i
 | none => true
def gT (x : X) (b : Int → Int → Int → Bool) (j : Nat) : Bool := match x.wr[j]? with
 | some y => b y.p y.s y.i
 | none => true
def gW (l : List M) (b : Int → Int → Int → Bool) (j : Nat) : Bool := match l[j]? with
 | some y => b y.p y.s y.i
 | none => true
def gM (x : X) (b : Int → Int → Int → Bool) (j : Nat) : Bool := match x.mb[j]? with
 | some y => (List.range y.ms.length).all (gW y.ms b)
 | none => true
def gY (x : X) (b : Int → Int → Int → Bool) (j : Nat) : Bool := match x.el[j]? with
 | some y => b y.p y.s y.i
 | none => true
theorem gA_at {x : X} {b : Int → Int → Int → Bool} {j : Nat} (h : j < x.am.length) : gA x b j = b x.am[j].p x.am[j].s x.am[j].i := by simp [gA, h]
theorem gT_at {x : X} {b : Int → Int → Int → Bool} {j : Nat} (h : j < x.wr.length) : gT x b j = b x.wr[j].p x.wr[j].s x.wr[j].i := by simp [gT, h]
theorem gW_at {l : List M} {b : Int → Int → Int → Bool} {j : Nat} (h : j < l.length) : gW l b j = b l[j].p l[j].s l[j].i := by simp [gW, h]
theorem gM_at {x : X} {b : Int → Int → Int → Bool} {j : Nat} (h : j < x.mb.length) : gM x b j = (List.range x.mb[j].ms.length).all (gW x.mb[j].ms b) := by simp [gM, h]
theorem gY_at {x : X} {b : Int → Int → Int → Bool} {j : Nat} (h : j < x.el.length) : gY x b j = b x.el[j].p x.el[j].s x.el[j].i := by simp [gY, h]
theorem all_any (x : X) (va vw vm ve : Value) (q u : Int) (v : List Int) (t : Int) (sl : Value) (w : World) (hv : v.length = 13) (h : Four w x va vw vm ve) (hs : Sm x) : Calls Tryz.prog 10 #[CV x.k x.b va vw vm ve, TxV q u v t sl] w (AllPost x q u v w) := by
 obtain ⟨pa, ca', pw, cw, pm, cm, pe, ce', rfl, rfl, rfl, rfl⟩ := h.slices
 have HP : Hid (∀ e w', AllPost x q u v w e w' ↔ ∃ z, e = .returned (.bool z) ∧ (z = true → Seen x (fun p s i => bf p s i q u v 1)) ∧ Below w.heap.size w w') := fun _ _ => Iff.rfl
 generalize AllPost x q u v w = Q at HP ⊢
 obtain ⟨R0, R1, hb0⟩ := two_rows w (cvc x.k x.b (.slice pa x.am.length ca') (.slice pw x.wr.length cw) (.slice pm x.mb.length cm) (.slice pe x.el.length ce')) 27 (txc q u v t sl).toArray 34
 generalize hW : (w.alloc (.cells (cvc x.k x.b (.slice pa x.am.length ca') (.slice pw x.wr.length cw) (.slice pm x.mb.length cm) (.slice pe x.el.length ce')) 27)).alloc (.cells (txc q u v t sl).toArray 34) = w0 at R0 R1 hb0
 have zt : (Tryz.prog.info? 34).map (·.size) = some (txc q u v t sl).length := by rw [txc_length hv]; exact size34
 have HF : Hid (Four w0 x (.slice pa x.am.length ca') (.slice pw x.wr.length cw) (.slice pm x.mb.length cm) (.slice pe x.el.length ce')) := h.later hb0
 obtain ⟨l1, l2, l3, l4, l5, _⟩ := hs
 clear h
 have C : ∀ (p s i : Int) (w' : World), Calls Tryz.prog 27 #[MV p s i, TxV q u v t sl, .int .i64 1] w' (Tells (.bool (bf p s i q u v 1)) w') := fun p s i w' => refBefore_any p s i q u v t sl 1 w' hv
 go_enter Tryz.func10, Tryz.ntmps10
 go_wp2_with (first | rw [hW])
 clear hW
 have hb := Below.refl w0.heap.size w0
 go_loopw [5, 6] (fun vb vi wr => ∃ (k : Nat) (z : Bool), vb = .bool z ∧ vi = .int .i64 k ∧ k ≤ x.am.length ∧ Im z (∀ j, j < x.am.length → j < k → gA x (fun p s i => bf p s i q u v 1) j = true) ∧ Below w0.heap.size w0 wr) (fun _ vi _ => x.am.length - (intOf vi).toNat)
 case atStart => exact ⟨0, _, rfl, rfl, by omega, fun _ j _ h => absurd h (by omega), hb⟩
 case round =>
  clear hb
  obtain ⟨k, z, rfl, rfl, hk, HK, hb⟩ := hrel
  have cF : wr.cell? ⟨w.heap.size, 2, none⟩ = some (.slice pa x.am.length ca') := (R0.later hb).cell 2
  by_cases hlt : k < x.am.length
  ·have hlt' : (k : Int) < (x.am.length : Int) := by omega
   obtain ⟨g, o, rfl, hd⟩ := HF.out.a.at (by omega)
   obtain ⟨e, HX⟩ := hid_ex x.am[k]
   have d := mk3 (range_sub (range_later hd hb) (k * 4) fun j u hu => rows_at A.len x.am k hlt j u hu)
   rw [HX.out] at d
   have HG : Hid (gA x (fun p s i => bf p s i q u v 1) k = bf e.p e.s e.i q u v 1) := by show _ = _; rw [gA_at hlt, HX.out]
   replace d : wr.rangeAt g (o + k * 4) [Value.int .i64 e.p, .int .i64 e.s, .int .i64 e.i] := d
   generalize e.p = mp at d HG
   generalize e.s = ms at d HG
   generalize e.i = mi at d HG
   clear hd HX
   cases z
   ·go_wp2_with fail
    have hs : Calm.Stays (fun w' => Below w0.heap.size w0 w') := fun wa wb h hb => below_on h hb
    refine Calm.region (by kernel_rfl) (by kernel_rfl) (fun w' => Below w0.heap.size w0 w') hb.drew ?_
    iterate 12 (all_goals refine Calm.sp ?_)
    intro w9 hb9
    go_wp2_with fail
    go_roundw
    case rel => exact ⟨k + 1, _, rfl, by simp, by omega, fun h => (by cases h), hb9⟩
    case measure => simp [intOf]; omega
   ·obtain ⟨y, HY⟩ := hid_ex (bf mp ms mi q u v 1)
    have C1 := C mp ms mi
    rw [HY.out] at C1
    have R1w := (R1.later hb)
    go_wp2_with fail
    have hs : Calm.Stays (fun w' => w'.cell? ⟨w.heap.size, 2, none⟩ = some (.slice (some ⟨g, o, none⟩) x.am.length ca') ∧ w'.rangeAt g (o + k * 4) [Value.int .i64 mp, .int .i64 ms, .int .i64 mi] ∧ w'.rangeAt (w.heap.size + 1) 0 (txc q u v t sl) ∧ Below w0.heap.size w0 w') := fun wa wb h hb => ⟨cell_later hb h.1, range_later h.2.1 hb, range_later h.2.2.1 hb, below_on h.2.2.2 hb⟩
    refine Calm.region (by kernel_rfl) (by kernel_rfl) (fun w' => w'.cell? ⟨w.heap.size, 2, none⟩ = some (.slice (some ⟨g, o, none⟩) x.am.length ca') ∧ w'.rangeAt g (o + k * 4) [Value.int .i64 mp, .int .i64 ms, .int .i64 mi] ∧ w'.rangeAt (w.heap.size + 1) 0 (txc q u v t sl) ∧ Below w0.heap.size w0 w') ⟨cF, d, Rw.whole (cs := (txc q u v t sl)) R1w, hb.drew⟩ ?_
    iterate 3 (all_goals refine Calm.sp ?_)
    all_goals refine Calm.ce (v := .slice (some ⟨g, o, none⟩) x.am.length ca') (ad := ⟨w.heap.size, 2, none⟩) (fun _ h => h.1) ?_
    iterate 3 (all_goals refine Calm.sp ?_)
    all_goals refine Calm.lm (zm3 mp ms mi) (fun _ h => h.2.1) Tryz.underlying50 ?_
    all_goals refine Calm.lm zt (fun _ h => h.2.2.1) Tryz.underlying34 ?_
    all_goals refine Calm.k3 hs (fun w1 h => C1 w1) ?_
    iterate 2 (all_goals refine Calm.sp ?_)
    rintro w9 ⟨_, _, _, hb9⟩
    go_wp2_with fail
    go_roundw
    case rel => exact ⟨k + 1, _, rfl, by simp, by omega, more HK fun h => ⟨rfl, by rw [HG.out, HY.out, h]⟩, hb9⟩
    case measure => simp [intOf]; omega
  ·have HE : Im z (∀ j, j < x.am.length → gA x (fun p s i => bf p s i q u v 1) j = true) := fun h j hj => HK h j hj (by omega)
   clear HK
   have P0 := HE
   clear HE
   go_wp2_with fail
   clear cF hlt hk
   go_loopw [5, 7] (fun vb vi wr => ∃ (k : Nat) (z : Bool), vb = .bool z ∧ vi = .int .i64 k ∧ k ≤ x.wr.length ∧ Im z (∀ j, j < x.am.length → gA x (fun p s i => bf p s i q u v 1) j = true) ∧ Im z (∀ j, j < x.wr.length → j < k → gT x (fun p s i => bf p s i q u v 1) j = true) ∧ Below w0.heap.size w0 wr) (fun _ vi _ => x.wr.length - (intOf vi).toNat)
   case atStart => exact ⟨0, _, rfl, rfl, by omega, P0, fun _ j _ h => absurd h (by omega), hb⟩
   case round =>
    clear hb P0
    obtain ⟨k, z, rfl, rfl, hk, P0, HK, hb⟩ := hrel
    have cF : wr.cell? ⟨w.heap.size, 3, none⟩ = some (.slice pw x.wr.length cw) := (R0.later hb).cell 3
    by_cases hlt : k < x.wr.length
    ·have hlt' : (k : Int) < (x.wr.length : Int) := by omega
     obtain ⟨g, o, rfl, hd⟩ := HF.out.t.at (by omega)
     obtain ⟨e, HX⟩ := hid_ex x.wr[k]
     have d := mk3 (range_sub (range_later hd hb) (k * 5) fun j u hu => rows_at Wt.len x.wr k hlt j u hu)
     rw [HX.out] at d
     have HG : Hid (gT x (fun p s i => bf p s i q u v 1) k = bf e.p e.s e.i q u v 1) := by show _ = _; rw [gT_at hlt, HX.out]
     replace d : wr.rangeAt g (o + k * 5) [Value.int .i64 e.p, .int .i64 e.s, .int .i64 e.i] := d
     generalize e.p = mp at d HG
     generalize e.s = ms at d HG
     generalize e.i = mi at d HG
     clear hd HX
     cases z
     ·go_wp2_with fail
      have hs : Calm.Stays (fun w' => Below w0.heap.size w0 w') := fun wa wb h hb => below_on h hb
      refine Calm.region (by kernel_rfl) (by kernel_rfl) (fun w' => Below w0.heap.size w0 w') hb.drew ?_
      iterate 12 (all_goals refine Calm.sp ?_)
      intro w9 hb9
      go_wp2_with fail
      go_roundw
      case rel => exact ⟨k + 1, _, rfl, by simp, by omega, fun h => (by cases h), fun h => (by cases h), hb9⟩
      case measure => simp [intOf]; omega
     ·obtain ⟨y, HY⟩ := hid_ex (bf mp ms mi q u v 1)
      have C1 := C mp ms mi
      rw [HY.out] at C1
      have R1w := (R1.later hb)
      go_wp2_with fail
      have hs : Calm.Stays (fun w' => w'.cell? ⟨w.heap.size, 3, none⟩ = some (.slice (some ⟨g, o, none⟩) x.wr.length cw) ∧ w'.rangeAt g (o + k * 5) [Value.int .i64 mp, .int .i64 ms, .int .i64 mi] ∧ w'.rangeAt (w.heap.size + 1) 0 (txc q u v t sl) ∧ Below w0.heap.size w0 w') := fun wa wb h hb => ⟨cell_later hb h.1, range_later h.2.1 hb, range_later h.2.2.1 hb, below_on h.2.2.2 hb⟩
      refine Calm.region (by kernel_rfl) (by kernel_rfl) (fun w' => w'.cell? ⟨w.heap.size, 3, none⟩ = some (.slice (some ⟨g, o, none⟩) x.wr.length cw) ∧ w'.rangeAt g (o + k * 5) [Value.int .i64 mp, .int .i64 ms, .int .i64 mi] ∧ w'.rangeAt (w.heap.size + 1) 0 (txc q u v t sl) ∧ Below w0.heap.size w0 w') ⟨cF, d, Rw.whole (cs := (txc q u v t sl)) R1w, hb.drew⟩ ?_
      iterate 3 (all_goals refine Calm.sp ?_)
      all_goals refine Calm.ce (v := .slice (some ⟨g, o, none⟩) x.wr.length cw) (ad := ⟨w.heap.size, 3, none⟩) (fun _ h => h.1) ?_
      iterate 3 (all_goals refine Calm.sp ?_)
      all_goals refine Calm.lm (zm3 mp ms mi) (fun _ h => h.2.1) Tryz.underlying50 ?_
      all_goals refine Calm.lm zt (fun _ h => h.2.2.1) Tryz.underlying34 ?_
      all_goals refine Calm.k3 hs (fun w1 h => C1 w1) ?_
      iterate 2 (all_goals refine Calm.sp ?_)
      rintro w9 ⟨_, _, _, hb9⟩
      go_wp2_with fail
      go_roundw
      case rel => exact ⟨k + 1, _, rfl, by simp, by omega, fun _ => P0 rfl, more HK fun h => ⟨rfl, by rw [HG.out, HY.out, h]⟩, hb9⟩
      case measure => simp [intOf]; omega
    ·have HE : Im z (∀ j, j < x.wr.length → gT x (fun p s i => bf p s i q u v 1) j = true) := fun h j hj => HK h j hj (by omega)
     clear HK
     have P1 := HE
     clear HE
     go_wp2_with fail
     clear cF hlt hk
     go_loopw [5, 8, 9] (fun vb vi _ wr => ∃ (k : Nat) (z : Bool), vb = .bool z ∧ vi = .int .i64 k ∧ k ≤ x.mb.length ∧ Im z (∀ j, j < x.am.length → gA x (fun p s i => bf p s i q u v 1) j = true) ∧ Im z (∀ j, j < x.wr.length → gT x (fun p s i => bf p s i q u v 1) j = true) ∧ Im z (∀ j, j < x.mb.length → j < k → gM x (fun p s i => bf p s i q u v 1) j = true) ∧ Below w0.heap.size w0 wr) (fun _ vi _ _ => x.mb.length - (intOf vi).toNat)
     case atStart => exact ⟨0, _, rfl, rfl, by omega, P0, P1, fun _ j _ h => absurd h (by omega), hb⟩
     case round =>
      clear hb P0 P1
      obtain ⟨k, z, rfl, rfl, hk, P0, P1, HK, hb⟩ := hrel
      have cF : wr.cell? ⟨w.heap.size, 4, none⟩ = some (.slice pm x.mb.length cm) := (R0.later hb).cell 4
      by_cases hlt : k < x.mb.length
      ·have hlt' : (k : Int) < (x.mb.length : Int) := by omega
       obtain ⟨ys, hys, hA, hyM⟩ := HF.out.m
       obtain ⟨g, o, rfl, hd⟩ := hA.at (by omega)
       have hyl : ys.length = x.mb.length := by rw [← hys, List.length_map]
       obtain ⟨e, HX⟩ := hid_ex (ys[k]'(by omega))
       have d := range_sub hd (k * 3) fun j u hu => rows_at Mb.len ys k (by omega) j u hu
       have hm := hyM (ys[k]'(by omega)) (List.getElem_mem _)
       have e0 : x.mb[k] = (ys[k]'(by omega)).1 := by simp only [← hys, List.getElem_map]
       have hle := l5 x.mb[k] (List.getElem_mem _)
       rw [e0, HX.out] at hle
       have HG : Hid (gM x (fun p s i => bf p s i q u v 1) k = (List.range e.1.ms.length).all (gW e.1.ms (fun p s i => bf p s i q u v 1))) := by show _ = _; rw [gM_at hlt, e0, HX.out]
       rw [HX.out] at d hm
       obtain ⟨y, yv⟩ := e
       replace hm : MHas w0 yv y.ms := hm
       obtain ⟨py, cy, rfl⟩ := hm.slice
       have HM : Hid (MHas w0 (.slice py y.ms.length cy) y.ms) := hm
       have dM : w0.cell? ⟨g, o + k * 3 + 2, none⟩ = some (.slice py y.ms.length cy) := d 2 _ rfl
       replace HG : Hid (gM x (fun p s i => bf p s i q u v 1) k = (List.range y.ms.length).all (gW y.ms (fun p s i => bf p s i q u v 1))) := HG
       generalize y.ms = L at HG HM dM hle
       clear hd HX hys hA hyl d hm e0 hyM
       go_wp2_with fail
       clear cF
       go_loopw [5, 9] (fun vb vj ws => ∃ (n : Nat) (z2 : Bool), vb = .bool z2 ∧ vj = .int .i64 n ∧ n ≤ L.length ∧ Im z2 (z = true) ∧ Im z2 (∀ j, j < L.length → j < n → gW L (fun p s i => bf p s i q u v 1) j = true) ∧ Below w0.heap.size w0 ws) (fun _ vj _ => L.length - (intOf vj).toNat)
       case atStart => exact ⟨0, _, rfl, rfl, by omega, fun h => h, fun _ j _ h => absurd h (by omega), hb⟩
       case round =>
        clear hb
        obtain ⟨n, z2, rfl, rfl, hn, HZ, HN, hb⟩ := hrel
        have cF : wr.cell? ⟨w.heap.size, 4, none⟩ = some (.slice (some ⟨g, o, none⟩) x.mb.length cm) := (R0.later hb).cell 4
        have cM := cell_later hb dM
        by_cases hnt : n < L.length
        ·have hnt' : (n : Int) < (L.length : Int) := by omega
         obtain ⟨g2, o2, rfl, hd⟩ := HM.out.at (by omega)
         obtain ⟨e, HX⟩ := hid_ex L[n]
         have d := range_sub (range_later hd hb) (n * 3) fun j u hu => rows_at M.len L n hnt j u hu
         rw [HX.out] at d
         have HG2 : Hid (gW L (fun p s i => bf p s i q u v 1) n = bf e.p e.s e.i q u v 1) := by show _ = _; rw [gW_at hnt, HX.out]
         replace d : wr.rangeAt g2 (o2 + n * 3) [Value.int .i64 e.p, .int .i64 e.s, .int .i64 e.i] := d
         generalize e.p = mp at d HG2
         generalize e.s = ms at d HG2
         generalize e.i = mi at d HG2
         clear hd HX
         cases z2
         ·go_wp2_with fail
          have hs : Calm.Stays (fun w' => Below w0.heap.size w0 w') := fun wa wb h hb => below_on h hb
          refine Calm.region (by kernel_rfl) (by kernel_rfl) (fun w' => Below w0.heap.size w0 w') hb.drew ?_
          iterate 15 (all_goals refine Calm.sp ?_)
          intro w9 hb9
          go_wp2_with fail
          go_roundw
          case rel => exact ⟨n + 1, _, rfl, by simp, by omega, fun h => (by cases h), fun h => (by cases h), hb9⟩
          case measure => simp [intOf]; omega
         ·obtain ⟨y, HY⟩ := hid_ex (bf mp ms mi q u v 1)
          have C1 := C mp ms mi
          rw [HY.out] at C1
          have R1w := (R1.later hb)
          go_wp2_with fail
          have hs : Calm.Stays (fun w' => w'.cell? ⟨w.heap.size, 4, none⟩ = some (.slice (some ⟨g, o, none⟩) x.mb.length cm) ∧ w'.cell? ⟨g, o + k * 3 + 2, none⟩ = some (.slice (some ⟨g2, o2, none⟩) L.length cy) ∧ w'.rangeAt g2 (o2 + n * 3) [Value.int .i64 mp, .int .i64 ms, .int .i64 mi] ∧ w'.rangeAt (w.heap.size + 1) 0 (txc q u v t sl) ∧ Below w0.heap.size w0 w') := fun wa wb h hb => ⟨cell_later hb h.1, cell_later hb h.2.1, range_later h.2.2.1 hb, range_later h.2.2.2.1 hb, below_on h.2.2.2.2 hb⟩
          refine Calm.region (by kernel_rfl) (by kernel_rfl) (fun w' => w'.cell? ⟨w.heap.size, 4, none⟩ = some (.slice (some ⟨g, o, none⟩) x.mb.length cm) ∧ w'.cell? ⟨g, o + k * 3 + 2, none⟩ = some (.slice (some ⟨g2, o2, none⟩) L.length cy) ∧ w'.rangeAt g2 (o2 + n * 3) [Value.int .i64 mp, .int .i64 ms, .int .i64 mi] ∧ w'.rangeAt (w.heap.size + 1) 0 (txc q u v t sl) ∧ Below w0.heap.size w0 w') ⟨cF, cM, d, Rw.whole (cs := (txc q u v t sl)) R1w, hb.drew⟩ ?_
          iterate 3 (all_goals refine Calm.sp ?_)
          all_goals refine Calm.ce (v := .slice (some ⟨g, o, none⟩) x.mb.length cm) (ad := ⟨w.heap.size, 4, none⟩) (fun _ h => h.1) ?_
          iterate 3 (all_goals refine Calm.sp ?_)
          all_goals refine Calm.ce (v := .slice (some ⟨g2, o2, none⟩) L.length cy) (ad := ⟨g, o + k * 3 + 2, none⟩) (fun _ h => h.2.1) ?_
          iterate 2 (all_goals refine Calm.sp ?_)
          all_goals refine Calm.lm (zm3 mp ms mi) (fun _ h => h.2.2.1) Tryz.underlying50 ?_
          all_goals refine Calm.lm zt (fun _ h => h.2.2.2.1) Tryz.underlying34 ?_
          all_goals refine Calm.k3 hs (fun w1 h => C1 w1) ?_
          iterate 2 (all_goals refine Calm.sp ?_)
          rintro w9 ⟨_, _, _, _, hb9⟩
          go_wp2_with fail
          go_roundw
          case rel => exact ⟨n + 1, _, rfl, by simp, by omega, fun _ => HZ rfl, more HN fun h => ⟨rfl, by rw [HG2.out, HY.out, h]⟩, hb9⟩
          case measure => simp [intOf]; omega
        ·have HE : Im z2 (gM x (fun p s i => bf p s i q u v 1) k = true) := fun h => by
          rw [HG.out, List.all_eq_true]
          intro j hj
          have hj2 : j < L.length := by simpa using hj
          exact HN h j hj2 (by omega)
         go_wp2_with fail
         go_roundw
         case rel => exact ⟨k + 1, _, rfl, by simp, by omega, fun h => P0 (HZ h), fun h => P1 (HZ h), more HK fun h => ⟨HZ h, HE h⟩, hb⟩
         case measure => simp [intOf]; omega
      ·have P2 : Im z (∀ j, j < x.mb.length → gM x (fun p s i => bf p s i q u v 1) j = true) := fun h j hj => HK h j hj (by omega)
       clear HK
       go_wp2_with fail
       clear cF hlt hk
       go_loopw [5, 10] (fun vb vi wr => ∃ (k : Nat) (z : Bool), vb = .bool z ∧ vi = .int .i64 k ∧ k ≤ x.el.length ∧ Im z (∀ j, j < x.am.length → gA x (fun p s i => bf p s i q u v 1) j = true) ∧ Im z (∀ j, j < x.wr.length → gT x (fun p s i => bf p s i q u v 1) j = true) ∧ Im z (∀ j, j < x.mb.length → gM x (fun p s i => bf p s i q u v 1) j = true) ∧ Im z (∀ j, j < x.el.length → j < k → gY x (fun p s i => bf p s i q u v 1) j = true) ∧ Below w0.heap.size w0 wr) (fun _ vi _ => x.el.length - (intOf vi).toNat)
       case atStart => exact ⟨0, _, rfl, rfl, by omega, P0, P1, P2, fun _ j _ h => absurd h (by omega), hb⟩
       case round =>
        clear hb P0 P1 P2
        obtain ⟨k, z, rfl, rfl, hk, P0, P1, P2, HK, hb⟩ := hrel
        have cF : wr.cell? ⟨w.heap.size, 5, none⟩ = some (.slice pe x.el.length ce') := (R0.later hb).cell 5
        by_cases hlt : k < x.el.length
        ·have hlt' : (k : Int) < (x.el.length : Int) := by omega
         obtain ⟨ys, hys, hA, _⟩ := HF.out.e
         obtain ⟨g, o, rfl, hd⟩ := hA.at (by omega)
         have hyl : ys.length = x.el.length := by rw [← hys, List.length_map]
         obtain ⟨e, HX⟩ := hid_ex (ys[k]'(by omega))
         have d := mk3 (range_sub (range_later hd hb) (k * 9) fun j u hu => rows_at El.len ys k (by omega) j u hu)
         rw [HX.out] at d
         have HG : Hid (gY x (fun p s i => bf p s i q u v 1) k = bf e.1.p e.1.s e.1.i q u v 1) := by
          show _ = _
          have e0 : x.el[k] = (ys[k]'(by omega)).1 := by simp only [← hys, List.getElem_map]
          rw [gY_at hlt, e0, HX.out]
         replace d : wr.rangeAt g (o + k * 9) [Value.int .i64 e.1.p, .int .i64 e.1.s, .int .i64 e.1.i] := d
         generalize e.1.p = mp at d HG
         generalize e.1.s = ms at d HG
         generalize e.1.i = mi at d HG
         clear hd HX hys hA hyl
         cases z
         ·go_wp2_with fail
          have hs : Calm.Stays (fun w' => Below w0.heap.size w0 w') := fun wa wb h hb => below_on h hb
          refine Calm.region (by kernel_rfl) (by kernel_rfl) (fun w' => Below w0.heap.size w0 w') hb.drew ?_
          iterate 12 (all_goals refine Calm.sp ?_)
          intro w9 hb9
          go_wp2_with fail
          go_roundw
          case rel => exact ⟨k + 1, _, rfl, by simp, by omega, fun h => (by cases h), fun h => (by cases h), fun h => (by cases h), fun h => (by cases h), hb9⟩
          case measure => simp [intOf]; omega
         ·obtain ⟨y, HY⟩ := hid_ex (bf mp ms mi q u v 1)
          have C1 := C mp ms mi
          rw [HY.out] at C1
          have R1w := (R1.later hb)
          go_wp2_with fail
          have hs : Calm.Stays (fun w' => w'.cell? ⟨w.heap.size, 5, none⟩ = some (.slice (some ⟨g, o, none⟩) x.el.length ce') ∧ w'.rangeAt g (o + k * 9) [Value.int .i64 mp, .int .i64 ms, .int .i64 mi] ∧ w'.rangeAt (w.heap.size + 1) 0 (txc q u v t sl) ∧ Below w0.heap.size w0 w') := fun wa wb h hb => ⟨cell_later hb h.1, range_later h.2.1 hb, range_later h.2.2.1 hb, below_on h.2.2.2 hb⟩
          refine Calm.region (by kernel_rfl) (by kernel_rfl) (fun w' => w'.cell? ⟨w.heap.size, 5, none⟩ = some (.slice (some ⟨g, o, none⟩) x.el.length ce') ∧ w'.rangeAt g (o + k * 9) [Value.int .i64 mp, .int .i64 ms, .int .i64 mi] ∧ w'.rangeAt (w.heap.size + 1) 0 (txc q u v t sl) ∧ Below w0.heap.size w0 w') ⟨cF, d, Rw.whole (cs := (txc q u v t sl)) R1w, hb.drew⟩ ?_
          iterate 3 (all_goals refine Calm.sp ?_)
          all_goals refine Calm.ce (v := .slice (some ⟨g, o, none⟩) x.el.length ce') (ad := ⟨w.heap.size, 5, none⟩) (fun _ h => h.1) ?_
          iterate 3 (all_goals refine Calm.sp ?_)
          all_goals refine Calm.lm (zm3 mp ms mi) (fun _ h => h.2.1) Tryz.underlying50 ?_
          all_goals refine Calm.lm zt (fun _ h => h.2.2.1) Tryz.underlying34 ?_
          all_goals refine Calm.k3 hs (fun w1 h => C1 w1) ?_
          iterate 2 (all_goals refine Calm.sp ?_)
          rintro w9 ⟨_, _, _, hb9⟩
          go_wp2_with fail
          go_roundw
          case rel => exact ⟨k + 1, _, rfl, by simp, by omega, fun _ => P0 rfl, fun _ => P1 rfl, fun _ => P2 rfl, more HK fun h => ⟨rfl, by rw [HG.out, HY.out, h]⟩, hb9⟩
          case measure => simp [intOf]; omega
        ·have HE : Im z (∀ j, j < x.el.length → gY x (fun p s i => bf p s i q u v 1) j = true) := fun h j hj => HK h j hj (by omega)
         clear HK
         have P3 := HE
         clear HE
         go_wp2_with fail
         clear cF hlt hk
         show Q (.returned (.bool z)) wr
         rw [HP.out]
         refine ⟨_, rfl, fun h => ⟨fun j hj => ?_, fun j hj => ?_, fun j hj k h2 => ?_, fun j hj => ?_⟩, below_on hb0 hb⟩
         ·rw [← gA_at (b := (fun p s i => bf p s i q u v 1)) hj]; exact P0 h j hj
         ·rw [← gT_at (b := (fun p s i => bf p s i q u v 1)) hj]; exact P1 h j hj
         ·have := P2 h j hj
          rw [gM_at hj] at this
          rw [← gW_at (b := (fun p s i => bf p s i q u v 1)) h2]
          exact List.all_eq_true.1 this k (by simpa using h2)
         ·rw [← gY_at (b := (fun p s i => bf p s i q u v 1)) hj]; exact P3 h j hj
theorem gE_k (f : M → Bool) (m : M) (e : El) : kE (gE f m e) = kE e := by
 unfold gE
 split <;> rfl
theorem gE_r (f : M → Bool) (m : M) (e : El) : rE (gE f m e) = rE e := by
 unfold gE
 split <;> rfl
theorem gE_t (f : M → Bool) (m : M) (e : El) : (gE f m e).t = e.t := by
 unfold gE
 split <;> rfl
theorem gE_ie {f : M → Bool} {m : M} {e : El} (h : ie e = true) (hm : im m.i = true) : ie (gE f m e) = true := by
 unfold gE
 split
 ·unfold ie at h ⊢
  simp only [Bool.and_eq_true] at h ⊢
  exact ⟨h.1, h.2.1, wth_ca h.2.2 hm⟩
 ·exact h
structure Kps (g : El → El) : Prop where
 k : ∀ e, kE (g e) = kE e
 r : ∀ e, rE (g e) = rE e
 t : ∀ e, (g e).t = e.t
theorem gE_kps (f : M → Bool) (m : M) : Kps (gE f m) := ⟨gE_k f m, gE_r f m, gE_t f m⟩
theorem Kps.pl {g : El → El} (h : Kps g) (l : List El) (m : K) : pl (l.map g) m = pl l m := by
 unfold Go.Proofs.YtjbbmcommnhgeaaGreat.pl
 rw [List.findIdx?_map]
 congr 1
 funext e
 simp [h.k]
theorem Kps.upL {g : El → El} (h : Kps g) (l : List El) : upL (l.map g) = upL l := by
 funext k
 unfold Go.Proofs.YtjbbmcommnhgeaaGreat.upL
 rw [List.getElem?_map]
 cases l[k - 1]? with
 | none => rfl
 | some e => simp only [Option.map_some, h.r, h.pl]
theorem Kps.cr {g : El → El} (h : Kps g) (l : List El) : cr (l.map g) = cr l := by
 unfold Go.Proofs.YtjbbmcommnhgeaaGreat.cr okR noR
 rw [h.upL, List.length_map, List.all_map]
 congr 2
 funext e
 simp only [Function.comp, h.r, h.pl]
theorem Kps.ce {g : El → El} (h : Kps g) {l : List El} (hc : ce l = true) (hi : ∀ e ∈ l, ie (g e) = true) : ce (l.map g) = true := by
 refine ce_of (fun e he => ?_) ?_
 ·obtain ⟨a, ha, rfl⟩ := List.mem_map.1 he
  exact hi a ha
 ·rw [List.pairwise_map]
  refine (ce_up hc).imp_of_mem ?_
  intro a b _ _ hab
  rw [h.k, h.k]
  exact hab
theorem ck_go {x : X} {m : M} {f : M → Bool} (h : ck x = true) (hm : im m.i = true) : ck (goX x m f) = true := by
 have h' := h
 obtain ⟨h1, h2, h3, h4, h5, h6, h7⟩ := ck_parts h
 unfold goX
 rw [if_pos (by rw [h, hm]; rfl)]
 unfold ck
 simp only [Bool.and_eq_true, decide_eq_true_eq]
 exact ⟨h1, h2, by omega, (gE_kps f m).ce h6 (fun e he => gE_ie (ce_ie h6 e he) hm), by rw [(gE_kps f m).cr]; exact h7⟩
end Go.Proofs.YtjbbmcommnhgeaaGreat
namespace Go.Proofs.YtjbbmcommnhgeaaGreat
open Go.RowKit Go.Sort
structure Sc (n m : Nat) (x : X) : Prop where
 a : x.am.length ≤ n
 t : x.wr.length ≤ n
 b : x.mb.length ≤ n
 e : x.el.length ≤ n
 bi : ∀ y ∈ x.mb, y.ms.length ≤ m
 ei : ∀ y ∈ x.el, y.gone.length ≤ m
theorem Fw.sc {x : X} (h : Fw x) : Sc 60 30 x := by
 obtain ⟨h1, h2, h3⟩ := h
 exact ⟨by omega, by omega, by omega, by omega, h2, h3⟩
theorem Sc.sm {n m : Nat} {x : X} (h : Sc n m x) (hn : n ≤ 100) (hm : m ≤ 100) : Sm x := ⟨Nat.le_trans h.a hn, Nat.le_trans h.t hn, Nat.le_trans h.b hn, Nat.le_trans h.e hn, fun y hy => Nat.le_trans (h.bi y hy) hm, fun y hy => Nat.le_trans (h.ei y hy) hm⟩
theorem Sc.mono {n m n' m' : Nat} {x : X} (h : Sc n m x) (hn : n ≤ n') (hm : m ≤ m') : Sc n' m' x := ⟨Nat.le_trans h.a hn, Nat.le_trans h.t hn, Nat.le_trans h.b hn, Nat.le_trans h.e hn, fun y hy => Nat.le_trans (h.bi y hy) hm, fun y hy => Nat.le_trans (h.ei y hy) hm⟩
theorem cse_all {α : Type} {p : α → Prop} {k : Int} {a b c d e : α} (h1 : p a) (h2 : p b) (h3 : p c) (h4 : p d) (h5 : p e) : p (cse k a b c d e) := by
 unfold cse
 split
 ·exact h1
 split
 ·exact h2
 split
 ·exact h3
 split
 ·exact h4
 ·exact h5
section
variable {n m : Nat} {x : X}
theorem sc_wo (h : Sc n m x) (i : Int) (G : Mb → Bool) (p : M → Bool) : Sc n m (Os.woX x i G p) := by
 unfold Os.woX
 split
 ·refine ⟨h.a, h.t, Nat.le_trans (Os.wo_length _ _ _) h.b, h.e, fun z hz => ?_, h.ei⟩
  obtain ⟨y, hy, rfl | e⟩ := Os.wo_sub hz
  ·exact h.bi _ hy
  ·exact Nat.le_trans (Os.dm_length e) (h.bi _ hy)
 ·exact h
theorem sc_go (h : Sc n m x) (r : M) (f : M → Bool) : Sc n (m + 1) (goX x r f) := by
 unfold goX
 split
 ·refine ⟨h.a, h.t, h.b, by show (List.map _ _).length ≤ _; rw [List.length_map]; exact h.e, fun y hy => Nat.le_succ_of_le (h.bi y hy), fun z hz => ?_⟩
  obtain ⟨y, hy, rfl⟩ := List.mem_map.1 hz
  unfold gE
  split
  ·exact Nat.le_trans (wth_length _ _) (Nat.add_le_add_right (h.ei y hy) 1)
  ·exact Nat.le_succ_of_le (h.ei y hy)
 ·exact h.mono (Nat.le_refl _) (Nat.le_succ _)
theorem sc_cl (h : Sc n m x) (q u : Int) (v : List Int) (i : Int) : Sc n (m + 1) (clc x q u v i) := by
 unfold clc
 split
 ·exact h.mono (Nat.le_refl _) (Nat.le_succ _)
 refine cse_all ?_ ?_ ?_ (sc_go h _ _) (h.mono (Nat.le_refl _) (Nat.le_succ _))
 ·unfold Ct.clX
  split
  ·exact ⟨Nat.le_trans (List.length_filter_le _ _) h.a, by simp, by simp, by simp, fun y hy => by simp at hy, fun y hy => by simp at hy⟩
  ·exact h.mono (Nat.le_refl _) (Nat.le_succ _)
 ·unfold Rg.clX
  split
  ·exact ⟨h.a, Nat.le_trans (List.length_filter_le _ _) h.t, h.b, h.e, fun y hy => Nat.le_succ_of_le (h.bi y hy), fun y hy => Nat.le_succ_of_le (h.ei y hy)⟩
  ·exact h.mono (Nat.le_refl _) (Nat.le_succ _)
 ·exact (sc_wo h _ _ _).mono (Nat.le_refl _) (Nat.le_succ _)
end
end Go.Proofs.YtjbbmcommnhgeaaGreat
namespace Go.Proofs.YtjbbmcommnhgeaaGreat
open Go.RowKit
theorem ckc_kind {x : X} (h : ckc x = true) : 1 ≤ x.k ∧ x.k ≤ 5 := by
 rcases kinds x.k with e | e | e | e | e | e
 ·omega
 ·omega
 ·omega
 ·omega
 ·omega
 ·rw [show ckc x = false from cse0 _ _ _ _ _ e] at h
  cases h
theorem nw_ck {k : Int} (h : 1 ≤ k ∧ k ≤ 5) : ckc (xk k) = true := by
 rcases kinds k with rfl | rfl | rfl | rfl | rfl | e
 ·exact ck_1
 ·exact (by decide : Rg.ck (xk 2) = true)
 ·exact (by decide : Rg.ck (xk 3) = true)
 ·exact ck_4
 ·exact (by decide : ck (xk 5) = true)
 ·simp only [beq_eq_false_iff_ne] at e
  omega
theorem nw_read {k : Int} (h : 1 ≤ k ∧ k ≤ 5) : rkc (xk k) = k ∧ rnc (xk k) = 0 ∧ rtc (xk k) = [] := by
 have hc := nw_ck h
 rcases kinds k with rfl | rfl | rfl | rfl | rfl | e
 ·refine ⟨?_, ?_, rfl⟩
  ·rw [show rkc (xk 1) = Ct.rdK (xk 1) from rfl, Ct.rdK, ck_1]; rfl
  ·rw [show rnc (xk 1) = Ct.rdN (xk 1) from rfl, Ct.rdN, ck_1]; rfl
 ·replace hc : Rg.ck (xk 2) = true := hc
  refine ⟨?_, rfl, ?_⟩
  ·rw [show rkc (xk 2) = Rg.rdK (xk 2) from rfl, Rg.rdK, hc]; rfl
  ·rw [show rtc (xk 2) = Rg.rdT (xk 2) from rfl, Rg.rdT, hc]; rfl
 ·replace hc : Rg.ck (xk 3) = true := hc
  refine ⟨?_, rfl, ?_⟩
  ·rw [show rkc (xk 3) = Rg.rdK (xk 3) from rfl, Rg.rdK, hc]; rfl
  ·rw [show rtc (xk 3) = Rg.rdT (xk 3) from rfl, Rg.rdT, hc]; rfl
 ·refine ⟨?_, rfl, ?_⟩
  ·rw [show rkc (xk 4) = Os.rdK (xk 4) from rfl, Os.rdK, ck_4]; rfl
  ·rw [show rtc (xk 4) = Os.rdT (xk 4) from rfl, Os.rdT, ck_4]; rfl
 ·replace hc : ck (xk 5) = true := hc
  refine ⟨?_, rfl, ?_⟩
  ·rw [show rkc (xk 5) = rdK (xk 5) from rfl, rdK, hc]; rfl
  ·rw [show rtc (xk 5) = rdT (xk 5) from rfl, rdT, hc, if_pos rfl]
   have : prE (xk 5).el = [] := List.eq_nil_iff_forall_not_mem.2 fun y hy => by
    have := prL_mem hy
    simp [xk] at this
   rw [this]
   rfl
 ·simp only [beq_eq_false_iff_ne] at e
  omega
theorem prL_none {l : List El} (h : ∀ y ∈ l, nog y = false) (ks : List Nat) : prL nog l ks = [] := by
 unfold prL
 rw [List.filterMap_eq_nil_iff]
 intro k _
 cases e : l[k - 1]? with
 | none => rfl
 | some y =>
  have := h y (List.mem_of_getElem? e)
  simp [this]
theorem cl_read {x : X} {q u : Int} {v : List Int} (h : ckc x = true) (S : Seen x (fun p s i => bf p s i q u v 1)) : rkc (clc x q u v 1) = x.k ∧ rnc (clc x q u v 1) = 0 ∧ rtc (clc x q u v 1) = [] := by
 obtain ⟨k, b, am, wr, mb, el⟩ := x
 have hk := ckc_kind h
 have S1 : ∀ y ∈ am, bf y.p y.s y.i q u v 1 = true := fun y hy => by
  obtain ⟨j, hj, rfl⟩ := List.mem_iff_getElem.1 hy
  exact S.a j hj
 have S2 : ∀ y ∈ wr, bf y.p y.s y.i q u v 1 = true := fun y hy => by
  obtain ⟨j, hj, rfl⟩ := List.mem_iff_getElem.1 hy
  exact S.t j hj
 have S3 : ∀ y ∈ mb, ∀ m ∈ y.ms, bf m.p m.s m.i q u v 1 = true := fun y hy m hm => by
  obtain ⟨j, hj, rfl⟩ := List.mem_iff_getElem.1 hy
  obtain ⟨i, hi, rfl⟩ := List.mem_iff_getElem.1 hm
  exact S.m j hj i hi
 have S4 : ∀ y ∈ el, bf y.p y.s y.i q u v 1 = true := fun y hy => by
  obtain ⟨j, hj, rfl⟩ := List.mem_iff_getElem.1 hy
  exact S.e j hj
 rw [show clc ⟨k, b, am, wr, mb, el⟩ q u v 1 = clk ⟨k, b, am, wr, mb, el⟩ q u v 1 from if_neg (by decide)]
 rcases kinds k with rfl | rfl | rfl | rfl | rfl | e
 ·replace h : Ct.ck ⟨1, b, am, wr, mb, el⟩ = true := h
  have e : clk ⟨1, b, am, wr, mb, el⟩ q u v 1 = xk 1 := by
   show Ct.clX _ q u v 1 = _
   unfold Ct.clX
   rw [if_pos h]
   unfold Ct.lef
   rw [List.filter_eq_nil_iff.2 fun y hy => by simp [S1 y hy]]
   rfl
  rw [e]
  exact nw_read hk
 ·replace h : Rg.ck ⟨2, b, am, wr, mb, el⟩ = true := h
  obtain ⟨_, h1, h2, h3, h4, _⟩ := Rg.ck_parts h
  obtain rfl : am = [] := List.eq_nil_of_length_eq_zero h2
  obtain rfl : mb = [] := List.eq_nil_of_length_eq_zero h3
  obtain rfl : el = [] := List.eq_nil_of_length_eq_zero h4
  obtain rfl : b = 0 := h1
  have e : clk ⟨2, 0, [], wr, [], []⟩ q u v 1 = xk 2 := by
   show Rg.clX _ q u v 1 = _
   unfold Rg.clX
   rw [if_pos h]
   unfold Rg.lef
   rw [List.filter_eq_nil_iff.2 fun y hy => by simp [S2 y hy]]
   rfl
  rw [e]
  exact nw_read hk
 ·replace h : Rg.ck ⟨3, b, am, wr, mb, el⟩ = true := h
  obtain ⟨_, h1, h2, h3, h4, _⟩ := Rg.ck_parts h
  obtain rfl : am = [] := List.eq_nil_of_length_eq_zero h2
  obtain rfl : mb = [] := List.eq_nil_of_length_eq_zero h3
  obtain rfl : el = [] := List.eq_nil_of_length_eq_zero h4
  obtain rfl : b = 0 := h1
  have e : clk ⟨3, 0, [], wr, [], []⟩ q u v 1 = xk 3 := by
   show Rg.clX _ q u v 1 = _
   unfold Rg.clX
   rw [if_pos h]
   unfold Rg.lef
   rw [List.filter_eq_nil_iff.2 fun y hy => by simp [S2 y hy]]
   rfl
  rw [e]
  exact nw_read hk
 ·replace h : Os.ck ⟨4, b, am, wr, mb, el⟩ = true := h
  obtain ⟨_, h1, h2, h3, h4, _⟩ := Os.ck_parts h
  obtain rfl : am = [] := List.eq_nil_of_length_eq_zero h2
  obtain rfl : wr = [] := List.eq_nil_of_length_eq_zero h3
  obtain rfl : el = [] := List.eq_nil_of_length_eq_zero h4
  obtain rfl : b = 0 := h1
  have e : clk ⟨4, 0, [], [], mb, []⟩ q u v 1 = xk 4 := by
   show Os.woX _ 1 _ _ = _
   unfold Os.woX
   rw [if_pos (by rw [h]; rfl)]
   have : Os.wo (fun _ => true) (bfP q u v 1) mb = [] := by
    unfold Os.wo
    rw [List.filterMap_eq_nil_iff]
    intro y hy
    rw [if_pos rfl]
    unfold Os.dm
    rw [if_pos]
    rw [List.filter_eq_nil_iff.2 fun m hm => by simp [bfP, S3 y hy m hm]]
    rfl
   rw [this]
   rfl
  rw [e]
  exact nw_read hk
 ·replace h : ck ⟨5, b, am, wr, mb, el⟩ = true := h
  have hc := ck_go (m := ⟨q, u, 1⟩) (f := bfP q u v 1) h rfl
  have e : clk ⟨5, b, am, wr, mb, el⟩ q u v 1 = goX ⟨5, b, am, wr, mb, el⟩ ⟨q, u, 1⟩ (bfP q u v 1) := rfl
  have e2 : goX ⟨5, b, am, wr, mb, el⟩ ⟨q, u, 1⟩ (bfP q u v 1) = ⟨5, b, am, wr, mb, el.map (gE (bfP q u v 1) ⟨q, u, 1⟩)⟩ := by
   unfold goX
   rw [if_pos (by rw [h]; rfl)]
  rw [e]
  rw [e2] at hc ⊢
  refine ⟨?_, rfl, ?_⟩
  ·rw [show rkc ⟨5, b, am, wr, mb, el.map (gE (bfP q u v 1) ⟨q, u, 1⟩)⟩ = rdK ⟨5, b, am, wr, mb, el.map (gE (bfP q u v 1) ⟨q, u, 1⟩)⟩ from rfl, rdK, hc]
   rfl
  ·rw [show rtc ⟨5, b, am, wr, mb, el.map (gE (bfP q u v 1) ⟨q, u, 1⟩)⟩ = rdT ⟨5, b, am, wr, mb, el.map (gE (bfP q u v 1) ⟨q, u, 1⟩)⟩ from rfl, rdT, hc, if_pos rfl]
   have : prE (el.map (gE (bfP q u v 1) ⟨q, u, 1⟩)) = [] := prL_none (fun z hz => by
    obtain ⟨y, hy, rfl⟩ := List.mem_map.1 hz
    unfold gE
    rw [if_pos (show bfP q u v 1 (mE y) = true from S4 y hy)]
    unfold nog
    rw [decide_eq_false_iff_not]
    have := wth_ne y.gone ⟨q, u, 1⟩
    show ¬ (wth y.gone ⟨q, u, 1⟩).length = 0
    omega) _
   rw [this]
   rfl
 ·simp only [beq_eq_false_iff_ne] at e
  simp only at hk
  omega
end Go.Proofs.YtjbbmcommnhgeaaGreat
namespace Go.Proofs.YtjbbmcommnhgeaaGreat
open Go.RowKit Go.Sort
theorem THas.elem {w : World} {l : List Bs} {g o : Nat} (h : w.rangeAt g o (l.map encStr)) (k : Nat) (hk : k < l.length) : w.cell? ⟨g, o + k, none⟩ = some (encStr l[k]) := h k _ (by simp [hk])
theorem refTexts_any (v1 v2 : Value) (l : List Bs) (w : World) (h1 : THas w v1 l) (h2 : THas w v2 l) : Calls Tryz.prog 33 #[v1, v2] w (Tells (.bool true) w) := by
 have hml := maxLen_lt h1.1
 obtain ⟨p1, c1, rfl⟩ := h1.slice
 obtain ⟨p2, c2, rfl⟩ := h2.slice
 have H1 : Hid (THas w (.slice p1 l.length c1) l) := h1
 have H2 : Hid (THas w (.slice p2 l.length c2) l) := h2
 clear h1 h2
 go_enter Tryz.func33, Tryz.ntmps33
 go_wp2
 go_loopw [5] (fun vi wr => ∃ k : Nat, vi = .int .i64 k ∧ k ≤ l.length ∧ Below w.heap.size w wr) (fun vi _ => l.length - (intOf vi).toNat)
 case atStart => exact ⟨0, rfl, by omega, Below.refl _ _⟩
 case round =>
  obtain ⟨k, rfl, hk, hbel⟩ := hrel
  by_cases hlt : k < l.length
  ·have hlt' : (k : Int) < (l.length : Int) := by omega
   have hk0 : (0 : Int) ≤ (k : Int) := by omega
   obtain ⟨g, o, rfl, hd1⟩ := H1.out.at (by omega)
   obtain ⟨g', o', rfl, hd2⟩ := H2.out.at (by omega)
   have c1 := THas.elem (range_later hd1 hbel) k hlt
   have c2 := THas.elem (range_later hd2 hbel) k hlt
   obtain ⟨s, HS⟩ := hid_ex l[k]
   rw [HS.out] at c1 c2
   clear hd1 hd2 H1 H2 HS
   go_wp2_with fail
   have hs : Calm.Stays (fun w' => w'.cell? ⟨g, o + k, none⟩ = some (encStr s) ∧ w'.cell? ⟨g', o' + k, none⟩ = some (encStr s) ∧ Below w.heap.size w w') := fun wa wb h hb => ⟨cell_later hb h.1, cell_later hb h.2.1, below_on h.2.2 hb⟩
   refine Calm.region (by kernel_rfl) (by kernel_rfl) (fun w' => w'.cell? ⟨g, o + k, none⟩ = some (encStr s) ∧ w'.cell? ⟨g', o' + k, none⟩ = some (encStr s) ∧ Below w.heap.size w w') ⟨c1, c2, hbel.drew⟩ ?_
   iterate 3 (all_goals refine Calm.sp ?_)
   all_goals refine Calm.cl (fun _ h => h.1) ?_
   iterate 3 (all_goals refine Calm.sp ?_)
   all_goals refine Calm.cl (fun _ h => h.2.1) ?_
   all_goals refine Calm.sp ?_
   all_goals
    rintro w9 ⟨_, _, hbel9⟩
   go_wp2_with fail
   go_roundw
   case rel => exact ⟨k + 1, by simp, by omega, hbel9⟩
   case measure => simp [intOf]; omega
  ·have hlt' : ¬ (k : Int) < (l.length : Int) := by omega
   clear H1 H2
   go_wp2_with fail
   go_ret
   exact ⟨rfl, hbel⟩
theorem values_any (k n : Int) (u1 u2 : Value) (l : List Bs) (w : World) (h1 : THas w u1 l) (h2 : THas w u2 l) : Calls Tryz.prog 13 #[VN k n u1, VN k n u2] w (Tells (.bool true) w) := by
 obtain ⟨p1, c1, rfl⟩ := h1.slice
 obtain ⟨p2, c2, rfl⟩ := h2.slice
 obtain ⟨R0, R1, hbel⟩ := two_rows w #[.int .i64 k, .int .i64 n, .slice p1 l.length c1, .slice none 0 0] 46 #[.int .i64 k, .int .i64 n, .slice p2 l.length c2, .slice none 0 0] 46
 generalize hW : (w.alloc (.cells #[.int .i64 k, .int .i64 n, .slice p1 l.length c1, .slice none 0 0] 46)).alloc (.cells #[.int .i64 k, .int .i64 n, .slice p2 l.length c2, .slice none 0 0] 46) = w0 at R0 R1 hbel
 have a0 : w0.cell? ⟨w.heap.size, 0, none⟩ = some (.int .i64 k) := R0.cell 0
 have a1 : w0.cell? ⟨w.heap.size, 1, none⟩ = some (.int .i64 n) := R0.cell 1
 have a2 : w0.cell? ⟨w.heap.size, 2, none⟩ = some (.slice p1 l.length c1) := R0.cell 2
 have e0 : w0.cell? ⟨w.heap.size + 1, 0, none⟩ = some (.int .i64 k) := R1.cell 0
 have e1 : w0.cell? ⟨w.heap.size + 1, 1, none⟩ = some (.int .i64 n) := R1.cell 1
 have e2 : w0.cell? ⟨w.heap.size + 1, 2, none⟩ = some (.slice p2 l.length c2) := R1.cell 2
 have C := refTexts_any _ _ l w0 (h1.later hbel) (h2.later hbel)
 clear h1 h2
 go_enter Tryz.func13, Tryz.ntmps13
 go_wp2_with (first | rw [hW])
 refine C.mono ?_
 rintro e w1 ⟨rfl, hb1⟩
 have a3 : w1.cell? ⟨w.heap.size, 3, none⟩ = some (.slice none 0 0) := (R0.later hb1).cell 3
 have e3 : w1.cell? ⟨w.heap.size + 1, 3, none⟩ = some (.slice none 0 0) := (R1.later hb1).cell 3
 go_wp2_with fail
 have R := R0.later hb1
 replace hbel := below_on hbel hb1
 clear a0 a1 a2 a3 e0 e1 e2 e3 hb1 hW R0 R1
 go_loopw [5] (fun vi wr => vi = .int .i64 0 ∧ wr.cell? ⟨w.heap.size, 3, none⟩ = some (.slice none 0 0) ∧ Below w.heap.size w wr) (fun _ _ => 0)
 case atStart => exact ⟨rfl, R.cell 3, hbel⟩
 case round =>
  clear hbel
  obtain ⟨rfl, c3, hbel⟩ := hrel
  go_wp2_with fail
  go_ret
  exact ⟨rfl, hbel⟩
end Go.Proofs.YtjbbmcommnhgeaaGreat
namespace Go.Proofs.YtjbbmcommnhgeaaGreat
open Go.RowKit
def SmPost (n : Nat) (w : World) (e : Ending) (w' : World) : Prop := ∃ b, e = .returned (.bool b) ∧ (b = true → n ≤ 40) ∧ Below w.heap.size w w'
theorem small_any (p s : Int) (v : List Int) (t : Int) (sl : Value) (l : List O) (w : World) (hv : v.length = 13) (ho : OHas w sl l) : Calls Tryz.prog 9 #[TxV p s v t sl] w (SmPost l.length w) := by
  obtain ⟨q, c, rfl, hm, hr⟩ := ho
  have hml := maxLen_lt hm
  have HR : Hid (0 < l.length → ∃ g o, q = some ⟨g, o, none⟩ ∧ ∀ i (h : i < l.length), w.rangeAt g (o + i * 10) l[i].cells) := hr
  clear hr
  have R0 := rw_new w 34 (txc p s v t (.slice q l.length c)).toArray
  have hbel : Below w.heap.size w (w.alloc (.cells (txc p s v t (.slice q l.length c)).toArray 34)) := bel_alloc (Below.refl _ _) _
  generalize hW : w.alloc (.cells (txc p s v t (.slice q l.length c)).toArray 34) = w0 at R0 hbel
  go_enter Tryz.func9, Tryz.ntmps9
  go_wp2_with (rw [hW])
  clear hW
  go_loopw [3] (fun vi wr => ∃ k : Nat, vi = .int .i64 k ∧ k ≤ l.length ∧ (l.length ≤ 40 ∨ k = 0) ∧ Rw wr w.heap.size 34 (txc p s v t (.slice q l.length c)).toArray ∧ Below w.heap.size w wr) (fun vi _ => l.length - (intOf vi).toNat)
  case atStart => exact ⟨0, rfl, by omega, .inr rfl, R0, hbel⟩
  case round =>
    clear R0 hbel
    obtain ⟨k, rfl, hk, hor, R, hbel⟩ := hrel
    have c16 := tx_ops R hv
    by_cases hle : l.length ≤ 40
    · have hle' : (l.length : Int) ≤ 40 := by omega
      by_cases hlt : k < l.length
      · have hlt' : (k : Int) < (l.length : Int) := by omega
        obtain ⟨g, o, rfl, hd⟩ := HR.out (by omega)
        have d := range_later (hd k hlt) hbel
        clear HR hd
        have hk40 : k < 40 := by omega
        generalize l[k] = x at d
        have z35 : (Tryz.prog.info? 52).map (·.size) = some x.cells.length := size52
        have hb2 : Below w.heap.size w (wr.alloc (.cells x.cells.toArray 52)) := bel_alloc hbel _
        have R2 := R.alloc (.cells x.cells.toArray 52)
        go_wp2_with (refine load_m 52 _ rfl rfl _ _ rfl d Tryz.underlying52 rfl z35 ?_)
        all_goals first
          | (go_ret; exact ⟨_, rfl, fun _ => hle, hb2⟩)
          | (go_roundw
             case rel => exact ⟨k + 1, by simp, by omega, .inl hle, R2, hb2⟩
             case measure => simp [intOf]; omega)
      · have hlt' : ¬ (k : Int) < (l.length : Int) := by omega
        clear HR
        go_wp2_with fail
        go_ret
        exact ⟨_, rfl, fun _ => hle, hbel⟩
    · obtain rfl : k = 0 := by omega
      have hle' : ¬ (l.length : Int) ≤ 40 := by omega
      have h0 : 0 < (l.length : Int) := by omega
      clear HR
      go_wp2_with fail
      go_ret
      exact ⟨_, rfl, fun h => by simp at h, hbel⟩
def vnP (k n : Int) (l : List Bs) : Value → World → Prop := fun r w => ∃ u, r = VN k n u ∧ THas w u l
theorem vnP_keeps (k n : Int) (l : List Bs) : Keeps (vnP k n l) := fun _ _ _ ⟨u, e, h⟩ hb => ⟨u, e, h.later hb⟩
theorem reads_p {k n : Int} {l : List Bs} {w : World} {e : Ending} {w' : World} (h : Reads k n l w e w') : ∃ r, e = .returned r ∧ vnP k n l r w' ∧ Below w.heap.size w w' := by
 obtain ⟨u, he, hu, hb⟩ := h
 exact ⟨_, he, ⟨u, rfl, hu⟩, hb⟩
theorem clears_law (x : X) (va vw vm ve : Value) (q u : Int) (v : List Int) (t : Int) (sl : Value) (l : List O) (w : World) (hv : v.length = 13) (ho : OHas w sl l) (h : Four w x va vw vm ve) (hl : Lk x) : Calls Tryz.prog 3 #[CV x.k x.b va vw vm ve, TxV q u v t sl] w (Tells (.bool true) w) := by
 obtain ⟨R0, R1, hb⟩ := two_rows w (cvc x.k x.b va vw vm ve) 27 (txc q u v t sl).toArray 34
 generalize hW : (w.alloc (.cells (cvc x.k x.b va vw vm ve) 27)).alloc (.cells (txc q u v t sl).toArray 34) = w0 at R0 R1 hb
 have zt := size_tx (p := q) (s := u) (t := t) (sl := sl) hv
 replace h := h.later hb
 replace ho := ho.later hb
 go_enter Tryz.func3, Tryz.ntmps3
 go_wp2_with (first | rw [hW] | refine load_r 27 _ rfl rfl _ rfl R0 Tryz.underlying27 rfl size27 ?_)
 clear hW
 refine (few_any x va vw vm ve w0 h hl).mono ?_
 rintro e w1 ⟨y, rfl, hy, hb1⟩
 replace R0 := R0.later hb1
 replace R1 := R1.later hb1
 replace h := h.later hb1
 replace ho := ho.later hb1
 replace hb := below_on hb hb1
 clear hb1
 cases y
 ·clear hy
  go_wp2_with fail
  refine (heads_any _).mono ?_
  rintro e w9 ⟨rfl, hb9⟩
  go_wp2_with fail
  go_ret
  exact ⟨rfl, below_on hb hb9⟩
 ·have FW : Hid (Fw x) := hy rfl
  have hs := FW.out.sm
  clear hy
  go_wp2_with (refine load_r 27 _ rfl rfl _ rfl R0 Tryz.underlying27 rfl size27 ?_)
  refine (refCheck_c x va vw vm ve w1 h hs).mono ?_
  rintro e w2 ⟨rfl, hb1⟩
  replace R0 := R0.later hb1
  replace R1 := R1.later hb1
  replace h := h.later hb1
  replace ho := ho.later hb1
  replace hb := below_on hb hb1
  clear hb1
  obtain ⟨y, HY⟩ := hid_ex (ckc x)
  rw [HY.out]
  cases y
  ·go_wp2_with fail
   refine (heads_any _).mono ?_
   rintro e w9 ⟨rfl, hb9⟩
   go_wp2_with fail
   go_ret
   exact ⟨rfl, below_on hb hb9⟩
  ·go_wp2_with (refine load_r 34 _ rfl rfl _ rfl R1 Tryz.underlying34 rfl zt ?_)
   refine (small_any q u v t sl l w2 hv ho).mono ?_
   rintro e w3 ⟨y, rfl, _, hb1⟩
   replace R0 := R0.later hb1
   replace R1 := R1.later hb1
   replace h := h.later hb1
   replace hb := below_on hb hb1
   clear hb1
   cases y
   ·go_wp2_with fail
    refine (heads_any _).mono ?_
    rintro e w9 ⟨rfl, hb9⟩
    go_wp2_with fail
    go_ret
    exact ⟨rfl, below_on hb hb9⟩
   ·go_wp2_with (first | refine load_r 27 _ rfl rfl _ rfl R0 Tryz.underlying27 rfl size27 ?_ | refine load_r 34 _ rfl rfl _ rfl R1 Tryz.underlying34 rfl zt ?_)
    refine (all_any x va vw vm ve q u v t sl w3 hv h hs).mono ?_
    rintro e w4 ⟨y, rfl, hA, hb1⟩
    replace R0 := R0.later hb1
    replace R1 := R1.later hb1
    replace h := h.later hb1
    replace hb := below_on hb hb1
    clear hb1
    cases y
    ·go_wp2_with fail
     refine (heads_any _).mono ?_
     rintro e w9 ⟨rfl, hb9⟩
     go_wp2_with fail
     go_ret
     exact ⟨rfl, below_on hb hb9⟩
    ·have HA : Hid (Seen x (fun p s i => bf p s i q u v 1)) := hA rfl
     clear hA
     have hk := ckc_kind HY.out
     have c0 : w4.cell? ⟨w.heap.size, 0, none⟩ = some (.int .i64 x.k) := R0.cell 0
     go_wp2_with fail
     refine (new_c x.k w4).mono ?_
     rw [show nwK x.k = x.k by unfold nwK; rw [if_pos hk], show nwE x.k = 0 by unfold nwE; rw [if_pos hk]]
     rintro e w5 ⟨rfl, hb1⟩
     replace R0 := R0.later hb1
     replace R1 := R1.later hb1
     replace h := h.later hb1
     replace hb := below_on hb hb1
     have hk2 := hk
     clear hb1 c0
     have HK : Hid (1 ≤ x.k ∧ x.k ≤ 5) := hk
     clear hk hk2
     go_wp2_with fail
     have R5 := rw_new w5 27 #[.int .i64 x.k, .int .i64 0, .slice none 0 0, .slice none 0 0, .slice none 0 0, .slice none 0 0]
     have hb1 := bel_alloc (Below.refl w5.heap.size w5) (.cells #[.int .i64 x.k, .int .i64 0, .slice none 0 0, .slice none 0 0, .slice none 0 0, .slice none 0 0] 27)
     generalize w5.alloc (.cells #[.int .i64 x.k, .int .i64 0, .slice none 0 0, .slice none 0 0, .slice none 0 0, .slice none 0 0] 27) = w6 at R5 hb1 ⊢
     replace R0 := R0.later hb1
     replace R1 := R1.later hb1
     replace h := h.later hb1
     replace hb := below_on hb hb1
     clear hb1
     have zx : (Tryz.prog.info? 27).map (·.size) = some ([Value.int .i64 x.k, .int .i64 x.b, va, vw, vm, ve] : List Value).length := size27
     have zn : (Tryz.prog.info? 27).map (·.size) = some ([Value.int .i64 x.k, .int .i64 0, .slice none 0 0, .slice none 0 0, .slice none 0 0, .slice none 0 0] : List Value).length := size27
     have ztx : (Tryz.prog.info? 34).map (·.size) = some (txc q u v t sl).length := by rw [txc_length hv]; exact size34
     have HR := cl_read HY.out HA.out
     have sz := (sc_cl FW.out.sc q u v 1).sm (by omega) (by omega)
     have HN := nw_read HK.out
     have CC : ∀ w', Below w6.heap.size w6 w' → Calls Tryz.prog 15 #[CV x.k x.b va vw vm ve, TxV q u v t sl, .int .i64 1] w' (Gives (clc x q u v 1) w') := fun w' hb => clear_c x va vw vm ve q u v t sl 1 w' hv (h.later hb) hs
     have CR : ∀ w' va vw vm ve, Four w' (clc x q u v 1) va vw vm ve → Calls Tryz.prog 14 #[CV (clc x q u v 1).k (clc x q u v 1).b va vw vm ve] w' (Reads x.k 0 [] w') := fun w' va vw vm ve hf => by
      have := read_c (clc x q u v 1) va vw vm ve w' hf sz
      rw [HR.1, HR.2.1, HR.2.2] at this
      exact this
     have CN : ∀ w', Calls Tryz.prog 14 #[CV x.k 0 (.slice none 0 0) (.slice none 0 0) (.slice none 0 0) (.slice none 0 0)] w' (Reads x.k 0 [] w') := fun w' => by
      have := read_c (xk x.k) _ _ _ _ w' (four_k x.k w') (sm_k x.k)
      rw [HN.1, HN.2.1, HN.2.2] at this
      exact this
     generalize clc x q u v 1 = z at CC CR
     clear HR sz HN HA FW HY h hs hl HK
     have hS : Calm.Stays (fun w' => Below w6.heap.size w6 w') := fun wa wb h hb => below_on h hb
     have hF : Facts.Stay [pF 0 (eqP (.int .i64 0)), pF 1 (eqP (.bool true)), pF 2 (eqP (.bool true)), pF 3 (eqP (.agg ([Value.int .i64 x.k, .int .i64 x.b, va, vw, vm, ve] : List Value).toArray)), pF 4 (eqP (.agg (txc q u v t sl).toArray)), pF 5 (cP z), pF 6 (vnP x.k 0 []), pF 7 (eqP (.agg ([Value.int .i64 x.k, .int .i64 0, .slice none 0 0, .slice none 0 0, .slice none 0 0, .slice none 0 0] : List Value).toArray)), pF 8 (vnP x.k 0 []), pF 9 (eqP (.bool true)), pF 10 (eqP (.bool true)), pF 11 (eqP (.bool true)), pF 12 (eqP (.bool true)), pF 13 (eqP (.bool true)), pF 14 (eqP (.bool true))] := stay_of (by simp only [List.forall_mem_cons]; exact ⟨⟨_, _, rfl, eqP_keeps _⟩, ⟨_, _, rfl, eqP_keeps _⟩, ⟨_, _, rfl, eqP_keeps _⟩, ⟨_, _, rfl, eqP_keeps _⟩, ⟨_, _, rfl, eqP_keeps _⟩, ⟨_, _, rfl, cP_keeps _⟩, ⟨_, _, rfl, vnP_keeps _ _ _⟩, ⟨_, _, rfl, eqP_keeps _⟩, ⟨_, _, rfl, vnP_keeps _ _ _⟩, ⟨_, _, rfl, eqP_keeps _⟩, ⟨_, _, rfl, eqP_keeps _⟩, ⟨_, _, rfl, eqP_keeps _⟩, ⟨_, _, rfl, eqP_keeps _⟩, ⟨_, _, rfl, eqP_keeps _⟩, ⟨_, _, rfl, eqP_keeps _⟩, fun _ h => by cases h⟩)
     refine FactsG.region (by kernel_rfl) (by kernel_rfl) (fun w' => Below w6.heap.size w6 w') (fun xv => { tmps := #[CV x.k x.b va vw vm ve, TxV q u v t sl, Value.pointer (some { block := w.heap.size, off := 0 }), Value.pointer (some { block := w.heap.size + 1, off := 0 }), xv 14, Value.pointer (some { block := w5.heap.size, off := 0 }), Value.int IntKind.i64 0, Value.agg (cvc x.k x.b va vw vm ve), Value.bool true, Value.bool false, Value.bool false, Value.agg (cvc x.k x.b va vw vm ve), Value.bool true, Value.bool false, Value.bool false, Value.bool false, Value.agg (txc q u v t sl).toArray, Value.bool true, Value.bool false, Value.bool false, Value.bool false, Value.agg (cvc x.k x.b va vw vm ve), Value.agg (txc q u v t sl).toArray, Value.bool true, Value.bool false, Value.bool false, undef, Value.tuple #[CV x.k 0 (Value.slice none 0 0) (Value.slice none 0 0) (Value.slice none 0 0) (Value.slice none 0 0), Value.int IntKind.i64 0], Value.pointer (some { block := w.heap.size, off := 0 }), Value.int IntKind.i64 x.k, Value.tuple #[CV x.k 0 (Value.slice none 0 0) (Value.slice none 0 0) (Value.slice none 0 0) (Value.slice none 0 0), Value.int IntKind.i64 0], CV x.k 0 (Value.slice none 0 0) (Value.slice none 0 0) (Value.slice none 0 0) (Value.slice none 0 0), Value.int IntKind.i64 0, xv 0, xv 1, xv 2, xv 3, xv 4, xv 5, xv 6, xv 7, xv 8, xv 9, xv 10, xv 11, xv 12, xv 13], defers := [] }) [pF 0 (eqP (.int .i64 0)), pF 1 (eqP (.bool true)), pF 2 (eqP (.bool true)), pF 3 (eqP (.agg ([Value.int .i64 x.k, .int .i64 x.b, va, vw, vm, ve] : List Value).toArray)), pF 4 (eqP (.agg (txc q u v t sl).toArray)), pF 5 (cP z), pF 6 (vnP x.k 0 []), pF 7 (eqP (.agg ([Value.int .i64 x.k, .int .i64 0, .slice none 0 0, .slice none 0 0, .slice none 0 0, .slice none 0 0] : List Value).toArray)), pF 8 (vnP x.k 0 []), pF 9 (eqP (.bool true)), pF 10 (eqP (.bool true)), pF 11 (eqP (.bool true)), pF 12 (eqP (.bool true)), pF 13 (eqP (.bool true)), pF 14 (eqP (.bool true))] (fun _ _ _ _ => True) (fun _ _ _ _ _ => trivial) _ rfl rfl (by kernel_rfl) (fun j => [undef, undef, undef, undef, undef, undef, undef, undef, undef, undef, undef, undef, undef, undef, Value.bool false].getD j undef) rfl (Below.refl _ w6).drew ⟨?_, ?_, ?_, ?_, ?_, ?_, ?_, ?_, ?_, ?_, ?_, ?_, ?_, ?_, ?_, trivial⟩ ?_
     ·exact FactsG.of rfl (fun _ _ _ => trivial) (fun _ _ _ _ => rfl) (Facts.pureP hS hF (fun _ _ => rfl) rfl (fun xv wv hSw hd => by
       go_simp))
     ·exact FactsG.of rfl (fun _ _ _ => trivial) (fun _ _ _ _ => rfl) (Facts.pureP hS hF (fun _ _ => rfl) rfl (fun xv wv hSw hd => by
       have d0 : xv 0 = _ := pF_get (hd ⟨0, .data⟩ (by simp) rfl _ rfl)
       simp only [d0]
       go_simp))
     ·exact FactsG.of rfl (fun _ _ _ => trivial) (fun _ _ _ _ => rfl) (Facts.pureP hS hF (fun _ _ => rfl) rfl (fun xv wv hSw hd => by
       have d1 : xv 1 = _ := pF_get (hd ⟨1, .data⟩ (by simp) rfl _ rfl)
       simp only [d1]
       go_simp))
     ·exact FactsG.of rfl (fun _ _ _ => trivial) (fun xv wv hSw hd => by have dg : xv 2 = _ := pF_get (hd ⟨2, .guard⟩ (by simp) rfl _ rfl); simp only [dg]; rfl) (Facts.loadP hS hF (fun _ _ => rfl) 27 Tryz.underlying27 rfl zx _ rfl rfl (fun xv wv hSw hd => by rfl) (fun wv hSw => Rw.whole (cs := [Value.int .i64 x.k, .int .i64 x.b, va, vw, vm, ve]) (R0.later hSw)))
     ·exact FactsG.of rfl (fun _ _ _ => trivial) (fun xv wv hSw hd => by have dg : xv 2 = _ := pF_get (hd ⟨2, .guard⟩ (by simp) rfl _ rfl); simp only [dg]; rfl) (Facts.loadP hS hF (fun _ _ => rfl) 34 Tryz.underlying34 rfl ztx _ rfl rfl (fun xv wv hSw hd => by rfl) (fun wv hSw => Rw.whole (cs := (txc q u v t sl)) (R1.later hSw)))
     ·refine FactsG.of rfl (fun _ _ _ => trivial) (fun xv wv hSw hd => by have dg : xv 2 = _ := pF_get (hd ⟨2, .guard⟩ (by simp) rfl _ rfl); simp only [dg]; rfl) (Facts.call3P hS hF (fun _ _ => rfl) rfl (by kernel_rfl) rfl (fun xv wv hSw hd => ?_))
      have d3 : xv 3 = _ := pF_get (hd ⟨3, .data⟩ (by simp) rfl _ rfl)
      have d4 : xv 4 = _ := pF_get (hd ⟨4, .data⟩ (by simp) rfl _ rfl)
      show Calls Tryz.prog 15 #[xv 3, xv 4, .int .i64 1] wv _
      rw [d3, d4]
      exact (CC wv hSw).mono fun e w' h => gives_p h
     ·refine FactsG.of rfl (fun _ _ _ => trivial) (fun xv wv hSw hd => by have dg : xv 2 = _ := pF_get (hd ⟨2, .guard⟩ (by simp) rfl _ rfl); simp only [dg]; rfl) (Facts.call1P hS hF (fun _ _ => rfl) rfl (by kernel_rfl) rfl (fun xv wv hSw hd => ?_))
      have d5 := pF_get (hd ⟨5, .data⟩ (by simp) rfl _ rfl)
      show Calls Tryz.prog 14 #[xv 5] wv _
      obtain ⟨ua, uw, um, ue, e5, h5⟩ := d5
      rw [e5]
      exact (CR wv ua uw um ue h5).mono fun e w' h => reads_p h
     ·exact FactsG.of rfl (fun _ _ _ => trivial) (fun xv wv hSw hd => by have dg : xv 2 = _ := pF_get (hd ⟨2, .guard⟩ (by simp) rfl _ rfl); simp only [dg]; rfl) (Facts.loadP hS hF (fun _ _ => rfl) 27 Tryz.underlying27 rfl zn _ rfl rfl (fun xv wv hSw hd => by rfl) (fun wv hSw => Rw.whole (cs := [Value.int .i64 x.k, .int .i64 0, .slice none 0 0, .slice none 0 0, .slice none 0 0, .slice none 0 0]) (R5.later hSw)))
     ·refine FactsG.of rfl (fun _ _ _ => trivial) (fun xv wv hSw hd => by have dg : xv 2 = _ := pF_get (hd ⟨2, .guard⟩ (by simp) rfl _ rfl); simp only [dg]; rfl) (Facts.call1P hS hF (fun _ _ => rfl) rfl (by kernel_rfl) rfl (fun xv wv hSw hd => ?_))
      have d7 : xv 7 = _ := pF_get (hd ⟨7, .data⟩ (by simp) rfl _ rfl)
      show Calls Tryz.prog 14 #[xv 7] wv _
      rw [d7]
      exact (CN wv).mono fun e w' h => reads_p h
     ·refine FactsG.of rfl (fun _ _ _ => trivial) (fun xv wv hSw hd => by have dg : xv 2 = _ := pF_get (hd ⟨2, .guard⟩ (by simp) rfl _ rfl); simp only [dg]; rfl) (Facts.call2P hS hF (fun _ _ => rfl) rfl (by kernel_rfl) rfl (fun xv wv hSw hd => ?_))
      have d6 := pF_get (hd ⟨6, .data⟩ (by simp) rfl _ rfl)
      have d8 := pF_get (hd ⟨8, .data⟩ (by simp) rfl _ rfl)
      show Calls Tryz.prog 13 #[xv 6, xv 8] wv _
      obtain ⟨u6, e6, h6⟩ := d6
      obtain ⟨u8, e8, h8⟩ := d8
      rw [e6, e8]
      exact (values_any x.k 0 u6 u8 [] wv h6 h8).mono fun e w' h => tells_p h
     ·exact FactsG.of rfl (fun _ _ _ => trivial) (fun _ _ _ _ => rfl) (Facts.pureP hS hF (fun _ _ => rfl) rfl (fun xv wv hSw hd => by
       have d2 : xv 2 = _ := pF_get (hd ⟨2, .data⟩ (by simp) rfl _ rfl)
       have d9 : xv 9 = _ := pF_get (hd ⟨9, .data⟩ (by simp) rfl _ rfl)
       simp only [d2, d9]
       go_simp))
     ·exact FactsG.of rfl (fun _ _ _ => trivial) (fun _ _ _ _ => rfl) (Facts.pureP hS hF (fun _ _ => rfl) rfl (fun xv wv hSw hd => by
       have d10 : xv 10 = _ := pF_get (hd ⟨10, .data⟩ (by simp) rfl _ rfl)
       simp only [d10]
       go_simp))
     ·refine FactsG.of rfl (fun _ _ _ => trivial) (fun xv wv hSw hd => by have dg : xv 11 = _ := pF_get (hd ⟨11, .guard⟩ (by simp) rfl _ rfl); simp only [dg]; rfl) (Facts.call0P hS hF (fun _ _ => rfl) rfl (by kernel_rfl) rfl (fun xv wv hSw hd => ?_))
      exact (heads_any wv).mono fun e w' h => tells_p h
     ·exact FactsG.of rfl (fun _ _ _ => trivial) (fun _ _ _ _ => rfl) (Facts.pureP hS hF (fun _ _ => rfl) rfl (fun xv wv hSw hd => by
       have d11 : xv 11 = _ := pF_get (hd ⟨11, .data⟩ (by simp) rfl _ rfl)
       have d12 : xv 12 = _ := pF_get (hd ⟨12, .data⟩ (by simp) rfl _ rfl)
       simp only [d11, d12]
       go_simp))
     ·exact FactsG.of rfl (fun _ _ _ => trivial) (fun _ _ _ _ => rfl) (Facts.pureP hS hF (fun _ _ => rfl) rfl (fun xv wv hSw hd => by
       have d13 : xv 13 = _ := pF_get (hd ⟨13, .data⟩ (by simp) rfl _ rfl)
       simp only [d13]
       go_simp))
     intro x9 w9 hb9 hf
     have e14 : x9 14 = _ := pF_get (hf 14 _ (by decide) rfl)
     rw [e14]
     go_wp2_with fail
     go_ret
     exact ⟨rfl, below_on hb hb9⟩
end Go.Proofs.YtjbbmcommnhgeaaGreat
