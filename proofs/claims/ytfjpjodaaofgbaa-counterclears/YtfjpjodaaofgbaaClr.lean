/- Clear and Fold of package counter. -/
import Derived.Test.YtfjpjodaaofgbaaDo
namespace Go.Proofs.Ytfjpjodaaofgbaa
open Go.RowKit

/-- What is left behind a clearing. -/
def lef (x : X) (q u : Int) (v : List Int) (idx : Int) : List A := x.am.filter (fun a => !bf a.p a.s a.i q u v idx)
def clX (x : X) (q u : Int) (v : List Int) (idx : Int) : X := if ck x = true then ⟨1, 0, lef x q u v idx, [], [], []⟩ else x
/-- And behind a folding. -/
def rst (x : X) (v : List Int) : List A := x.am.filter (fun a => !hs v a.p a.s)
def bsX (x : X) (v : List Int) : Int := x.b + sm x.am - sm (rst x v)
def foX (x : X) (v : List Int) : X := if (ck x && wi (bsX x v) (-1152921504606846976) 1152921504606846976) = true then ⟨1, bsX x v, rst x v, [], [], []⟩ else x
theorem four_of {w : World} {va : Value} {l : List A} {k b : Int} (h : AHas w va l) : Four w ⟨k, b, l, [], [], []⟩ va (.slice none 0 0) (.slice none 0 0) (.slice none 0 0) := ⟨h, WHas.nil w, BHas.nil w, EHas.nil w⟩
theorem wrap64_id {n : Int} (h1 : -9223372036854775808 ≤ n) (h2 : n ≤ 9223372036854775807) : wrap64 n = n := by
  have := IntKind.wrap_i64 n
  unfold wrap64
  omega
theorem nb_filter {l : List A} (h : nb l) (f : A → Bool) : nb (l.filter f) := fun a ha => h a (List.mem_filter.1 ha).1
set_option maxHeartbeats 4000000 in
set_option maxRecDepth 100000 in
theorem clear_any (x : X) (va vw vm ve : Value) (q u : Int) (v : List Int) (t : Int) (sl : Value) (idx : Int) (w : World) (hv : v.length = 13) (h : Four w x va vw vm ve) (hs : Sm x) :
    Calls Try.prog 12 #[CV x.k x.b va vw vm ve, TxV q u v t sl, .int .i64 idx] w (Gives (clX x q u v idx) w) := by
  obtain ⟨pa, ca', pw, cw, pm, cm, pe, ce, rfl, rfl, rfl, rfl⟩ := h.slices
  have HF : Hid (Four w x (.slice pa x.am.length ca') (.slice pw x.wr.length cw) (.slice pm x.mb.length cm) (.slice pe x.el.length ce)) := h
  clear h
  obtain ⟨z, HZ⟩ := hid_ex (clX x q u v idx)
  rw [HZ.out]
  have R0 := (((rw_new w 27 (cvc x.k x.b (.slice pa x.am.length ca') (.slice pw x.wr.length cw) (.slice pm x.mb.length cm) (.slice pe x.el.length ce))).alloc (.cells (txc q u v t sl).toArray 34)).alloc (.cells #[.int .i64 idx] 3)).alloc (.cells (cvc 0 0 (.slice none 0 0) (.slice none 0 0) (.slice none 0 0) (.slice none 0 0)) 27)
  have R1 := ((rw_new (w.alloc (.cells (cvc x.k x.b (.slice pa x.am.length ca') (.slice pw x.wr.length cw) (.slice pm x.mb.length cm) (.slice pe x.el.length ce)) 27)) 34 (txc q u v t sl).toArray).alloc (.cells #[.int .i64 idx] 3)).alloc (.cells (cvc 0 0 (.slice none 0 0) (.slice none 0 0) (.slice none 0 0) (.slice none 0 0)) 27)
  have R2 := (rw_new ((w.alloc (.cells (cvc x.k x.b (.slice pa x.am.length ca') (.slice pw x.wr.length cw) (.slice pm x.mb.length cm) (.slice pe x.el.length ce)) 27)).alloc (.cells (txc q u v t sl).toArray 34)) 3 #[.int .i64 idx]).alloc (.cells (cvc 0 0 (.slice none 0 0) (.slice none 0 0) (.slice none 0 0) (.slice none 0 0)) 27)
  have R3 := rw_new (((w.alloc (.cells (cvc x.k x.b (.slice pa x.am.length ca') (.slice pw x.wr.length cw) (.slice pm x.mb.length cm) (.slice pe x.el.length ce)) 27)).alloc (.cells (txc q u v t sl).toArray 34)).alloc (.cells #[.int .i64 idx] 3)) 27 (cvc 0 0 (.slice none 0 0) (.slice none 0 0) (.slice none 0 0) (.slice none 0 0))
  have hbel := bel_alloc (bel_alloc (bel_alloc (bel_alloc (Below.refl w.heap.size w) (.cells (cvc x.k x.b (.slice pa x.am.length ca') (.slice pw x.wr.length cw) (.slice pm x.mb.length cm) (.slice pe x.el.length ce)) 27)) (.cells (txc q u v t sl).toArray 34)) (.cells #[.int .i64 idx] 3)) (.cells (cvc 0 0 (.slice none 0 0) (.slice none 0 0) (.slice none 0 0) (.slice none 0 0)) 27)
  have hsz : ((((w.alloc (.cells (cvc x.k x.b (.slice pa x.am.length ca') (.slice pw x.wr.length cw) (.slice pm x.mb.length cm) (.slice pe x.el.length ce)) 27)).alloc (.cells (txc q u v t sl).toArray 34)).alloc (.cells #[.int .i64 idx] 3)).alloc (.cells (cvc 0 0 (.slice none 0 0) (.slice none 0 0) (.slice none 0 0) (.slice none 0 0)) 27)).heap.size = w.heap.size + 4 := by simp
  generalize hW : (((w.alloc (.cells (cvc x.k x.b (.slice pa x.am.length ca') (.slice pw x.wr.length cw) (.slice pm x.mb.length cm) (.slice pe x.el.length ce)) 27)).alloc (.cells (txc q u v t sl).toArray 34)).alloc (.cells #[.int .i64 idx] 3)).alloc (.cells (cvc 0 0 (.slice none 0 0) (.slice none 0 0) (.slice none 0 0) (.slice none 0 0)) 27) = w0 at R0 R1 R2 R3 hbel hsz
  simp only [World.size_alloc, Nat.add_assoc, Nat.reduceAdd] at R1 R2 R3
  go_enter Try.func12, Try.ntmps12
  go_wp2_with (first | rw [hW] | refine load_r 27 _ rfl rfl _ rfl R0 Try.underlying27 rfl size27 ?_)
  clear hW
  refine (check_any x _ _ _ _ w0 (HF.out.later hbel) hs).mono ?_
  rintro e w1 ⟨rfl, hb1⟩
  replace R0 := R0.later hb1
  replace R1 := R1.later hb1
  replace R2 := R2.later hb1
  replace R3 := R3.later hb1
  replace hbel := below_on hbel hb1
  have hB : w.heap.size + 4 ≤ w1.heap.size := by have := hb1.size; omega
  clear hb1 hsz
  obtain ⟨y1, HY1⟩ := hid_ex (ck x)
  rw [HY1.out]
  cases y1
  · have HD : Hid (clX x q u v idx = x) := by
      show _ = _
      unfold clX
      rw [HY1.out]
      rfl
    rw [HD.out] at HZ
    go_wp2_with (first | refine load_r 27 _ rfl rfl _ rfl R0 Try.underlying27 rfl size27 ?_)
    refine (copied_any x _ _ _ _ w1 (HF.out.later hbel) hs).mono ?_
    rintro e w2 ⟨ua, uw, um, ue, rfl, ho, hb1⟩
    obtain ⟨qa, da, qw, dw, qm, dm, qe, de, rfl, rfl, rfl, rfl⟩ := ho.four.slices
    replace R3 := R3.later hb1
    replace hbel := below_on hbel hb1
    go_wp2_with (first | refine store_r rfl 27 _ _ rfl _ (cvc x.k x.b (.slice qa x.am.length da) (.slice qw x.wr.length dw) (.slice qm x.mb.length dm) (.slice qe x.el.length de)) rfl rfl R3 size27 rfl (by simp [Value.oneCell']) ?_)
    refine bodyPost_ret (results_r rfl rfl (R3.row _) rfl Try.underlying27 size27) rfl ?_
    have e := HZ.out
    subst e
    exact ⟨_, _, _, _, rfl, (ho.row (by omega) R3 _).four, below_setRow hbel (by omega) _⟩
  · have HD : Hid (clX x q u v idx = ⟨1, 0, lef x q u v idx, [], [], []⟩) := by
      show _ = _
      unfold clX
      rw [HY1.out]
      rfl
    have c2 : w1.cell? ⟨w.heap.size, 2, none⟩ = some (.slice pa x.am.length ca') := R0.cell 2
    have C1 : ∀ (a : A) (w' : World), Below w1.heap.size w1 w' → Calls Try.prog 27 #[AV a.p a.s a.i a.n, .pointer (some ⟨w.heap.size + 1, 0, none⟩), .pointer (some ⟨w.heap.size + 2, 0, none⟩)] w' (Tells (.bool (!bf a.p a.s a.i q u v idx)) w') := fun a w' hb => clear1_any a.p a.s a.i a.n _ _ q u v t sl idx w' hv (R1.later hb) ((R2.later hb).cell 0)
    go_wp2_with fail
    refine (those27_any _ x.am (fun a => !bf a.p a.s a.i q u v idx) _ _ w1 (HF.out.a.later hbel) hs.a C1).mono ?_
    rintro e w2 ⟨ua, rfl, ho, hb1⟩
    clear C1 c2
    replace ho : w2.ownsRow w1.heap.size 42 4 ua (lef x q u v idx).length (rows A.cells (lef x q u v idx)) := ho
    obtain ⟨qa, da, rfl⟩ := own_sl ho
    replace R3 := R3.later hb1
    replace hbel := below_on hbel hb1
    have hB2 := Nat.le_trans hB hb1.size
    clear hb1
    go_wp2_with fail
    refine (cellOf_any 0 qa (lef x q u v idx).length da w2).mono ?_
    rintro e w3 ⟨rfl, hb1⟩
    replace R3 := R3.later hb1
    replace ho := own_later ho hb1
    replace hbel := below_on hbel hb1
    go_wp2_with (first | refine store_r rfl 27 _ _ rfl _ (cvc 1 0 (.slice qa (lef x q u v idx).length da) (.slice none 0 0) (.slice none 0 0) (.slice none 0 0)) rfl rfl R3 size27 rfl (by simp [Value.oneCell']) ?_)
    refine bodyPost_ret (results_r rfl rfl (R3.row _) rfl Try.underlying27 size27) rfl ?_
    rw [HD.out] at HZ
    have e := HZ.out
    subst e
    exact ⟨_, _, _, _, rfl, four_of (own_sh (own_row ho (b := w.heap.size + 3) (by omega) _)), below_setRow hbel (by omega) _⟩
set_option maxHeartbeats 4000000 in
set_option maxRecDepth 100000 in
theorem fold_any (x : X) (va vw vm ve : Value) (v : List Int) (w : World) (hv : v.length = 13) (h : Four w x va vw vm ve) (hs' : Sm x) :
    Calls Try.prog 19 #[CV x.k x.b va vw vm ve, V v] w (Gives (foX x v) w) := by
  obtain ⟨pa, ca', pw, cw, pm, cm, pe, ce, rfl, rfl, rfl, rfl⟩ := h.slices
  have HF : Hid (Four w x (.slice pa x.am.length ca') (.slice pw x.wr.length cw) (.slice pm x.mb.length cm) (.slice pe x.el.length ce)) := h
  clear h
  obtain ⟨z, HZ⟩ := hid_ex (foX x v)
  rw [HZ.out]
  have R0 := ((rw_new w 27 (cvc x.k x.b (.slice pa x.am.length ca') (.slice pw x.wr.length cw) (.slice pm x.mb.length cm) (.slice pe x.el.length ce))).alloc (.cells (vals v).toArray 31)).alloc (.cells (cvc 0 0 (.slice none 0 0) (.slice none 0 0) (.slice none 0 0) (.slice none 0 0)) 27)
  have R1 := (rw_new (w.alloc (.cells (cvc x.k x.b (.slice pa x.am.length ca') (.slice pw x.wr.length cw) (.slice pm x.mb.length cm) (.slice pe x.el.length ce)) 27)) 31 (vals v).toArray).alloc (.cells (cvc 0 0 (.slice none 0 0) (.slice none 0 0) (.slice none 0 0) (.slice none 0 0)) 27)
  have R2 := rw_new ((w.alloc (.cells (cvc x.k x.b (.slice pa x.am.length ca') (.slice pw x.wr.length cw) (.slice pm x.mb.length cm) (.slice pe x.el.length ce)) 27)).alloc (.cells (vals v).toArray 31)) 27 (cvc 0 0 (.slice none 0 0) (.slice none 0 0) (.slice none 0 0) (.slice none 0 0))
  have hbel := bel_alloc (bel_alloc (bel_alloc (Below.refl w.heap.size w) (.cells (cvc x.k x.b (.slice pa x.am.length ca') (.slice pw x.wr.length cw) (.slice pm x.mb.length cm) (.slice pe x.el.length ce)) 27)) (.cells (vals v).toArray 31)) (.cells (cvc 0 0 (.slice none 0 0) (.slice none 0 0) (.slice none 0 0) (.slice none 0 0)) 27)
  have hsz : (((w.alloc (.cells (cvc x.k x.b (.slice pa x.am.length ca') (.slice pw x.wr.length cw) (.slice pm x.mb.length cm) (.slice pe x.el.length ce)) 27)).alloc (.cells (vals v).toArray 31)).alloc (.cells (cvc 0 0 (.slice none 0 0) (.slice none 0 0) (.slice none 0 0) (.slice none 0 0)) 27)).heap.size = w.heap.size + 3 := by simp
  generalize hW : ((w.alloc (.cells (cvc x.k x.b (.slice pa x.am.length ca') (.slice pw x.wr.length cw) (.slice pm x.mb.length cm) (.slice pe x.el.length ce)) 27)).alloc (.cells (vals v).toArray 31)).alloc (.cells (cvc 0 0 (.slice none 0 0) (.slice none 0 0) (.slice none 0 0) (.slice none 0 0)) 27) = w0 at R0 R1 R2 hbel hsz
  simp only [World.size_alloc, Nat.add_assoc, Nat.reduceAdd] at R1 R2
  go_enter Try.func19, Try.ntmps19
  go_wp2_with (first | rw [hW] | refine load_r 27 _ rfl rfl _ rfl R0 Try.underlying27 rfl size27 ?_)
  clear hW
  refine (check_any x _ _ _ _ w0 (HF.out.later hbel) hs').mono ?_
  rintro e w1 ⟨rfl, hb1⟩
  replace R0 := R0.later hb1
  replace R1 := R1.later hb1
  replace R2 := R2.later hb1
  replace hbel := below_on hbel hb1
  have hB : w.heap.size + 3 ≤ w1.heap.size := by have := hb1.size; omega
  clear hb1 hsz
  obtain ⟨y1, HY1⟩ := hid_ex (ck x)
  rw [HY1.out]
  cases y1
  · have HD : Hid (foX x v = x) := by
      show _ = _
      unfold foX
      rw [HY1.out]
      rfl
    rw [HD.out] at HZ
    go_wp2_with (first | refine load_r 27 _ rfl rfl _ rfl R0 Try.underlying27 rfl size27 ?_)
    refine (copied_any x _ _ _ _ w1 (HF.out.later hbel) hs').mono ?_
    rintro e w9 ⟨ua, uw, um, ue, rfl, ho, hb1⟩
    obtain ⟨qa, da, qw, dw, qm, dm, qe, de, rfl, rfl, rfl, rfl⟩ := ho.four.slices
    replace R2 := R2.later hb1
    replace hbel := below_on hbel hb1
    go_wp2_with (first | refine store_r rfl 27 _ _ rfl _ (cvc x.k x.b (.slice qa x.am.length da) (.slice qw x.wr.length dw) (.slice qm x.mb.length dm) (.slice qe x.el.length de)) rfl rfl R2 size27 rfl (by simp [Value.oneCell']) ?_)
    refine bodyPost_ret (results_r rfl rfl (R2.row _) rfl Try.underlying27 size27) rfl ?_
    have e := HZ.out
    subst e
    exact ⟨_, _, _, _, rfl, (ho.row (by omega) R2 _).four, below_setRow hbel (by omega) _⟩
  · have hck := ck_parts HY1.out
    have hnb := ca_nb hck.2.2.2.2.2
    have HB1 := hck.2.2.2.2.1
    have c2 : w1.cell? ⟨w.heap.size, 2, none⟩ = some (.slice pa x.am.length ca') := R0.cell 2
    have C1 : ∀ (a : A) (w' : World), Below w1.heap.size w1 w' → Calls Try.prog 40 #[AV a.p a.s a.i a.n, .pointer (some ⟨w.heap.size + 1, 0, none⟩)] w' (Tells (.bool (!hs v a.p a.s)) w') := fun a w' hb => fold1_any a.p a.s a.i a.n _ v w' hv (R1.later hb)
    clear hck
    go_wp2_with fail
    refine (those40_any _ x.am (fun a => !hs v a.p a.s) _ w1 (HF.out.a.later hbel) hs'.a C1).mono ?_
    rintro e w2 ⟨ua, rfl, ho, hb1⟩
    clear C1 c2
    replace ho : w2.ownsRow w1.heap.size 42 4 ua (rst x v).length (rows A.cells (rst x v)) := ho
    obtain ⟨qa, da, rfl⟩ := own_sl ho
    replace R0 := R0.later hb1
    replace R2 := R2.later hb1
    replace hbel := below_on hbel hb1
    have hB2 := Nat.le_trans hB hb1.size
    clear hb1
    go_wp2_with (first | refine load_r 27 _ rfl rfl _ rfl R0 Try.underlying27 rfl size27 ?_)
    refine (total_any x.k x.b _ x.am _ _ _ _ _ _ _ _ _ w2 (HF.out.a.later hbel) hs'.a hnb HB1).mono ?_
    rintro e w3 ⟨rfl, hb1⟩
    replace R0 := R0.later hb1
    replace R2 := R2.later hb1
    replace ho := own_later ho hb1
    replace hbel := below_on hbel hb1
    replace hB2 := Nat.le_trans hB2 hb1.size
    clear hb1
    go_wp2_with fail
    refine (cellOf_any 0 qa (rst x v).length da w3).mono ?_
    rintro e w4 ⟨rfl, hb1⟩
    replace R0 := R0.later hb1
    replace R2 := R2.later hb1
    replace ho := own_later ho hb1
    replace hbel := below_on hbel hb1
    replace hB2 := Nat.le_trans hB2 hb1.size
    clear hb1
    have hln : (rst x v).length ≤ 100 := Nat.le_trans (List.length_filter_le _ _) hs'.a
    go_wp2_with fail
    refine (total_any 1 0 _ (rst x v) _ _ _ _ _ _ _ _ _ w4 (own_sh ho) hln (nb_filter hnb _) rfl).mono ?_
    rintro e w5 ⟨rfl, hb1⟩
    replace R0 := R0.later hb1
    replace R2 := R2.later hb1
    replace ho := own_later ho hb1
    replace hbel := below_on hbel hb1
    replace hB2 := Nat.le_trans hB2 hb1.size
    clear hb1
    have s1 := sm_bound _ hnb
    have s2 := sm_bound _ (nb_filter hnb (fun a => !hs v a.p a.s))
    have hsa := hs'.a
    have hbx : -1152921504606846976 ≤ x.b ∧ x.b ≤ 1152921504606846976 := by simpa [wi] using HB1
    have hwr : wrap64 (x.b + sm x.am - sm (rst x v)) = bsX x v := by
      have e : sm (rst x v) = sm (x.am.filter (fun a => !hs v a.p a.s)) := rfl
      have e2 : ((x.am.filter (fun a => !hs v a.p a.s)).length : Int) ≤ 100 := by
        have : (rst x v).length = (x.am.filter (fun a => !hs v a.p a.s)).length := rfl
        omega
      unfold bsX
      rw [e]
      exact wrap64_id (by omega) (by omega)
    clear s1 s2
    go_wp2_with fail
    rw [hwr]
    refine (isBase_any (bsX x v) w5).mono ?_
    rintro e w6 ⟨rfl, hb1⟩
    replace R0 := R0.later hb1
    replace R2 := R2.later hb1
    replace ho := own_later ho hb1
    replace hbel := below_on hbel hb1
    replace hB2 := Nat.le_trans hB2 hb1.size
    clear hb1 hwr
    obtain ⟨y2, HY2⟩ := hid_ex (wi (bsX x v) (-1152921504606846976) 1152921504606846976)
    rw [HY2.out]
    cases y2
    · have HD : Hid (foX x v = x) := by
        show _ = _
        unfold foX
        rw [HY1.out, HY2.out]
        rfl
      rw [HD.out] at HZ
      go_wp2_with (first | refine load_r 27 _ rfl rfl _ rfl R0 Try.underlying27 rfl size27 ?_)
      refine (copied_any x _ _ _ _ w6 (HF.out.later hbel) hs').mono ?_
      rintro e w9 ⟨ua, uw, um, ue, rfl, ho, hb1⟩
      obtain ⟨qa, da, qw, dw, qm, dm, qe, de, rfl, rfl, rfl, rfl⟩ := ho.four.slices
      replace R2 := R2.later hb1
      replace hbel := below_on hbel hb1
      go_wp2_with (first | refine store_r rfl 27 _ _ rfl _ (cvc x.k x.b (.slice qa x.am.length da) (.slice qw x.wr.length dw) (.slice qm x.mb.length dm) (.slice qe x.el.length de)) rfl rfl R2 size27 rfl (by simp [Value.oneCell']) ?_)
      refine bodyPost_ret (results_r rfl rfl (R2.row _) rfl Try.underlying27 size27) rfl ?_
      have e := HZ.out
      subst e
      exact ⟨_, _, _, _, rfl, (ho.row (by omega) R2 _).four, below_setRow hbel (by omega) _⟩
    · have HD : Hid (foX x v = ⟨1, bsX x v, rst x v, [], [], []⟩) := by
        show _ = _
        unfold foX
        rw [HY1.out, HY2.out]
        rfl
      go_wp2_with fail
      refine (cellOf_any (bsX x v) qa (rst x v).length da w6).mono ?_
      rintro e w7 ⟨rfl, hb1⟩
      replace R2 := R2.later hb1
      replace ho := own_later ho hb1
      replace hbel := below_on hbel hb1
      go_wp2_with (first | refine store_r rfl 27 _ _ rfl _ (cvc 1 (bsX x v) (.slice qa (rst x v).length da) (.slice none 0 0) (.slice none 0 0) (.slice none 0 0)) rfl rfl R2 size27 rfl (by simp [Value.oneCell']) ?_)
      refine bodyPost_ret (results_r rfl rfl (R2.row _) rfl Try.underlying27 size27) rfl ?_
      rw [HD.out] at HZ
      have e := HZ.out
      subst e
      exact ⟨_, _, _, _, rfl, four_of (own_sh (own_row ho (b := w.heap.size + 2) (by omega) _)), below_setRow hbel (by omega) _⟩
end Go.Proofs.Ytfjpjodaaofgbaa
