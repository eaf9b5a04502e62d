/- Check, total and Read of package counter. -/
import Derived.Test.YtfjpjodaaofgbaaChk
import Derived.Test.YtfjpjodaaofgbaaBef
namespace Go.Proofs.Ytfjpjodaaofgbaa
open Go.RowKit

/-- Not great. -/
structure Sm (x : X) : Prop where
  a : x.am.length ≤ 100
  t : x.wr.length ≤ 100
  m : x.mb.length ≤ 100
  e : x.el.length ≤ 100
  mi : ∀ m ∈ x.mb, m.ms.length ≤ 100
  ei : ∀ m ∈ x.el, m.gone.length ≤ 100
/-- May it be? -/
def ck (x : X) : Bool := decide (x.k = 1) && (decide (x.wr.length + x.mb.length + x.el.length = 0) && (wi x.b (-1152921504606846976) 1152921504606846976 && ca x.am))
theorem Four.slices {w : World} {x : X} {va vw vm ve : Value} (h : Four w x va vw vm ve) : ∃ pa ca pw cw pm cm pe ce, va = .slice pa x.am.length ca ∧ vw = .slice pw x.wr.length cw ∧ vm = .slice pm x.mb.length cm ∧ ve = .slice pe x.el.length ce := by
  obtain ⟨pa, ca, h1⟩ := h.a.slice
  obtain ⟨pw, cw, h2⟩ := h.t.slice
  obtain ⟨pm, cm, h3⟩ := h.m.slice
  obtain ⟨pe, ce, h4⟩ := h.e.slice
  exact ⟨pa, ca, pw, cw, pm, cm, pe, ce, h1, h2, h3, h4⟩

set_option maxHeartbeats 1000000 in
set_option maxRecDepth 100000 in
theorem check_any (x : X) (va vw vm ve : Value) (w : World) (h : Four w x va vw vm ve) (hs : Sm x) : Calls Try.prog 14 #[CV x.k x.b va vw vm ve] w (Tells (.bool (ck x)) w) := by
  obtain ⟨z, HZ⟩ := hid_ex (ck x)
  rw [HZ.out]
  obtain ⟨pa, ca', pw, cw, pm, cm, pe, ce, rfl, rfl, rfl, rfl⟩ := h.slices
  have HA : Hid (AHas w (.slice pa x.am.length ca') x.am) := h.a
  clear h
  obtain ⟨ha, ht, hm, he, _, _⟩ := hs
  by_cases hk : x.k = 1
  · by_cases h0 : x.wr.length + x.mb.length + x.el.length = 0
    · have e1 : x.wr.length = 0 := by omega
      have e2 : x.mb.length = 0 := by omega
      have e3 : x.el.length = 0 := by omega
      have C1 := fun w => isBase_any x.b w
      obtain ⟨y1, HY1⟩ := hid_ex (wi x.b (-1152921504606846976) 1152921504606846976)
      rw [HY1.out] at C1
      have hz : Hid (z = (y1 && ca x.am)) := by
        show _ = _
        rw [← HZ.out]
        unfold ck
        rw [HY1.out]
        simp [hk, h0]
      rw [e1, e2, e3]
      clear HY1 HZ e1 e2 e3 h0 ht hm he
      cases y1
      · obtain rfl : z = false := by have := hz.out; simpa using this
        clear hz
        go_enter Try.func14, Try.ntmps14
        go_wp2_with fail
        refine (C1 _).mono ?_
        rintro e w1 ⟨rfl, hb1⟩
        replace hb1 := below_on (bel_alloc (Below.refl _ _) _) hb1
        go_wp2_with fail
        go_ret
        exact ⟨rfl, hb1⟩
      · obtain rfl : z = ca x.am := by have := hz.out; simpa using this
        clear hz
        go_enter Try.func14, Try.ntmps14
        go_wp2_with fail
        refine (C1 _).mono ?_
        rintro e w1 ⟨rfl, hb1⟩
        have R := Rw.later (rw_new w 27 _) hb1
        have c2 : w1.cell? ⟨w.heap.size, 2, none⟩ = some (.slice pa x.am.length ca') := R.cell 2
        replace hb1 := below_on (bel_alloc (Below.refl _ _) _) hb1
        go_wp2_with fail
        refine (checkAmounts_any _ _ _ (HA.out.later hb1)).mono ?_
        rintro e w2 ⟨rfl, hb2⟩
        go_wp2_with fail
        go_ret
        exact ⟨rfl, below_on hb1 hb2⟩
    · have h0' : ¬ (x.wr.length : Int) + (x.mb.length : Int) + (x.el.length : Int) = 0 := by omega
      have w1 : IntKind.i64.wrap ((x.wr.length : Int) + (x.mb.length : Int)) = (x.wr.length : Int) + (x.mb.length : Int) := by rw [IntKind.wrap_i64]; omega
      have w2 : IntKind.i64.wrap ((x.wr.length : Int) + (x.mb.length : Int) + (x.el.length : Int)) = (x.wr.length : Int) + (x.mb.length : Int) + (x.el.length : Int) := by rw [IntKind.wrap_i64]; omega
      obtain rfl : z = false := by
        rw [← HZ.out]
        unfold ck
        rw [decide_eq_false h0]
        simp
      clear HZ
      go_enter Try.func14, Try.ntmps14
      go_wp2_with fail
      go_ret
      exact ⟨rfl, bel_alloc (Below.refl _ _) _⟩
  · obtain rfl : z = false := by
      rw [← HZ.out]
      unfold ck
      simp [hk]
    clear HZ
    go_enter Try.func14, Try.ntmps14
    go_wp2_with fail
    go_ret
    exact ⟨rfl, bel_alloc (Below.refl _ _) _⟩
/-- What amounts come to. -/
def sm (l : List A) : Int := (l.map A.n).sum
theorem sm_nil : sm [] = 0 := rfl
theorem sm_cons (a : A) (l : List A) : sm (a :: l) = a.n + sm l := by simp [sm]
theorem sm_append (a b : List A) : sm (a ++ b) = sm a + sm b := by simp [sm]
/-- None is great. -/
def nb (l : List A) : Prop := ∀ a ∈ l, -1073741824 ≤ a.n ∧ a.n ≤ 1073741824
theorem sm_bound : ∀ (l : List A), nb l → -(1073741824 * (l.length : Int)) ≤ sm l ∧ sm l ≤ 1073741824 * (l.length : Int)
  | [], _ => by simp [sm]
  | a :: l, h => by
    have h1 := h a (by simp)
    have h2 := sm_bound l (fun x hx => h x (by simp [hx]))
    rw [sm_cons, List.length_cons]
    omega
theorem ca_nb {l : List A} (h : ca l = true) : nb l := fun a ha => by
  obtain ⟨k, hk, rfl⟩ := List.getElem_of_mem ha
  have := (ca_iff l).1 h k hk
  simp only [okk, ia, wi, Bool.and_eq_true, decide_eq_true_eq] at this
  exact this.1.2
theorem nb_take {l : List A} (h : nb l) (k : Nat) : nb (l.take k) := fun a ha => h a (List.mem_of_mem_take ha)

set_option maxHeartbeats 1000000 in
set_option maxRecDepth 100000 in
theorem total_any (k b : Int) (va : Value) (l : List A) (pw : Option Addr) (lw cw : Nat) (pm : Option Addr) (lm cm : Nat) (pe : Option Addr) (le ce : Nat) (w : World) (h : AHas w va l) (hl : l.length ≤ 100) (hn : nb l) (hb : wi b (-1152921504606846976) 1152921504606846976 = true) :
    Calls Try.prog 31 #[CV k b va (.slice pw lw cw) (.slice pm lm cm) (.slice pe le ce)] w (Tells (.int .i64 (b + sm l)) w) := by
  obtain ⟨pa, ca', rfl⟩ := h.slice
  have HA : Hid (AHas w (.slice pa l.length ca') l) := h
  have HN : Hid (nb l) := hn
  clear h hn
  obtain ⟨hb1, hb2⟩ : -1152921504606846976 ≤ b ∧ b ≤ 1152921504606846976 := by simpa [wi] using hb
  clear hb
  obtain ⟨z, HZ⟩ := hid_ex (b + sm l)
  rw [HZ.out]
  have hbel0 := bel_alloc (Below.refl w.heap.size w) (.cells (cvc k b (.slice pa l.length ca') (.slice pw lw cw) (.slice pm lm cm) (.slice pe le ce)) 27)
  go_enter Try.func31, Try.ntmps31
  go_wp2
  go_loopw [3, 11] (fun vn vi wr => ∃ k : Nat, vi = .int .i64 k ∧ k ≤ l.length ∧ vn = .int .i64 (b + sm (l.take k)) ∧ Below w.heap.size w wr) (fun _ vi _ => l.length - (intOf vi).toNat)
  case atStart => exact ⟨0, rfl, by omega, by simp [sm], hbel0⟩
  case round =>
    obtain ⟨k, rfl, hk, rfl, hbel⟩ := hrel
    by_cases hlt : k < l.length
    · have hlt' : (k : Int) < (l.length : Int) := by omega
      obtain ⟨g, o, rfl, hd0⟩ := HA.out.at (by omega)
      have hd := range_later hd0 hbel
      clear hd0 HA
      have d := AHas.elem hd k hlt
      obtain ⟨x, HX⟩ := hid_ex l[k]
      rw [HX.out] at d
      have z42 : (Try.prog.info? 42).map (·.size) = some x.cells.length := size42
      have hx := HN.out l[k] (List.getElem_mem _)
      rw [HX.out] at hx
      have hsb := sm_bound _ (nb_take HN.out k)
      have hlk : ((l.take k).length : Int) = k := by rw [List.length_take]; omega
      have hst : Hid (sm (l.take (k + 1)) = sm (l.take k) + x.n) := by
        show _ = _
        rw [List.take_succ_eq_append_getElem hlt, sm_append, HX.out]
        simp [sm]
      obtain ⟨y, HY⟩ := hid_ex (sm (l.take k))
      rw [HY.out] at hsb ⊢
      rw [hlk] at hsb
      clear hlk
      go_wp2_with (refine load_m 42 _ rfl rfl _ _ rfl d Try.underlying42 rfl z42 ?_)
      go_roundw
      case rel =>
        refine ⟨k + 1, by simp, by omega, ?_, bel_alloc hbel _⟩
        rw [hst.out, HY.out]
        simp
        omega
      case measure => simp [intOf]; omega
    · have hlt' : ¬ (k : Int) < (l.length : Int) := by omega
      obtain rfl : k = l.length := by omega
      rw [List.take_length, HZ.out]
      clear HA HN HZ
      go_wp2_with fail
      go_ret
      exact ⟨rfl, hbel⟩
/-- A value by its parts. -/
abbrev VV (k n : Int) : Value := .agg #[.int .i64 k, .int .i64 n, .slice none 0 0, .slice none 0 0]
/-- What is read. -/
def rdK (x : X) : Int := if ck x = true then 1 else 0
def rdN (x : X) : Int := if ck x = true then x.b + sm x.am else 0
theorem ck_parts {x : X} (h : ck x = true) : x.k = 1 ∧ x.wr.length = 0 ∧ x.mb.length = 0 ∧ x.el.length = 0 ∧ wi x.b (-1152921504606846976) 1152921504606846976 = true ∧ ca x.am = true := by
  simp only [ck, Bool.and_eq_true, decide_eq_true_eq] at h
  obtain ⟨h1, h2, h3, h4⟩ := h
  exact ⟨h1, by omega, by omega, by omega, h3, h4⟩
set_option maxHeartbeats 1000000 in
set_option maxRecDepth 100000 in
theorem read_any (x : X) (va vw vm ve : Value) (w : World) (h : Four w x va vw vm ve) (hs : Sm x) : Calls Try.prog 13 #[CV x.k x.b va vw vm ve] w (Tells (VV (rdK x) (rdN x)) w) := by
  have C1 := fun w' (hb : Below w.heap.size w w') => check_any x va vw vm ve w' (h.later hb) hs
  obtain ⟨z, HZ⟩ := hid_ex (ck x)
  have C2 : z = true → ∀ w', Below w.heap.size w w' → Calls Try.prog 31 #[CV x.k x.b va vw vm ve] w' (Tells (.int .i64 (x.b + sm x.am)) w') := by
    intro hz w' hb
    obtain ⟨pa, ca', pw, cw, pm, cm, pe, ce, rfl, rfl, rfl, rfl⟩ := h.slices
    have hp := ck_parts (HZ.out.trans hz)
    exact total_any _ _ _ _ _ _ _ _ _ _ _ _ _ _ (h.a.later hb) hs.a (ca_nb hp.2.2.2.2.2) hp.2.2.2.2.1
  unfold rdK rdN
  rw [HZ.out] at C1 ⊢
  obtain ⟨pa, ca', pw, cw, pm, cm, pe, ce, rfl, rfl, rfl, rfl⟩ := h.slices
  clear h hs HZ
  obtain ⟨t, HT⟩ := hid_ex (x.b + sm x.am)
  rw [HT.out] at C2 ⊢
  clear HT
  have hbel0 := bel_alloc (bel_alloc (Below.refl w.heap.size w) (.cells (cvc x.k x.b (.slice pa x.am.length ca') (.slice pw x.wr.length cw) (.slice pm x.mb.length cm) (.slice pe x.el.length ce)) 27)) (.cells #[.int .i64 0, .int .i64 0, .slice none 0 0, .slice none 0 0] 47)
  obtain ⟨R0, R1, _⟩ := two_rows w (cvc x.k x.b (.slice pa x.am.length ca') (.slice pw x.wr.length cw) (.slice pm x.mb.length cm) (.slice pe x.el.length ce)) 27 #[.int .i64 0, .int .i64 0, .slice none 0 0, .slice none 0 0] 47
  generalize hW : (w.alloc (.cells (cvc x.k x.b (.slice pa x.am.length ca') (.slice pw x.wr.length cw) (.slice pm x.mb.length cm) (.slice pe x.el.length ce)) 27)).alloc (.cells #[.int .i64 0, .int .i64 0, .slice none 0 0, .slice none 0 0] 47) = w0 at hbel0 R0 R1
  cases z
  · rw [if_neg (by simp), if_neg (by simp)]
    clear C2
    go_enter Try.func13, Try.ntmps13
    go_wp2_with (first | rw [hW] | refine load_r 27 _ rfl rfl _ rfl R0 Try.underlying27 rfl size27 ?_)
    refine (C1 _ hbel0).mono ?_
    rintro e w1 ⟨rfl, hb1⟩
    replace R1 := R1.later hb1
    replace hbel0 := below_on hbel0 hb1
    go_wp2_with (first | refine store_r rfl 47 _ _ rfl _ #[.int .i64 0, .int .i64 0, .slice none 0 0, .slice none 0 0] rfl rfl R1 size47 rfl (by simp [Value.oneCell']) ?_)
    exact bodyPost_ret (v := VV 0 0) (results_r rfl rfl (R1.row #[.int .i64 0, .int .i64 0, .slice none 0 0, .slice none 0 0]) rfl Try.underlying47 size47) rfl ⟨rfl, below_setRow hbel0 (by omega) _⟩
  · rw [if_pos rfl, if_pos rfl]
    have C3 := C2 rfl
    clear C2
    go_enter Try.func13, Try.ntmps13
    go_wp2_with (first | rw [hW] | refine load_r 27 _ rfl rfl _ rfl R0 Try.underlying27 rfl size27 ?_)
    refine (C1 _ hbel0).mono ?_
    rintro e w1 ⟨rfl, hb1⟩
    replace R0 := R0.later hb1
    replace R1 := R1.later hb1
    replace hbel0 := below_on hbel0 hb1
    go_wp2_with (first | refine load_r 27 _ rfl rfl _ rfl R0 Try.underlying27 rfl size27 ?_)
    refine (C3 _ hbel0).mono ?_
    rintro e w2 ⟨rfl, hb1⟩
    replace R1 := R1.later hb1
    replace hbel0 := below_on hbel0 hb1
    go_wp2_with (first | refine store_r rfl 47 _ _ rfl _ #[.int .i64 1, .int .i64 t, .slice none 0 0, .slice none 0 0] rfl rfl R1 size47 rfl (by simp [Value.oneCell']) ?_)
    exact bodyPost_ret (v := VV 1 t) (results_r rfl rfl (R1.row #[.int .i64 1, .int .i64 t, .slice none 0 0, .slice none 0 0]) rfl Try.underlying47 size47) rfl ⟨rfl, below_setRow hbel0 (by omega) _⟩
end Go.Proofs.Ytfjpjodaaofgbaa
