/- Check of package register. -/
import Derived.Test.YtknpnjhedfdggaaChk
import Derived.Test.YtknpnjhedfdggaaBef
namespace Go.Proofs.Ytknpnjhedfdggaa
open Go.RowKit

theorem own_later {w w' : World} {B e S n : Nat} {v : Value} {xs : List Value} (h : w.ownsRow B e S v n xs) (hb : Below w.heap.size w w') : w'.ownsRow B e S v n xs := by
  obtain ⟨h1, ⟨rfl, h0⟩ | ⟨g, cap, cur, rfl, hbg, hg, h2⟩⟩ := h
  · exact ⟨h1, .inl ⟨rfl, h0⟩⟩
  · exact ⟨h1, .inr ⟨g, cap, cur, rfl, hbg, (hb.block g (Array.getElem?_eq_some_iff.1 hg).1).trans hg, h2⟩⟩
/-- Not great. -/
structure Sm (x : X) : Prop where
  a : x.am.length ≤ 100
  t : x.wr.length ≤ 100
  m : x.mb.length ≤ 100
  e : x.el.length ≤ 100
  mi : ∀ m ∈ x.mb, m.ms.length ≤ 100
  ei : ∀ m ∈ x.el, m.gone.length ≤ 100
/-- May it be? -/
def ck (x : X) : Bool := (decide (x.k = 2) || decide (x.k = 3)) && (decide (x.b = 0) && (decide (x.am.length + x.mb.length + x.el.length = 0) && ca x.wr))
theorem Four.slices {w : World} {x : X} {va vw vm ve : Value} (h : Four w x va vw vm ve) : ∃ pa ca pw cw pm cm pe ce, va = .slice pa x.am.length ca ∧ vw = .slice pw x.wr.length cw ∧ vm = .slice pm x.mb.length cm ∧ ve = .slice pe x.el.length ce := by
  obtain ⟨pa, ca, h1⟩ := h.a.slice
  obtain ⟨pw, cw, h2⟩ := h.t.slice
  obtain ⟨pm, cm, h3⟩ := h.m.slice
  obtain ⟨pe, ce, h4⟩ := h.e.slice
  exact ⟨pa, ca, pw, cw, pm, cm, pe, ce, h1, h2, h3, h4⟩
theorem ck_parts {x : X} (h : ck x = true) : (x.k = 2 ∨ x.k = 3) ∧ x.b = 0 ∧ x.am.length = 0 ∧ x.mb.length = 0 ∧ x.el.length = 0 ∧ ca x.wr = true := by
  simp only [ck, Bool.and_eq_true, Bool.or_eq_true, decide_eq_true_eq] at h
  obtain ⟨h1, h2, h3, h4⟩ := h
  exact ⟨h1, h2, by omega, by omega, by omega, h4⟩

set_option maxHeartbeats 1000000 in
set_option maxRecDepth 100000 in
theorem check_any (x : X) (va vw vm ve : Value) (w : World) (h : Four w x va vw vm ve) (hs : Sm x) : Calls Try.prog 14 #[CV x.k x.b va vw vm ve] w (Tells (.bool (ck x)) w) := by
  obtain ⟨z, HZ⟩ := hid_ex (ck x)
  rw [HZ.out]
  obtain ⟨pa, ca', pw, cw, pm, cm, pe, ce, rfl, rfl, rfl, rfl⟩ := h.slices
  have HA : Hid (WHas w (.slice pw x.wr.length cw) x.wr) := h.t
  clear h
  obtain ⟨ha, ht, hm, he, _, _⟩ := hs
  have w1 : IntKind.i64.wrap ((x.am.length : Int) + (x.mb.length : Int)) = (x.am.length : Int) + (x.mb.length : Int) := by rw [IntKind.wrap_i64]; omega
  have w2 : IntKind.i64.wrap ((x.am.length : Int) + (x.mb.length : Int) + (x.el.length : Int)) = (x.am.length : Int) + (x.mb.length : Int) + (x.el.length : Int) := by rw [IntKind.wrap_i64]; omega
  have C1 := fun w => isKind_any x.k w
  obtain ⟨y1, HY1⟩ := hid_ex (decide (x.k = 2) || decide (x.k = 3))
  rw [HY1.out] at C1
  have hz : Hid (z = (y1 && (decide (x.b = 0) && (decide (x.am.length + x.mb.length + x.el.length = 0) && ca x.wr)))) := by
    show _ = _
    rw [← HZ.out]
    unfold ck
    rw [HY1.out]
  clear HY1 HZ
  cases y1
  · obtain rfl : z = false := by have := hz.out; simpa using this
    clear hz
    go_enter Try.func14, Try.ntmps14
    go_wp2_with fail
    refine (C1 _).mono ?_
    rintro e w1 ⟨rfl, hb1⟩
    replace hb1 := below_on (bel_alloc (Below.refl _ _) _) hb1
    go_wp2_with fail
    go_ret
    exact ⟨rfl, hb1⟩
  · go_enter Try.func14, Try.ntmps14
    go_wp2_with fail
    refine (C1 _).mono ?_
    rintro e w1 ⟨rfl, hb1⟩
    have R := Rw.later (rw_new w 27 _) hb1
    have c1 : w1.cell? ⟨w.heap.size, 1, none⟩ = some (.int .i64 x.b) := R.cell 1
    have c3 : w1.cell? ⟨w.heap.size, 3, none⟩ = some (.slice pw x.wr.length cw) := R.cell 3
    replace hb1 := below_on (bel_alloc (Below.refl _ _) _) hb1
    clear R C1
    by_cases hb : x.b = 0
    · by_cases h0 : x.am.length + x.mb.length + x.el.length = 0
      · have h0' : (x.am.length : Int) + (x.mb.length : Int) + (x.el.length : Int) = 0 := by omega
        obtain rfl : z = ca x.wr := by have := hz.out; simpa [hb, h0] using this
        clear hz
        go_wp2_with fail
        refine (checkWrites_any _ _ _ (HA.out.later hb1)).mono ?_
        rintro e w2 ⟨rfl, hb2⟩
        go_wp2_with fail
        go_ret
        exact ⟨rfl, below_on hb1 hb2⟩
      · have h0' : ¬ (x.am.length : Int) + (x.mb.length : Int) + (x.el.length : Int) = 0 := by omega
        obtain rfl : z = false := by have := hz.out; rw [decide_eq_false h0] at this; simpa using this
        clear hz h0
        go_wp2_with fail
        go_ret
        exact ⟨rfl, hb1⟩
    · obtain rfl : z = false := by have := hz.out; rw [decide_eq_false hb] at this; simpa using this
      clear hz
      go_wp2_with fail
      go_ret
      exact ⟨rfl, hb1⟩
end Go.Proofs.Ytknpnjhedfdggaa
