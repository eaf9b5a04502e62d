/- Few of the document's answer. -/
import Derived.Test.YtknpnjhedfdggaaOver
namespace Go.Proofs.Ytknpnjhedfdggaa
open Go.RowKit

/-- Not great. -/
structure Fw (x : X) : Prop where
  n : x.am.length + x.wr.length + x.mb.length + x.el.length ≤ 60
  m : ∀ y ∈ x.mb, y.ms.length ≤ 30
  e : ∀ y ∈ x.el, y.gone.length ≤ 30
theorem Fw.sm {x : X} (h : Fw x) : Sm x := by
  obtain ⟨h1, h2, h3⟩ := h
  exact ⟨by omega, by omega, by omega, by omega, fun y hy => by have := h2 y hy; omega, fun y hy => by have := h3 y hy; omega⟩
/-- What fits into a machine. -/
structure Lk (x : X) : Prop where
  a : x.am.length ≤ 17592186044416
  t : x.wr.length ≤ 17592186044416
  m : x.mb.length ≤ 17592186044416
  e : x.el.length ≤ 17592186044416
def FwPost (x : X) (w : World) (e : Ending) (w' : World) : Prop := ∃ b, e = .returned (.bool b) ∧ (b = true → Fw x) ∧ Below w.heap.size w w'
theorem Mb.elem {w : World} {l : List (Mb × Value)} {g o : Nat} (h : w.rangeAt g o (rows Mb.cells l)) (k : Nat) (hk : k < l.length) : w.rangeAt g (o + k * 3) (Mb.cells l[k]) :=
  range_sub h (k * 3) fun j u hu => rows_at Mb.len l k hk j u hu
theorem El.elem {w : World} {l : List (El × Value)} {g o : Nat} (h : w.rangeAt g o (rows El.cells l)) (k : Nat) (hk : k < l.length) : w.rangeAt g (o + k * 9) (El.cells l[k]) :=
  range_sub h (k * 9) fun j u hu => rows_at El.len l k hk j u hu
set_option maxHeartbeats 4000000 in
set_option maxRecDepth 100000 in
theorem few_any (x : X) (va vw vm ve : Value) (w : World) (h : Four w x va vw vm ve) (hl : Lk x) : Calls Try.prog 7 #[CV x.k x.b va vw vm ve] w (FwPost x w) := by
  obtain ⟨pa, ca', pw, cw, pm, cm, pe, ce, rfl, rfl, rfl, rfl⟩ := h.slices
  have HT : Hid (WHas w (.slice pw x.wr.length cw) x.wr) := h.t
  have HM : Hid (BHas w (.slice pm x.mb.length cm) x.mb) := h.m
  have HE : Hid (EHas w (.slice pe x.el.length ce) x.el) := h.e
  clear h
  obtain ⟨l1, l2, l3, l4⟩ := hl
  have R0 := rw_new w 27 (cvc x.k x.b (.slice pa x.am.length ca') (.slice pw x.wr.length cw) (.slice pm x.mb.length cm) (.slice pe x.el.length ce))
  have hbel := bel_alloc (Below.refl w.heap.size w) (.cells (cvc x.k x.b (.slice pa x.am.length ca') (.slice pw x.wr.length cw) (.slice pm x.mb.length cm) (.slice pe x.el.length ce)) 27)
  generalize hW : w.alloc (.cells (cvc x.k x.b (.slice pa x.am.length ca') (.slice pw x.wr.length cw) (.slice pm x.mb.length cm) (.slice pe x.el.length ce)) 27) = w0 at R0 hbel
  have c2 : w0.cell? ⟨w.heap.size, 2, none⟩ = some (.slice pa x.am.length ca') := R0.cell 2
  have c3 : w0.cell? ⟨w.heap.size, 3, none⟩ = some (.slice pw x.wr.length cw) := R0.cell 3
  have c4 : w0.cell? ⟨w.heap.size, 4, none⟩ = some (.slice pm x.mb.length cm) := R0.cell 4
  have c5 : w0.cell? ⟨w.heap.size, 5, none⟩ = some (.slice pe x.el.length ce) := R0.cell 5
  have w1 : IntKind.i64.wrap ((x.am.length : Int) + (x.wr.length : Int)) = (x.am.length : Int) + (x.wr.length : Int) := by rw [IntKind.wrap_i64]; omega
  have w2 : IntKind.i64.wrap ((x.am.length : Int) + (x.wr.length : Int) + (x.mb.length : Int)) = (x.am.length : Int) + (x.wr.length : Int) + (x.mb.length : Int) := by rw [IntKind.wrap_i64]; omega
  have w3 : IntKind.i64.wrap ((x.am.length : Int) + (x.wr.length : Int) + (x.mb.length : Int) + (x.el.length : Int)) = (x.am.length : Int) + (x.wr.length : Int) + (x.mb.length : Int) + (x.el.length : Int) := by rw [IntKind.wrap_i64]; omega
  by_cases h60 : x.am.length + x.wr.length + x.mb.length + x.el.length ≤ 60
  · have h60' : ¬ 60 < (x.am.length : Int) + (x.wr.length : Int) + (x.mb.length : Int) + (x.el.length : Int) := by omega
    have HN : Hid (x.am.length + x.wr.length + x.mb.length + x.el.length ≤ 60) := h60
    go_enter Try.func7, Try.ntmps7
    go_wp2_with (first | rw [hW])
    clear hW c2 c3 c4 c5 w1 w2 w3
    have hwl : x.wr.length ≤ 60 := by omega
    have hml : x.mb.length ≤ 60 := by omega
    have hel : x.el.length ≤ 60 := by omega
    clear h60 h60' l1 l2 l3 l4
    go_loopw [3] (fun vi wr => ∃ k : Nat, vi = .int .i64 k ∧ k ≤ x.wr.length ∧ Rw wr w.heap.size 27 (cvc x.k x.b (.slice pa x.am.length ca') (.slice pw x.wr.length cw) (.slice pm x.mb.length cm) (.slice pe x.el.length ce)) ∧ Below w.heap.size w wr) (fun vi _ => x.wr.length - (intOf vi).toNat)
    case atStart => exact ⟨0, rfl, by omega, R0, hbel⟩
    case round =>
      clear R0 hbel
      obtain ⟨k, rfl, hk, R0, hbel⟩ := hrel
      have c3 : wr.cell? ⟨w.heap.size, 3, none⟩ = some (.slice pw x.wr.length cw) := R0.cell 3
      by_cases hlt : k < x.wr.length
      · have hlt' : (k : Int) < (x.wr.length : Int) := by omega
        obtain ⟨g, o, rfl, hd0⟩ := HT.out.at (by omega)
        have d := Wt.elem (range_later hd0 hbel) k hlt 4 _ rfl
        clear hd0
        by_cases hx : 100 < (x.wr[k].x.size : Int)
        · go_wp2_with fail
          go_ret
          exact ⟨false, rfl, (fun h => by cases h), hbel⟩
        · go_wp2_with fail
          go_roundw
          case rel => exact ⟨k + 1, by simp, by omega, R0, hbel⟩
          case measure => simp [intOf]; omega
      · obtain rfl : k = x.wr.length := by omega
        have hlt' : ¬ (x.wr.length : Int) < (x.wr.length : Int) := by omega
        clear HT
        go_wp2_with fail
        clear c3
        go_loopw [4] (fun vi wr => ∃ k : Nat, vi = .int .i64 k ∧ k ≤ x.mb.length ∧ Hid (∀ i (h : i < x.mb.length), i < k → x.mb[i].ms.length ≤ 30) ∧ Rw wr w.heap.size 27 (cvc x.k x.b (.slice pa x.am.length ca') (.slice pw x.wr.length cw) (.slice pm x.mb.length cm) (.slice pe x.el.length ce)) ∧ Below w.heap.size w wr) (fun vi _ => x.mb.length - (intOf vi).toNat)
        case atStart => exact ⟨0, rfl, by omega, (show ∀ i (_ : i < x.mb.length), i < 0 → _ from fun i _ h => by omega), R0, hbel⟩
        case round =>
          clear R0 hbel hlt hlt'
          obtain ⟨k, rfl, hk, HV, R0, hbel⟩ := hrel
          have c4 : wr.cell? ⟨w.heap.size, 4, none⟩ = some (.slice pm x.mb.length cm) := R0.cell 4
          by_cases hlt : k < x.mb.length
          · have hlt' : (k : Int) < (x.mb.length : Int) := by omega
            obtain ⟨ys, hys, hy1, hy2⟩ := HM.out
            have hyl : ys.length = x.mb.length := by rw [← hys, List.length_map]
            obtain ⟨g, o, rfl, hd0⟩ := hy1.at (by omega)
            have d := Mb.elem (range_later hd0 hbel) k (by omega)
            have d0 := d 0 _ rfl
            have d2 := d 2 _ rfl
            have hyk := (hy2 ys[k] (List.getElem_mem _)).later hbel
            have hxk : Hid (x.mb[k] = ys[k].1) := by
              show _ = _
              simp only [← hys, List.getElem_map]
            obtain ⟨y, HY⟩ := hid_ex ys[k]
            rw [HY.out] at d0 d2 hyk hxk
            obtain ⟨ym, yv⟩ := y
            replace hyk : MHas wr yv ym.ms := hyk
            have hmm := maxLen_lt hyk.1
            obtain ⟨py, cy, rfl⟩ := hyk.slice
            simp only [Nat.add_zero] at d0 d2
            clear hd0 d hyk hy1 hy2
            by_cases hx : 100 < (ym.x.size : Int)
            · go_wp2_with fail
              go_ret
              exact ⟨false, rfl, (fun h => by cases h), hbel⟩
            · by_cases hx2 : 30 < (ym.ms.length : Int)
              · go_wp2_with fail
                go_ret
                exact ⟨false, rfl, (fun h => by cases h), hbel⟩
              · have HV2 : Hid (∀ i (h : i < x.mb.length), i < k + 1 → x.mb[i].ms.length ≤ 30) := fun i h hi => by
                  rcases Nat.lt_or_ge i k with h' | h'
                  · exact HV.out i h h'
                  · obtain rfl : i = k := by omega
                    rw [hxk.out]
                    show ym.ms.length ≤ 30
                    omega
                go_wp2_with fail
                go_roundw
                case rel => exact ⟨k + 1, by simp, by omega, HV2, R0, hbel⟩
                case measure => simp [intOf]; omega
          · obtain rfl : k = x.mb.length := by omega
            have hlt' : ¬ (x.mb.length : Int) < (x.mb.length : Int) := by omega
            have HMB : Hid (∀ y ∈ x.mb, y.ms.length ≤ 30) := fun y hy => by
              obtain ⟨i, hi, rfl⟩ := List.getElem_of_mem hy
              exact HV.out i hi hi
            clear HM HV
            go_wp2_with fail
            clear c4
            go_loopw [5] (fun vi wr => ∃ k : Nat, vi = .int .i64 k ∧ k ≤ x.el.length ∧ Hid (∀ i (h : i < x.el.length), i < k → x.el[i].gone.length ≤ 30) ∧ Rw wr w.heap.size 27 (cvc x.k x.b (.slice pa x.am.length ca') (.slice pw x.wr.length cw) (.slice pm x.mb.length cm) (.slice pe x.el.length ce)) ∧ Below w.heap.size w wr) (fun vi _ => x.el.length - (intOf vi).toNat)
            case atStart => exact ⟨0, rfl, by omega, (show ∀ i (_ : i < x.el.length), i < 0 → _ from fun i _ h => by omega), R0, hbel⟩
            case round =>
              clear R0 hbel hlt hlt'
              obtain ⟨k, rfl, hk, HV, R0, hbel⟩ := hrel
              have c5 : wr.cell? ⟨w.heap.size, 5, none⟩ = some (.slice pe x.el.length ce) := R0.cell 5
              by_cases hlt : k < x.el.length
              · have hlt' : (k : Int) < (x.el.length : Int) := by omega
                obtain ⟨ys, hys, hy1, hy2⟩ := HE.out
                have hyl : ys.length = x.el.length := by rw [← hys, List.length_map]
                obtain ⟨g, o, rfl, hd0⟩ := hy1.at (by omega)
                have d := El.elem (range_later hd0 hbel) k (by omega)
                have d0 := d 7 _ rfl
                have d2 := d 8 _ rfl
                have hyk := (hy2 ys[k] (List.getElem_mem _)).later hbel
                have hxk : Hid (x.el[k] = ys[k].1) := by
                  show _ = _
                  simp only [← hys, List.getElem_map]
                obtain ⟨y, HY⟩ := hid_ex ys[k]
                rw [HY.out] at d0 d2 hyk hxk
                obtain ⟨ym, yv⟩ := y
                replace hyk : MHas wr yv ym.gone := hyk
                have hmm := maxLen_lt hyk.1
                obtain ⟨py, cy, rfl⟩ := hyk.slice
                simp only at d0 d2
                clear hd0 d hyk hy1 hy2
                by_cases hx : 100 < (ym.x.size : Int)
                · go_wp2_with fail
                  go_ret
                  exact ⟨false, rfl, (fun h => by cases h), hbel⟩
                · by_cases hx2 : 30 < (ym.gone.length : Int)
                  · go_wp2_with fail
                    go_ret
                    exact ⟨false, rfl, (fun h => by cases h), hbel⟩
                  · have HV2 : Hid (∀ i (h : i < x.el.length), i < k + 1 → x.el[i].gone.length ≤ 30) := fun i h hi => by
                      rcases Nat.lt_or_ge i k with h' | h'
                      · exact HV.out i h h'
                      · obtain rfl : i = k := by omega
                        rw [hxk.out]
                        show ym.gone.length ≤ 30
                        omega
                    go_wp2_with fail
                    go_roundw
                    case rel => exact ⟨k + 1, by simp, by omega, HV2, R0, hbel⟩
                    case measure => simp [intOf]; omega
              · obtain rfl : k = x.el.length := by omega
                have hlt' : ¬ (x.el.length : Int) < (x.el.length : Int) := by omega
                have HEB : Hid (∀ y ∈ x.el, y.gone.length ≤ 30) := fun y hy => by
                  obtain ⟨i, hi, rfl⟩ := List.getElem_of_mem hy
                  exact HV.out i hi hi
                clear HE HV
                go_wp2_with fail
                go_ret
                exact ⟨true, rfl, fun _ => ⟨HN.out, HMB.out, HEB.out⟩, hbel⟩
  · have h60' : 60 < (x.am.length : Int) + (x.wr.length : Int) + (x.mb.length : Int) + (x.el.length : Int) := by omega
    go_enter Try.func7, Try.ntmps7
    go_wp2_with (first | rw [hW])
    go_ret
    exact ⟨false, rfl, (fun h => by cases h), hbel⟩
end Go.Proofs.Ytknpnjhedfdggaa
