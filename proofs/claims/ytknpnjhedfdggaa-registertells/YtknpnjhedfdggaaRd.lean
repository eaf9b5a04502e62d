/- Read of package register. -/
import Derived.Test.YtknpnjhedfdggaaLst
import Derived.Test.YtknpnjhedfdggaaTts
import Derived.Test.YtknpnjhedfdggaaOver
namespace Go.Proofs.Ytknpnjhedfdggaa
open Go.RowKit

/-- A value by its parts. -/
abbrev VV (k : Int) (u : Value) : Value := .agg #[.int .i64 k, .int .i64 0, u, .slice none 0 0]
/-- What is read. -/
def rdK (x : X) : Int := if ck x = true then x.k else 0
def rdW (x : X) : List Wt := if x.k = 2 then lastW x.wr else x.wr
def rdT (x : X) : List Bs := if ck x = true then txs (wtx (rdW x)) else []
def RdPost (x : X) (w : World) (e : Ending) (w' : World) : Prop := ∃ u, e = .returned (VV (rdK x) u) ∧ THas w' u (rdT x) ∧ Below w.heap.size w w'
theorem THas.nil (w : World) : THas w (.slice none 0 0) [] := SHas.nil w 1
def thP (l : List Bs) : Value → World → Prop := fun u w => THas w u l
theorem thP_keeps (l : List Bs) : Keeps (thP l) := fun _ _ _ h hb => h.later hb
theorem ck_text {x : X} (h : ck x = true) : ∀ y ∈ x.wr, y.x.size ≤ 64 := fun y hy => by
  have := ((ca_pair x.wr).1 (ck_parts h).2.2.2.2.2).1 y hy
  simp only [iw, Bool.and_eq_true, decide_eq_true_eq] at this
  exact this.2
/-- Texts lie in no block of a value. -/
theorem THas.rowV {w : World} {v : Value} {l : List Bs} (h : THas w v l) {b : Nat} {k n : Int} {p q : Option Addr} {lp cp lq cq : Nat} (R : Rw w b 46 #[.int .i64 k, .int .i64 n, .slice p lp cp, .slice q lq cq]) (cs : Array Value) : THas (w.setRow b cs) v l := by
  obtain ⟨hm, hl, ⟨rfl, h0⟩ | ⟨ad, cc, rfl, hc', hd⟩⟩ := h
  · exact ⟨hm, hl, .inl ⟨rfl, h0⟩⟩
  · refine ⟨hm, hl, .inr ⟨ad, cc, rfl, hc', fun h => ?_⟩⟩
    obtain ⟨g, o, rfl, hd2⟩ := hd h
    refine ⟨g, o, rfl, range_row hd2 ?_ cs⟩
    rintro rfl
    have h0 : 0 < (l.map encStr).length := by simpa using h
    have h1 := hd2 0 _ (List.getElem?_eq_getElem h0)
    rw [R.cell, List.getElem_map] at h1
    match o, h1 with
    | 0, h1 => exact absurd (Option.some.inj h1) (by simp)
    | 1, h1 => exact absurd (Option.some.inj h1) (by simp)
    | 2, h1 => exact absurd (Option.some.inj h1) (by simp)
    | 3, h1 => exact absurd (Option.some.inj h1) (by simp)
    | o + 4, h1 => simp at h1
set_option maxHeartbeats 4000000 in
set_option maxRecDepth 100000 in
theorem read_any (x : X) (va vw vm ve : Value) (w : World) (h : Four w x va vw vm ve) (hs : Sm x) : Calls Try.prog 12 #[CV x.k x.b va vw vm ve] w (RdPost x w) := by
  obtain ⟨pa, ca', pw, cw, pm, cm, pe, ce, rfl, rfl, rfl, rfl⟩ := h.slices
  have HF : Hid (Four w x (.slice pa x.am.length ca') (.slice pw x.wr.length cw) (.slice pm x.mb.length cm) (.slice pe x.el.length ce)) := h
  clear h
  obtain ⟨R0, R1, hbel⟩ := two_rows w (cvc x.k x.b (.slice pa x.am.length ca') (.slice pw x.wr.length cw) (.slice pm x.mb.length cm) (.slice pe x.el.length ce)) 27 #[.int .i64 0, .int .i64 0, .slice none 0 0, .slice none 0 0] 46
  have hsz : ((w.alloc (.cells (cvc x.k x.b (.slice pa x.am.length ca') (.slice pw x.wr.length cw) (.slice pm x.mb.length cm) (.slice pe x.el.length ce)) 27)).alloc (.cells #[.int .i64 0, .int .i64 0, .slice none 0 0, .slice none 0 0] 46)).heap.size = w.heap.size + 2 := by simp
  generalize hW : (w.alloc (.cells (cvc x.k x.b (.slice pa x.am.length ca') (.slice pw x.wr.length cw) (.slice pm x.mb.length cm) (.slice pe x.el.length ce)) 27)).alloc (.cells #[.int .i64 0, .int .i64 0, .slice none 0 0, .slice none 0 0] 46) = w0 at R0 R1 hbel hsz
  go_enter Try.func12, Try.ntmps12
  go_wp2_with (first | rw [hW] | refine load_r 27 _ rfl rfl _ rfl R0 Try.underlying27 rfl size27 ?_)
  clear hW
  refine (check_any x _ _ _ _ w0 (HF.out.later hbel) hs).mono ?_
  rintro e w1 ⟨rfl, hb1⟩
  replace R0 := R0.later hb1
  replace R1 := R1.later hb1
  replace hbel := below_on hbel hb1
  have hB : w.heap.size + 2 ≤ w1.heap.size := by have := hb1.size; omega
  clear hb1 hsz
  obtain ⟨y1, HY1⟩ := hid_ex (ck x)
  rw [HY1.out]
  cases y1
  · go_wp2_with (first | refine store_r rfl 46 _ _ rfl _ #[.int .i64 0, .int .i64 0, .slice none 0 0, .slice none 0 0] rfl rfl R1 size46 rfl (by simp [Value.oneCell']) ?_)
    refine bodyPost_ret (v := VV 0 (.slice none 0 0)) (results_r rfl rfl (R1.row #[.int .i64 0, .int .i64 0, .slice none 0 0, .slice none 0 0]) rfl Try.underlying46 size46) rfl ?_
    refine ⟨.slice none 0 0, ?_, ?_, below_setRow hbel (by omega) _⟩
    · unfold rdK
      rw [HY1.out]
      rfl
    · unfold rdT
      rw [HY1.out]
      exact THas.nil _
  · have R3 := rw_new w1 46 #[.int .i64 0, .int .i64 0, .slice none 0 0, .slice none 0 0]
    have hbA := bel_alloc (Below.refl w1.heap.size w1) (.cells #[.int .i64 0, .int .i64 0, .slice none 0 0, .slice none 0 0] 46)
    replace R0 := R0.later hbA
    replace R1 := R1.later hbA
    replace hbel := below_on hbel hbA
    generalize hW : w1.alloc (.cells #[.int .i64 0, .int .i64 0, .slice none 0 0, .slice none 0 0] 46) = w2 at R0 R1 R3 hbel
    have c0 : w2.cell? ⟨w.heap.size, 0, none⟩ = some (.int .i64 x.k) := R0.cell 0
    have c3 : w2.cell? ⟨w.heap.size, 3, none⟩ = some (.slice pw x.wr.length cw) := R0.cell 3
    have hxt := ck_text HY1.out
    have HP : Hid (∀ (u : Value) (w' : World), THas w' u (txs (wtx (rdW x))) → Below w.heap.size w w' → RdPost x w (.returned (VV x.k u)) w') := fun u w' h1 h2 => by
      refine ⟨u, ?_, ?_, h2⟩
      · unfold rdK
        rw [HY1.out]
        rfl
      · unfold rdT
        rw [HY1.out]
        exact h1
    have hk := (ck_parts HY1.out).1
    have hst := hs.t
    clear hbA HY1 hs
    by_cases hk2 : x.k = 2
    · have HC : Hid (∀ w', Below w2.heap.size w2 w' → Calls Try.prog 24 #[.slice pw x.wr.length cw] w' (LaPost (lastW x.wr) w')) := fun w' hb => last_any _ _ _ ((HF.out.t.later hbel).later hb) hst
      have HE : Hid (rdW x = lastW x.wr) := if_pos hk2
      have hlt1 : (lastW x.wr).length ≤ 100 := Nat.le_trans (lastW_length _) (by decide)
      have hlx : ∀ y ∈ lastW x.wr, y.x.size ≤ 64 := fun y hy => hxt y (lastW_mem hy)
      clear hxt
      go_wp2_with (first | rw [hW])
      clear hW
      refine (HC.out _ (Below.refl _ _)).mono ?_
      rintro e w3 ⟨u, rfl, hu, hb1⟩
      obtain ⟨pu, cu, rfl⟩ := hu.slice
      replace R0 := R0.later hb1
      replace R1 := R1.later hb1
      replace R3 := R3.later hb1
      replace hbel := below_on hbel hb1
      clear hb1 c0 c3 HC
      generalize lastW x.wr = m at *
      go_wp2_with fail
      have hS : Calm.Stays (fun w' => Below w3.heap.size w3 w') := fun wa wb h hb => below_on h hb
      have hF : Facts.Stay [pF 0 (eqP (.pointer (some ⟨w.heap.size, 0, none⟩))), pF 1 (eqP (.int .i64 x.k)), pF 2 (eqP (.slice pu m.length cu)), pF 3 (thP (txs (wtx m)))] := stay_of (by simp only [List.forall_mem_cons]; exact ⟨⟨_, _, rfl, eqP_keeps _⟩, ⟨_, _, rfl, eqP_keeps _⟩, ⟨_, _, rfl, eqP_keeps _⟩, ⟨_, _, rfl, thP_keeps _⟩, fun _ h => by cases h⟩)
      refine Facts.regionTail (by kernel_rfl) (by kernel_rfl) 4 (by decide) (by kernel_rfl) (fun w' => Below w3.heap.size w3 w') (fun xv => { tmps := #[CV 2 x.b (Value.slice pa x.am.length ca') (Value.slice pw x.wr.length cw) (Value.slice pm x.mb.length cm) (Value.slice pe x.el.length ce), Value.pointer (some { block := w.heap.size, off := 0 }), Value.pointer (some { block := w.heap.size + 1, off := 0 }), Value.pointer (some { block := w1.heap.size, off := 0 }), Value.slice pu m.length cu, Value.agg (cvc 2 x.b (Value.slice pa x.am.length ca') (Value.slice pw x.wr.length cw) (Value.slice pm x.mb.length cm) (Value.slice pe x.el.length ce)), Value.bool true, Value.bool false, undef, Value.pointer (some { block := w.heap.size, off := 3 }), Value.slice pw x.wr.length cw, Value.pointer (some { block := w.heap.size, off := 0 }), Value.int IntKind.i64 2, Value.bool true, Value.bool true, undef, undef, Value.slice pw x.wr.length cw, Value.slice pu m.length cu, xv 0, xv 1, xv 2, xv 3, undef, undef], defers := [] }) [pF 0 (eqP (.pointer (some ⟨w.heap.size, 0, none⟩))), pF 1 (eqP (.int .i64 x.k)), pF 2 (eqP (.slice pu m.length cu)), pF 3 (thP (txs (wtx m)))] _ rfl rfl (by kernel_rfl) (fun j => [undef, undef, undef, undef].getD j undef) rfl (Below.refl _ w3).drew ⟨?_, ?_, ?_, ?_, ?_, ?_, trivial⟩ ?_
      · exact fun _ => Facts.pureP hS hF (fun _ _ => rfl) rfl (fun xv wv hSw hd => by
          go_simp)
      · exact fun _ => Facts.pureP hS hF (fun _ _ => rfl) rfl (fun xv wv hSw hd => by
          have d0 : xv 0 = _ := pF_get (hd ⟨0, .data⟩ (by simp) rfl _ rfl)
          have g1 : w3.cell? ⟨w.heap.size, 0, none⟩ = some (.int .i64 x.k) := R0.cell 0
          have g2 := cell_later hSw g1
          simp only [d0]
          go_simp)
      · exact fun _ => Facts.pureP hS hF (fun _ _ => rfl) rfl (fun xv wv hSw hd => by
          go_simp)
      · refine fun _ => Facts.call1P hS hF (fun _ _ => rfl) rfl (by kernel_rfl) rfl (fun xv wv hSw hd => ?_)
        have d2 : xv 2 = _ := pF_get (hd ⟨2, .data⟩ (by simp) rfl _ rfl)
        rw [show Act.eval _ _ = xv 2 from rfl, d2]
        refine (texts_any _ _ _ (hu.later hSw) hlt1 hlx).mono ?_
        rintro e w' ⟨u, he, ho, hb⟩
        exact ⟨u, he, ho, hb⟩
      · exact fun h => absurd h (by decide)
      · exact fun h => absurd h (by decide)
      intro x9 w5 hb5 hf
      have e1 : x9 1 = _ := pF_get (hf 1 _ rfl)
      have e3 := pF_get (hf 3 _ rfl)
      replace e3 : THas w5 (x9 3) (txs (wtx m)) := e3
      clear hS hF hf
      obtain ⟨pz, cz, hz⟩ := e3.slice
      rw [hz] at e3
      replace R1 := R1.later hb5
      replace R3 := R3.later hb5
      replace hbel := below_on hbel hb5
      clear hb5
      refine tail_pure (v := VV x.k (.slice pz (txs (wtx m)).length cz)) (by simp only [e1, hz]; go_simp) ?_
      refine tail_store 46 _ _ rfl _ _ rfl rfl (R3.store #[.int .i64 x.k, .int .i64 0, .slice pz (txs (wtx m)).length cz, .slice none 0 0] size46 rfl (by simp [Value.oneCell'])) ?_
      refine Facts.tailWp_nil ?_
      have R3' := R3.row #[.int .i64 x.k, .int .i64 0, .slice pz (txs (wtx m)).length cz, .slice none 0 0]
      replace R1 := R1.rowOther (q := w1.heap.size) (by omega) #[.int .i64 x.k, .int .i64 0, .slice pz (txs (wtx m)).length cz, .slice none 0 0]
      replace hbel := below_setRow hbel (g := w1.heap.size) (by omega) #[.int .i64 x.k, .int .i64 0, .slice pz (txs (wtx m)).length cz, .slice none 0 0]
      replace e3 := THas.rowV e3 R3 #[.int .i64 x.k, .int .i64 0, .slice pz (txs (wtx m)).length cz, .slice none 0 0]
      generalize w5.setRow w1.heap.size #[.int .i64 x.k, .int .i64 0, .slice pz (txs (wtx m)).length cz, .slice none 0 0] = w6 at R3' R1 hbel e3 ⊢
      clear R3
      go_wp2_with (first | refine load_r 46 _ rfl rfl _ rfl R3' Try.underlying46 rfl size46 ?_ | refine store_r rfl 46 _ _ rfl _ #[.int .i64 x.k, .int .i64 0, .slice pz (txs (wtx m)).length cz, .slice none 0 0] rfl rfl R1 size46 rfl (by simp [Value.oneCell']) ?_)
      refine bodyPost_ret (results_r rfl rfl (R1.row _) rfl Try.underlying46 size46) rfl ?_
      refine HP.out _ _ ?_ (below_setRow hbel (by omega) _)
      rw [HE.out]
      exact THas.rowV e3 R1 _
    · have hk3 : x.k = 3 := by omega
      have HE : Hid (rdW x = x.wr) := if_neg hk2
      have hu := HF.out.t.later hbel
      have hlt1 := hst
      have hlx := hxt
      clear hxt
      go_wp2_with (first | rw [hW])
      clear hW
      have hS : Calm.Stays (fun w' => Below w2.heap.size w2 w') := fun wa wb h hb => below_on h hb
      have hF : Facts.Stay [pF 0 (eqP (.pointer (some ⟨w.heap.size, 0, none⟩))), pF 1 (eqP (.int .i64 x.k)), pF 2 (eqP (.slice pw x.wr.length cw)), pF 3 (thP (txs (wtx x.wr)))] := stay_of (by simp only [List.forall_mem_cons]; exact ⟨⟨_, _, rfl, eqP_keeps _⟩, ⟨_, _, rfl, eqP_keeps _⟩, ⟨_, _, rfl, eqP_keeps _⟩, ⟨_, _, rfl, thP_keeps _⟩, fun _ h => by cases h⟩)
      refine Facts.regionTail (by kernel_rfl) (by kernel_rfl) 4 (by decide) (by kernel_rfl) (fun w' => Below w2.heap.size w2 w') (fun xv => { tmps := #[CV 3 x.b (Value.slice pa x.am.length ca') (Value.slice pw x.wr.length cw) (Value.slice pm x.mb.length cm) (Value.slice pe x.el.length ce), Value.pointer (some { block := w.heap.size, off := 0 }), Value.pointer (some { block := w.heap.size + 1, off := 0 }), Value.pointer (some { block := w1.heap.size, off := 0 }), Value.slice pw x.wr.length cw, Value.agg (cvc 3 x.b (Value.slice pa x.am.length ca') (Value.slice pw x.wr.length cw) (Value.slice pm x.mb.length cm) (Value.slice pe x.el.length ce)), Value.bool true, Value.bool false, undef, Value.pointer (some { block := w.heap.size, off := 3 }), Value.slice pw x.wr.length cw, Value.pointer (some { block := w.heap.size, off := 0 }), Value.int IntKind.i64 3, Value.bool false, Value.bool false, Value.bool true, Value.bool true, undef, undef, xv 0, xv 1, xv 2, xv 3, undef, undef], defers := [] }) [pF 0 (eqP (.pointer (some ⟨w.heap.size, 0, none⟩))), pF 1 (eqP (.int .i64 x.k)), pF 2 (eqP (.slice pw x.wr.length cw)), pF 3 (thP (txs (wtx x.wr)))] _ rfl rfl (by kernel_rfl) (fun j => [undef, undef, undef, undef].getD j undef) rfl (Below.refl _ w2).drew ⟨?_, ?_, ?_, ?_, ?_, ?_, trivial⟩ ?_
      · exact fun _ => Facts.pureP hS hF (fun _ _ => rfl) rfl (fun xv wv hSw hd => by
          go_simp)
      · exact fun _ => Facts.pureP hS hF (fun _ _ => rfl) rfl (fun xv wv hSw hd => by
          have d0 : xv 0 = _ := pF_get (hd ⟨0, .data⟩ (by simp) rfl _ rfl)
          have g1 : w2.cell? ⟨w.heap.size, 0, none⟩ = some (.int .i64 x.k) := R0.cell 0
          have g2 := cell_later hSw g1
          simp only [d0]
          go_simp)
      · exact fun _ => Facts.pureP hS hF (fun _ _ => rfl) rfl (fun xv wv hSw hd => by
          go_simp)
      · refine fun _ => Facts.call1P hS hF (fun _ _ => rfl) rfl (by kernel_rfl) rfl (fun xv wv hSw hd => ?_)
        have d2 : xv 2 = _ := pF_get (hd ⟨2, .data⟩ (by simp) rfl _ rfl)
        rw [show Act.eval _ _ = xv 2 from rfl, d2]
        refine (texts_any _ _ _ (hu.later hSw) hlt1 hlx).mono ?_
        rintro e w' ⟨u, he, ho, hb⟩
        exact ⟨u, he, ho, hb⟩
      · exact fun h => absurd h (by decide)
      · exact fun h => absurd h (by decide)
      intro x9 w5 hb5 hf
      have e1 : x9 1 = _ := pF_get (hf 1 _ rfl)
      have e3 := pF_get (hf 3 _ rfl)
      replace e3 : THas w5 (x9 3) (txs (wtx x.wr)) := e3
      clear hS hF hf
      obtain ⟨pz, cz, hz⟩ := e3.slice
      rw [hz] at e3
      replace R1 := R1.later hb5
      replace R3 := R3.later hb5
      replace hbel := below_on hbel hb5
      clear hb5
      refine tail_pure (v := VV x.k (.slice pz (txs (wtx x.wr)).length cz)) (by simp only [e1, hz]; go_simp) ?_
      refine tail_store 46 _ _ rfl _ _ rfl rfl (R3.store #[.int .i64 x.k, .int .i64 0, .slice pz (txs (wtx x.wr)).length cz, .slice none 0 0] size46 rfl (by simp [Value.oneCell'])) ?_
      refine Facts.tailWp_nil ?_
      have R3' := R3.row #[.int .i64 x.k, .int .i64 0, .slice pz (txs (wtx x.wr)).length cz, .slice none 0 0]
      replace R1 := R1.rowOther (q := w1.heap.size) (by omega) #[.int .i64 x.k, .int .i64 0, .slice pz (txs (wtx x.wr)).length cz, .slice none 0 0]
      replace hbel := below_setRow hbel (g := w1.heap.size) (by omega) #[.int .i64 x.k, .int .i64 0, .slice pz (txs (wtx x.wr)).length cz, .slice none 0 0]
      replace e3 := THas.rowV e3 R3 #[.int .i64 x.k, .int .i64 0, .slice pz (txs (wtx x.wr)).length cz, .slice none 0 0]
      generalize w5.setRow w1.heap.size #[.int .i64 x.k, .int .i64 0, .slice pz (txs (wtx x.wr)).length cz, .slice none 0 0] = w6 at R3' R1 hbel e3 ⊢
      clear R3
      go_wp2_with (first | refine load_r 46 _ rfl rfl _ rfl R3' Try.underlying46 rfl size46 ?_ | refine store_r rfl 46 _ _ rfl _ #[.int .i64 x.k, .int .i64 0, .slice pz (txs (wtx x.wr)).length cz, .slice none 0 0] rfl rfl R1 size46 rfl (by simp [Value.oneCell']) ?_)
      refine bodyPost_ret (results_r rfl rfl (R1.row _) rfl Try.underlying46 size46) rfl ?_
      refine HP.out _ _ ?_ (below_setRow hbel (by omega) _)
      rw [HE.out]
      exact THas.rowV e3 R1 _
end Go.Proofs.Ytknpnjhedfdggaa
