import Derived.Test.YtjbbmcommnhgeaaGreatP14
import Derived.Test.YtjbbmcommnhgeaaGreatP1
import Derived.Test.YtjbbmcommnhgeaaGreatP6
import Derived.Shelf.SlSortCmp.NoneTotal
import Derived.Test.YtjbbmcommnhgeaaGreatProg
/- Add of package orset. -/
namespace Go.Proofs.YtjbbmcommnhgeaaGreat.Os
open Go.RowKit Go.Sort Go.Maps Go.WideMaps
theorem own_ne {w : World} {B S n : Nat} {v : Value} {xs : List Value} {e : TypeId} (h : w.ownsRow B e S v n xs) {b : Nat} {t : TypeId} {cs : Array Value} (R : Rw w b t cs) (hne : e ≠ t) : ∀ k, v.ownBlock = some k → k ≠ b := by
 intro k hk ek
 subst ek
 obtain ⟨_, ⟨rfl, _⟩ | ⟨g, cap, cur, rfl, _, hg, _⟩⟩ := h
 ·cases hk
 ·have e1 := Option.some.inj hk
  simp only at e1
  subst e1
  have := Option.some.inj (hg.symm.trans R)
  simp at this
  exact hne this.2
theorem rw_map {w : World} {p b n : Nat} {D : DataW Value} {t : TypeId} {cs : Array Value} (R : Rw w p t cs) (hown : w.ownsMap Tryz.prog 9 vE b n D) : p ≠ b := by
 rintro rfl
 obtain ⟨es, clock, hb, _⟩ := hown
 rw [show w.heap[p]? = _ from R] at hb
 cases hb
theorem row_self {w : World} {b : Nat} {t : TypeId} {cs : Array Value} (R : Rw w b t cs) : w.setRow b cs = w := by
 have e : (w.setRow b cs).heap = w.heap := by
  apply Array.ext_getElem?
  intro i
  by_cases h : i = b
  ·subst h
   exact (R.row cs).trans (show w.heap[i]? = _ from R).symm
  ·exact setRow_other w b i cs h
 have e2 : w.setRow b cs = { w with heap := (w.setRow b cs).heap } := rfl
 rw [e2, e]
/-- Where a text that is not there would stand. -/
theorem upB_cut {s : Bs} : ∀ {ms : List (Mb × Value)}, upB ms → (∀ y ∈ ms, tx y.1 ≠ s) → ∃ A C, ms = A ++ C ∧ (∀ a ∈ A, tx a.1 < s) ∧ ∀ c ∈ C, s < tx c.1
 | [], _, _ => ⟨[], [], rfl, (fun _ h => by cases h), (fun _ h => by cases h)⟩
 | a :: ms, h, hn => by
  unfold upB at h
  rw [List.pairwise_cons] at h
  by_cases k : tx a.1 < s
  ·obtain ⟨A, C, rfl, h1, h2⟩ := upB_cut (ms := ms) h.2 (fun y hy => hn y (List.mem_cons_of_mem _ hy))
   refine ⟨a :: A, C, rfl, fun y hy => ?_, h2⟩
   rcases List.mem_cons.1 hy with rfl | hy
   ·exact k
   ·exact h1 y hy
  ·have k2 : s < tx a.1 := Bs.tri k (hn a (by simp))
   refine ⟨[], a :: ms, rfl, (fun _ h => by cases h), fun y hy => ?_⟩
   rcases List.mem_cons.1 hy with rfl | hy
   ·exact k2
   ·exact Bs.trans k2 (h.1 y hy)
theorem putV_gap {A C : List (Mb × Value)} {z : Mb × Value} (h1 : ∀ a ∈ A, tx a.1 < tx z.1) (h2 : ∀ c ∈ C, tx z.1 < tx c.1) : putV z (A ++ C) = A ++ z :: C := by
 unfold putV
 have e1 : A.filter (fun a => decide (tx a.1 < tx z.1)) = A := List.filter_eq_self.2 (fun a ha => decide_eq_true (h1 a ha))
 have e2 : A.filter (fun a => decide (tx z.1 < tx a.1)) = [] := List.filter_eq_nil_iff.2 (fun a ha => by simpa using Bs.le_of (h1 a ha))
 have e3 : C.filter (fun a => decide (tx a.1 < tx z.1)) = [] := List.filter_eq_nil_iff.2 (fun a ha => by simpa using Bs.le_of (h2 a ha))
 have e4 : C.filter (fun a => decide (tx z.1 < tx a.1)) = C := List.filter_eq_self.2 (fun a ha => decide_eq_true (h2 a ha))
 rw [List.filter_append, List.filter_append, e1, e2, e3, e4]
 simp
theorem putL_gap {A C : List Mb} {z : Mb} (h1 : ∀ a ∈ A, tx a < tx z) (h2 : ∀ c ∈ C, tx z < tx c) : putL z (A ++ C) = A ++ z :: C := by
 unfold putL
 have e1 : A.filter (fun a => decide (tx a < tx z)) = A := List.filter_eq_self.2 (fun a ha => decide_eq_true (h1 a ha))
 have e2 : A.filter (fun a => decide (tx z < tx a)) = [] := List.filter_eq_nil_iff.2 (fun a ha => by simpa using Bs.le_of (h1 a ha))
 have e3 : C.filter (fun a => decide (tx a < tx z)) = [] := List.filter_eq_nil_iff.2 (fun a ha => by simpa using Bs.le_of (h2 a ha))
 have e4 : C.filter (fun a => decide (tx z < tx a)) = C := List.filter_eq_self.2 (fun a ha => decide_eq_true (h2 a ha))
 rw [List.filter_append, List.filter_append, e1, e2, e3, e4]
 simp
theorem map_all {ms : List (Mb × Value)} {P : Mb → Prop} (h : ∀ a ∈ ms, P a.1) : ∀ a ∈ ms.map (·.1), P a := fun a ha => by
 obtain ⟨y, hy, rfl⟩ := List.mem_map.1 ha
 exact h y hy
theorem addL_length (l : List Mb) (s : ByteArray) (m : M) : (addL l s m).length ≤ l.length + 1 := putL_length _ _
theorem addL_text {l : List Mb} (h : cb l = true) {s : ByteArray} {m : M} (hs : s.size ≤ 64) (hm : im m.i = true) : ∀ y ∈ addL l s m, y.x.size ≤ 64 := fun z hz => by
 have h1 := ((cb_pair _).1 (addL_cb h hs hm)).1 z hz
 unfold ib at h1
 simp only [Bool.and_eq_true, decide_eq_true_eq] at h1
 exact h1.2.1
set_option maxHeartbeats 4000000 in
set_option maxRecDepth 100000 in
theorem add_any (x : X) (va vw vm ve : Value) (q u : Int) (v : List Int) (t : Int) (sl : Value) (idx : Int) (s : ByteArray) (w : World) (_hv : v.length = 13) (h : Four w x va vw vm ve) (hs : Sm x) :
  Calls Tryz.prog 40 #[CV x.k x.b va vw vm ve, TxV q u v t sl, .int .i64 idx, .string s] w (Gives (addX x ⟨q, u, idx⟩ s) w) := by
 obtain ⟨pa, ca', pw, cw, pm, cm, pe, ce, rfl, rfl, rfl, rfl⟩ := h.slices
 have HF : Hid (Four w x (.slice pa x.am.length ca') (.slice pw x.wr.length cw) (.slice pm x.mb.length cm) (.slice pe x.el.length ce)) := h
 clear h
 obtain ⟨z, HZ⟩ := hid_ex (addX x ⟨q, u, idx⟩ s)
 rw [HZ.out]
 have R0 := (((rw_new w 27 (cvc x.k x.b (.slice pa x.am.length ca') (.slice pw x.wr.length cw) (.slice pm x.mb.length cm) (.slice pe x.el.length ce))).alloc (.cells (txc q u v t sl).toArray 34)).alloc (.cells (cvc 0 0 (.slice none 0 0) (.slice none 0 0) (.slice none 0 0) (.slice none 0 0)) 27))
 have R1 := ((rw_new (w.alloc (.cells (cvc x.k x.b (.slice pa x.am.length ca') (.slice pw x.wr.length cw) (.slice pm x.mb.length cm) (.slice pe x.el.length ce)) 27)) 34 (txc q u v t sl).toArray).alloc (.cells (cvc 0 0 (.slice none 0 0) (.slice none 0 0) (.slice none 0 0) (.slice none 0 0)) 27))
 have R3 := (rw_new ((w.alloc (.cells (cvc x.k x.b (.slice pa x.am.length ca') (.slice pw x.wr.length cw) (.slice pm x.mb.length cm) (.slice pe x.el.length ce)) 27)).alloc (.cells (txc q u v t sl).toArray 34)) 27 (cvc 0 0 (.slice none 0 0) (.slice none 0 0) (.slice none 0 0) (.slice none 0 0)))
 have hbel := bel_alloc (bel_alloc (bel_alloc (Below.refl w.heap.size w) (.cells (cvc x.k x.b (.slice pa x.am.length ca') (.slice pw x.wr.length cw) (.slice pm x.mb.length cm) (.slice pe x.el.length ce)) 27)) (.cells (txc q u v t sl).toArray 34)) (.cells (cvc 0 0 (.slice none 0 0) (.slice none 0 0) (.slice none 0 0) (.slice none 0 0)) 27)
 have hsz : (((w.alloc (.cells (cvc x.k x.b (.slice pa x.am.length ca') (.slice pw x.wr.length cw) (.slice pm x.mb.length cm) (.slice pe x.el.length ce)) 27)).alloc (.cells (txc q u v t sl).toArray 34)).alloc (.cells (cvc 0 0 (.slice none 0 0) (.slice none 0 0) (.slice none 0 0) (.slice none 0 0)) 27)).heap.size = w.heap.size + 3 := by simp
 generalize hW : (((w.alloc (.cells (cvc x.k x.b (.slice pa x.am.length ca') (.slice pw x.wr.length cw) (.slice pm x.mb.length cm) (.slice pe x.el.length ce)) 27)).alloc (.cells (txc q u v t sl).toArray 34)).alloc (.cells (cvc 0 0 (.slice none 0 0) (.slice none 0 0) (.slice none 0 0) (.slice none 0 0)) 27)) = w0 at R0 R1 R3 hbel hsz
 simp only [World.size_alloc, Nat.add_assoc, Nat.reduceAdd] at R1 R3
 go_enter Tryz.func40, Tryz.ntmps40
 go_wp2_with (first | rw [hW] | refine load_r 27 _ rfl rfl _ rfl R0 Tryz.underlying27 rfl size27 ?_)
 clear hW
 refine (copied_any x _ _ _ _ w0 (HF.out.later hbel) hs).mono ?_
 rintro e w1 ⟨ua, uw, um, ue, rfl, ho, hb1⟩
 obtain ⟨qa, da, qw, dw, qm, dx, qe, de, rfl, rfl, rfl, rfl⟩ := ho.four.slices
 rw [hsz] at ho
 replace R0 := R0.later hb1
 replace R1 := R1.later hb1
 replace R3 := R3.later hb1
 replace hbel := below_on hbel hb1
 have hB : w.heap.size + 3 ≤ w1.heap.size := by have := hb1.size; omega
 clear hb1 hsz
 have ho2 := ho.row (by omega) R0 (cvc x.k x.b (.slice qa x.am.length da) (.slice qw x.wr.length dw) (.slice qm x.mb.length dx) (.slice qe x.el.length de))
 have hbs := below_setRow hbel (Nat.le_refl w.heap.size) (cvc x.k x.b (.slice qa x.am.length da) (.slice qw x.wr.length dw) (.slice qm x.mb.length dx) (.slice qe x.el.length de))
 have hB2 : w.heap.size + 3 ≤ (w1.setRow w.heap.size (cvc x.k x.b (.slice qa x.am.length da) (.slice qw x.wr.length dw) (.slice qm x.mb.length dx) (.slice qe x.el.length de))).heap.size := by simpa [World.setRow] using hB
 replace R1 := R1.rowOther (q := w.heap.size) (by omega) (cvc x.k x.b (.slice qa x.am.length da) (.slice qw x.wr.length dw) (.slice qm x.mb.length dx) (.slice qe x.el.length de))
 replace R3 := R3.rowOther (q := w.heap.size) (by omega) (cvc x.k x.b (.slice qa x.am.length da) (.slice qw x.wr.length dw) (.slice qm x.mb.length dx) (.slice qe x.el.length de))
 have R4 := R0.row (cvc x.k x.b (.slice qa x.am.length da) (.slice qw x.wr.length dw) (.slice qm x.mb.length dx) (.slice qe x.el.length de))
 generalize hW : w1.setRow w.heap.size (cvc x.k x.b (.slice qa x.am.length da) (.slice qw x.wr.length dw) (.slice qm x.mb.length dx) (.slice qe x.el.length de)) = w2 at ho2 hbs hB2 R1 R3 R4
 go_wp2_with (first | rw [hW] | refine store_r rfl 27 _ _ rfl _ (cvc x.k x.b (.slice qa x.am.length da) (.slice qw x.wr.length dw) (.slice qm x.mb.length dx) (.slice qe x.el.length de)) rfl rfl R0 size27 rfl (by simp [Value.oneCell']) ?_ | refine load_r 27 _ rfl rfl _ rfl R4 Tryz.underlying27 rfl size27 ?_)
 clear hW ho hbel hB R0
 refine (check_any x _ _ _ _ w2 ho2.four hs).mono ?_
 rintro e w3 ⟨rfl, hb1⟩
 replace R1 := R1.later hb1
 replace R3 := R3.later hb1
 replace R4 := R4.later hb1
 replace ho2 := ho2.later hb1
 replace hbs := below_on hbs hb1
 replace hB2 := Nat.le_trans hB2 hb1.size
 clear hb1
 have HQ : Hid (z = if (ck x && (im idx && decide (s.size ≤ 64))) = true then { x with mb := (addL x.mb s ⟨q, u, idx⟩) } else x) := by
  show _ = _
  rw [← HZ.out]
  rfl
 clear HZ
 obtain ⟨y1, HY1⟩ := hid_ex (ck x)
 rw [HY1.out] at HQ ⊢
 cases y1
 ·
  have e := HQ.out
  rw [show (false && (im idx && decide (s.size ≤ 64))) = false from rfl, if_neg (by decide)] at e
  have e := e.symm
  subst e
  go_wp2_with (first | refine load_r 27 _ rfl rfl _ rfl R4 Tryz.underlying27 rfl size27 ?_ | refine store_r rfl 27 _ _ rfl _ (cvc x.k x.b (.slice qa x.am.length da) (.slice qw x.wr.length dw) (.slice qm x.mb.length dx) (.slice qe x.el.length de)) rfl rfl R3 size27 rfl (by simp [Value.oneCell']) ?_)
  refine bodyPost_ret (results_r rfl rfl (R3.row (cvc x.k x.b (.slice qa x.am.length da) (.slice qw x.wr.length dw) (.slice qm x.mb.length dx) (.slice qe x.el.length de))) rfl Tryz.underlying27 size27) rfl ?_
  exact ⟨_, _, _, _, rfl, (ho2.row (by omega) R3 (cvc x.k x.b (.slice qa x.am.length da) (.slice qw x.wr.length dw) (.slice qm x.mb.length dx) (.slice qe x.el.length de))).four, below_setRow hbs (by omega) _⟩
 ·have hii : decide (idx < 1) = !im idx := by unfold im; by_cases h : idx < 1 <;> simp [h] <;> omega
  obtain ⟨y2, HY2⟩ := hid_ex (im idx)
  rw [HY2.out] at hii HQ
  cases y2
  ·have hil : idx < 1 := of_decide_eq_true hii
   have e := HQ.out
   rw [show (true && (false && decide (s.size ≤ 64))) = false from rfl, if_neg (by decide)] at e
   have e := e.symm
   subst e
   go_wp2_with (first | refine load_r 27 _ rfl rfl _ rfl R4 Tryz.underlying27 rfl size27 ?_ | refine store_r rfl 27 _ _ rfl _ (cvc x.k x.b (.slice qa x.am.length da) (.slice qw x.wr.length dw) (.slice qm x.mb.length dx) (.slice qe x.el.length de)) rfl rfl R3 size27 rfl (by simp [Value.oneCell']) ?_)
   refine bodyPost_ret (results_r rfl rfl (R3.row (cvc x.k x.b (.slice qa x.am.length da) (.slice qw x.wr.length dw) (.slice qm x.mb.length dx) (.slice qe x.el.length de))) rfl Tryz.underlying27 size27) rfl ?_
   exact ⟨_, _, _, _, rfl, (ho2.row (by omega) R3 (cvc x.k x.b (.slice qa x.am.length da) (.slice qw x.wr.length dw) (.slice qm x.mb.length dx) (.slice qe x.el.length de))).four, below_setRow hbs (by omega) _⟩
  ·have hil : ¬ idx < 1 := of_decide_eq_false hii
   by_cases hsx : s.size ≤ 64
   ·have e := HQ.out
    rw [show (true && (true && decide (s.size ≤ 64))) = true by simp [hsx], if_pos rfl, ck_x4 HY1.out] at e
    have HQ2 : Hid (z = x4 (addL x.mb s ⟨q, u, idx⟩)) := e
    have hsx' : ¬ (64 : Int) < (s.size : Int) := by omega
    obtain ⟨ms, hms, hom, hOB⟩ := ho2.m
    have hcb := (ck_parts HY1.out).2.2.2.2.2
    have hcp := (cb_pair _).1 hcb
    have hup : upB ms := by
     have h2 := hcp.2
     rw [← hms] at h2
     unfold upm at h2
     rw [List.pairwise_map] at h2
     exact h2
    have htx : ∀ y ∈ ms, y.1.x.size ≤ 64 := fun y hy => ck_text HY1.out y.1 (by rw [← hms]; exact List.mem_map_of_mem hy)
    have HTX : Hid (∀ y ∈ (addL x.mb s ⟨q, u, idx⟩), y.x.size ≤ 64) := addL_text hcb hsx HY2.out
    have HLE : Hid ((addL x.mb s ⟨q, u, idx⟩).length ≤ 101) := Nat.le_trans (addL_length _ _ _) (by have := hs.m; omega)
    have HMS : Hid (ms.map (·.1) = x.mb) := hms
    have HCA : Hid (∀ y ∈ ms, y.1.ms.Pairwise (fun a b => lt a b = true)) := fun y hy => by
     have h1 := hcp.1 y.1 (by rw [← hms]; exact List.mem_map_of_mem hy)
     unfold ib at h1
     simp only [Bool.and_eq_true, decide_eq_true_eq] at h1
     exact ((ca_pair _).1 h1.2.2).2
    have HSI : Hid (∀ y ∈ ms, y.1.ms.length ≤ 100) := fun y hy => hs.mi y.1 (by rw [← hms]; exact List.mem_map_of_mem hy)
    have hml : ms.length = x.mb.length := by rw [← hms, List.length_map]
    have hlm : ms.length ≤ 100 := by rw [hml]; exact hs.m
    have c4 : w3.cell? ⟨w.heap.size, 4, none⟩ = some (.slice qm x.mb.length dx) := R4.cell 4
    rw [← hml] at hom c4
    have CB := byText_any (.slice qm ms.length dx) ms w3 (own_sh hom) hOB.has hlm htx hup
    have hkey : keyOf Tryz.prog 9 (.string s) = some (.string (bs s)) := keyOf_string_mk Tryz.underlying9 (by unfold maxLen; omega)
    clear e HQ hii HY2 hcp hup htx hcb hml hms
    go_wp2_with fail
    refine CB.mono ?_
    clear CB c4
    rintro e w4 ⟨b, D, rfl, hbb, hown, hD, hb4⟩
    have hbB : w.heap.size + 3 ≤ b := Nat.le_trans hB2 hbb
    replace R1 := R1.later hb4
    replace R3 := R3.later hb4
    replace hOB := hOB.later hb4
    replace hbs := below_on hbs hb4
    replace hB2 := Nat.le_trans hB2 hb4.size
    clear R4 hom hb4 hbb ho2 HF
    rcases upB_split hD.u (bs s) with hno | ⟨A, ⟨ym, yv⟩, C, rfl, hyt, hA, hC⟩
    ·obtain ⟨A, C, rfl, hA, hC⟩ := upB_cut hD.u hno
     have hoy : w4.ownsRow (w.heap.size + 3) 50 3 (.slice none 0 0) ([] : List M).length (rows M.cells []) := World.ownsRow_nil _ _ _ _
     have hyl : ([] : List M).length ≤ 100 := by decide
     have HPR : Hid (([] : List M).Pairwise (fun a b => lt a b = true)) := List.Pairwise.nil
     have HAD : Hid (addY x.mb s ⟨q, u, idx⟩ = ⟨s, false, wth [] ⟨q, u, idx⟩⟩) := by
      show _ = _
      unfold addY
      rw [look_none]
      ·rfl
      ·rw [← HMS.out]
       exact map_all hno
     clear HCA HSI
     have HAT : Hid (D.atKey (.string (bs s)) (.held (.agg #[.string noS, .bool false, .slice none 0 0])) = .held (.agg #[.string noS, .bool false, .slice none 0 0])) := hD.off hno _
     have hat := HAT.out
     have CW := fun w' (h : w'.ownsRow (w.heap.size + 3) 50 3 (.slice none 0 0) (([] : List M)).length (rows M.cells (([] : List M)))) (h2 : w.heap.size + 3 ≤ w'.heap.size) => with_any (w.heap.size + 3) (.slice none 0 0) (([] : List M)) ⟨q, u, idx⟩ w' h hyl HPR.out h2
     have HADD : Hid (addY x.mb s ⟨q, u, idx⟩ = ⟨s, false, wth (([] : List M)) ⟨q, u, idx⟩⟩) := HAD.out
     obtain ⟨l5, HL5⟩ := hid_ex (wth (([] : List M)) ⟨q, u, idx⟩)
     rw [HL5.out] at CW HADD
     clear HL5 HAT HAD HPR
     have RB := rw_new w4 67 #[.string noS, .bool false, .slice none 0 0]
     have hbA := bel_alloc (Below.refl w4.heap.size w4) (.cells #[.string noS, .bool false, .slice none 0 0] 67)
     replace R1 := R1.later hbA
     replace R3 := R3.later hbA
     have hown9 := map_later hown hbA
     replace hOB := hOB.later hbA
     replace hoy := own_later hoy hbA
     replace hbs := below_on hbs hbA
     have hbx : w.heap.size + 3 ≤ w4.heap.size := hB2
     replace hB2 := Nat.le_trans hB2 hbA.size
     generalize hW : w4.alloc (.cells #[.string noS, .bool false, .slice none 0 0] 67) = w5 at RB R1 R3 hown9 hOB hoy hbs hB2
     have HW : Hid (w4.alloc (.cells #[.string noS, .bool false, .slice none 0 0] 67) = w5) := hW
     clear hW
     have cb2 : w5.cell? ⟨w4.heap.size, 2, none⟩ = some (.slice none 0 0) := RB.cell 2
     have d1 := tx_dot R1
     have zd : (Tryz.prog.info? 29).map (·.size) = some [Value.int .i64 q, .int .i64 u].length := size29
     have HRS : Hid (w5.setRow w4.heap.size #[.string noS, .bool false, .slice none 0 0] = w5) := row_self RB
     go_wp2_with (first | rw [HW.out] | rw [HRS.out] | refine store_r rfl 67 _ _ rfl _ #[.string noS, .bool false, .slice none 0 0] rfl rfl RB size67 rfl (by simp [Value.oneCell']) ?_ | (at_lookup; refine lookup_v rfl _ _ 111 rfl 9 67 law9 Tryz.underlying111 (Tryz.zeroValue67 _) rfl hown rfl hkey hat ?_) | refine load_m 29 _ rfl rfl _ _ rfl d1 Tryz.underlying29 rfl zd ?_)
     clear HRS HW hat hown cb2 d1 hbA
     refine (CW w5 hoy hB2).mono ?_
     clear CW
     rintro e w6 ⟨u6, rfl, ho6, hk6, hu6, hb6⟩
     obtain ⟨p6, c6, rfl⟩ := own_sl ho6
     have hlo : ∀ k, (Value.slice none 0 0).ownBlock = some k → k < w5.heap.size := fun k hk => (World.ownsRow.lt hoy k hk).2
     have HLT : Hid (∀ a ∈ A ++ C, ∀ k, a.2.ownBlock = some k → k < w5.heap.size) := fun a ha k hk => (World.ownsRow.lt (hOB.o a ha) k hk).2
     have HOA : Hid (∀ a ∈ A ++ C, ∀ k, a.2.ownBlock = some k → (Value.slice none 0 0).ownBlock ≠ some k) := fun _ _ k _ e => by cases e
     have HOB : Hid (OwnB (w.heap.size + 3) w6 (A ++ C)) := hOB.later (below_kp hb6 hk6)
     replace hown9 := map_kp hown9 hk6 (fun e => map_ne hown9 hoy b e rfl)
     replace RB : Rw w6 w4.heap.size 67 _ := (hk6 _ RB.lt (fun e => own_ne hoy RB (by decide) _ e rfl)).trans RB
     replace R3 : Rw w6 (w.heap.size + 2) 27 _ := (hb6.block _ (by omega)).trans R3
     have hbs6 := hbs.trans (hb6.mono (show w.heap.size ≤ w.heap.size + 3 by omega))
     have hB6 := Nat.le_trans hB2 hb6.size
     have HOC : Hid (OwnB (w.heap.size + 3) w6 (A ++ (⟨s, false, l5⟩, .slice p6 l5.length c6) :: C)) := HOB.out.mid ho6 (fun k' hk' a ha h2 => by
      rcases hu6 k' hk' with h3 | h3
      ·exact HOA.out a ha k' h2 h3
      ·have := HLT.out a ha k' h2
       omega)
     clear hk6 hu6 hb6 hoy hlo HLT HOA HOB ho6 R1 hOB hbs hB2
     have g0 : w6.cell? ⟨w4.heap.size, 0, none⟩ = some (.string noS) := RB.cell 0
     have f0 : w6.frozen? ⟨w4.heap.size, 0, none⟩ = false := RB.frozen 0
     have RB2 : Rw (w6.setCell ⟨w4.heap.size, 0, none⟩ (.string s)) w4.heap.size 67 #[.string s, .bool false, .slice none 0 0] := RB.set 0 _
     have g2 : (w6.setCell ⟨w4.heap.size, 0, none⟩ (.string s)).cell? ⟨w4.heap.size, 2, none⟩ = some (.slice none 0 0) := RB2.cell 2
     have f2 : (w6.setCell ⟨w4.heap.size, 0, none⟩ (.string s)).frozen? ⟨w4.heap.size, 2, none⟩ = false := RB2.frozen 2
     have RB3 : Rw ((w6.setCell ⟨w4.heap.size, 0, none⟩ (.string s)).setCell ⟨w4.heap.size, 2, none⟩ (.slice p6 l5.length c6)) w4.heap.size 67 #[.string s, .bool false, .slice p6 l5.length c6] := RB2.set 2 _
     have hk7 : Kp (some w4.heap.size) w6 ((w6.setCell ⟨w4.heap.size, 0, none⟩ (.string s)).setCell ⟨w4.heap.size, 2, none⟩ (.slice p6 l5.length c6)) := fun c' h' hne => (Below.heap_setCell _ _ _ c' (fun e => hne (by rw [e]))).trans (Below.heap_setCell _ _ _ c' (fun e => hne (by rw [e])))
     have hb7 := (hbs6.setCell (p := ⟨w4.heap.size, 0, none⟩) (by show w.heap.size ≤ w4.heap.size; omega) (.string s)).setCell (p := ⟨w4.heap.size, 2, none⟩) (by show w.heap.size ≤ w4.heap.size; omega) (.slice p6 l5.length c6)
     have hB7 : w.heap.size + 3 ≤ ((w6.setCell ⟨w4.heap.size, 0, none⟩ (.string s)).setCell ⟨w4.heap.size, 2, none⟩ (.slice p6 l5.length c6)).heap.size := by rw [World.size_setCell, World.size_setCell]; exact hB6
     generalize hW : (w6.setCell ⟨w4.heap.size, 0, none⟩ (.string s)).setCell ⟨w4.heap.size, 2, none⟩ (.slice p6 l5.length c6) = w7 at RB3 hk7 hb7 hB7
     replace HOC : Hid (OwnB (w.heap.size + 3) w7 (A ++ (⟨s, false, l5⟩, .slice p6 l5.length c6) :: C)) := ⟨fun a ha => own_kp (HOC.out.o a ha) hk7 (fun k hk e => own_ne (HOC.out.o a ha) RB (by decide) k hk (Option.some.inj e).symm), HOC.out.d⟩
     have hown7 := map_kp hown9 hk7 (fun e => rw_map RB hown9 (Option.some.inj e))
     replace R3 : Rw w7 (w.heap.size + 2) 27 _ := (hk7 _ R3.lt (fun e => by have := Option.some.inj e; omega)).trans R3
     clear hown9 hk7 hbs6 hB6
     go_wp2_with (first | rw [hW] | refine load_r 67 _ rfl rfl _ rfl RB3 Tryz.underlying67 rfl size67 ?_ | (at_mapUpdate; refine wpList_mapUpdate_own _ rfl _ _ _ 111 rfl 9 67 law9 Tryz.underlying111 vE b _ _ rfl hown7 (by unfold maxLen; omega) _ _ _ rfl rfl hkey _ [] rfl ?_; intro w8 hown8 hg8))
     clear hW g0 f0 g2 f2 RB RB2
     have HDN : Hid (MapIs (D.put (.string (bs s)) (.held (.agg #[.string s, .bool false, .slice p6 l5.length c6]))) (A ++ (⟨s, false, l5⟩, .slice p6 l5.length c6) :: C)) := by
      have h2 := hD.put (⟨s, false, l5⟩, .slice p6 l5.length c6)
      rw [putV_gap hA hC] at h2
      exact h2
     have hOB8 := HOC.out.turned hown7 hg8
     replace R3 := R3.turned hown7 hg8
     replace hb7 := hb7.grown hg8 hb7.size (fun j hj => by cases hj; omega)
     have HNY : Hid ((A ++ (⟨s, false, l5⟩, .slice p6 l5.length c6) :: C).map (·.1) = (addL x.mb s ⟨q, u, idx⟩)) := by
      show _ = _
      unfold addL
      rw [HADD.out, ← HMS.out]
      simp only [List.map_append, List.map_cons]
      rw [putL_gap (z := ⟨s, false, l5⟩) (map_all (P := fun a => tx a < bs s) hA) (map_all (P := fun a => bs s < tx a) hC)]
     have CC := cellOf_any b _ _ _ w8 hown8 HDN.out (by omega) hOB8.has (fun y hy => ?_) ?_
     rotate_left
     ·have h3 : y.1 ∈ (addL x.mb s ⟨q, u, idx⟩) := by rw [← HNY.out]; exact List.mem_map_of_mem hy
      exact HTX.out _ h3
     ·have h3 : (A ++ (⟨s, false, l5⟩, .slice p6 l5.length c6) :: C).length = (addL x.mb s ⟨q, u, idx⟩).length := by rw [← HNY.out, List.length_map]
      rw [h3]
      have := HLE.out
      omega
     rw [HNY.out] at CC
     clear HNY HDN HADD HMS hown8 hown7 hOB8 HOC hg8 hD RB3 HTX HLE
     go_wp2_with fail
     refine CC.mono ?_
     rintro e w9 ⟨ua, uw, um, ue, rfl, hf, hb9⟩
     obtain ⟨na, ea, nw, ew, nm, em, ne, ee, rfl, rfl, rfl, rfl⟩ := hf.slices
     replace R3 := R3.later hb9
     replace hb7 := below_on hb7 hb9
     clear CC
     have e := HQ2.out.symm
     subst e
     go_wp2_with (first | refine store_r rfl 27 _ _ rfl _ (cvc 4 0 (.slice na 0 ea) (.slice nw 0 ew) (.slice nm (addL x.mb s ⟨q, u, idx⟩).length em) (.slice ne 0 ee)) rfl rfl R3 size27 rfl (by simp [Value.oneCell']) ?_)
     refine bodyPost_ret (results_r rfl rfl (R3.row _) rfl Tryz.underlying27 size27) rfl ?_
     exact ⟨_, _, _, _, rfl, four4_row hf R3 _, below_setRow hb7 (by omega) _⟩
    ·replace hyt : tx ym = bs s := hyt
     have HYX : Hid (ym.x = s) := bs_inj hyt
     have HYT : Hid (tx ym = bs s) := hyt
     have hoy := hOB.o (ym, yv) (by simp)
     replace hoy : w4.ownsRow (w.heap.size + 3) 50 3 yv ym.ms.length (rows M.cells ym.ms) := hoy
     obtain ⟨py, cy, rfl⟩ := own_sl hoy
     have hyl : ym.ms.length ≤ 100 := HSI.out (ym, .slice py ym.ms.length cy) (by simp)
     have HPR : Hid (ym.ms.Pairwise (fun a b => lt a b = true)) := HCA.out (ym, .slice py ym.ms.length cy) (by simp)
     have HAD : Hid (addY x.mb s ⟨q, u, idx⟩ = ⟨s, ym.b, wth ym.ms ⟨q, u, idx⟩⟩) := by
      show _ = _
      unfold addY
      rw [← HMS.out, List.map_append, List.map_cons, look_mid (y := ym) HYT.out (map_all hA)]
      rfl
     clear HCA HSI hyt
     have HAT : Hid (D.atKey (.string (bs s)) (.held (.agg #[.string noS, .bool false, .slice none 0 0])) = .held (.agg #[.string ym.x, .bool ym.b, .slice py ym.ms.length cy])) := hD.at (y := (ym, .slice py ym.ms.length cy)) (by simp) HYT.out _
     have hat := HAT.out
     have CW := fun w' (h : w'.ownsRow (w.heap.size + 3) 50 3 (.slice py ym.ms.length cy) (ym.ms).length (rows M.cells (ym.ms))) (h2 : w.heap.size + 3 ≤ w'.heap.size) => with_any (w.heap.size + 3) (.slice py ym.ms.length cy) (ym.ms) ⟨q, u, idx⟩ w' h hyl HPR.out h2
     have HADD : Hid (addY x.mb s ⟨q, u, idx⟩ = ⟨s, ym.b, wth (ym.ms) ⟨q, u, idx⟩⟩) := HAD.out
     obtain ⟨l5, HL5⟩ := hid_ex (wth (ym.ms) ⟨q, u, idx⟩)
     rw [HL5.out] at CW HADD
     clear HL5 HAT HAD HPR
     have RB := rw_new w4 67 #[.string ym.x, .bool ym.b, .slice py ym.ms.length cy]
     have hbA := bel_alloc (Below.refl w4.heap.size w4) (.cells #[.string ym.x, .bool ym.b, .slice py ym.ms.length cy] 67)
     replace R1 := R1.later hbA
     replace R3 := R3.later hbA
     have hown9 := map_later hown hbA
     replace hOB := hOB.later hbA
     replace hoy := own_later hoy hbA
     replace hbs := below_on hbs hbA
     have hbx : w.heap.size + 3 ≤ w4.heap.size := hB2
     replace hB2 := Nat.le_trans hB2 hbA.size
     generalize hW : w4.alloc (.cells #[.string ym.x, .bool ym.b, .slice py ym.ms.length cy] 67) = w5 at RB R1 R3 hown9 hOB hoy hbs hB2
     have HW : Hid (w4.alloc (.cells #[.string ym.x, .bool ym.b, .slice py ym.ms.length cy] 67) = w5) := hW
     clear hW
     have cb2 : w5.cell? ⟨w4.heap.size, 2, none⟩ = some (.slice py ym.ms.length cy) := RB.cell 2
     have d1 := tx_dot R1
     have zd : (Tryz.prog.info? 29).map (·.size) = some [Value.int .i64 q, .int .i64 u].length := size29
     go_wp2_with (first | rw [HW.out] | (at_lookup; refine lookup_v rfl _ _ 111 rfl 9 67 law9 Tryz.underlying111 (Tryz.zeroValue67 _) rfl hown rfl hkey hat ?_) | refine load_m 29 _ rfl rfl _ _ rfl d1 Tryz.underlying29 rfl zd ?_)
     clear HW hat hown cb2 d1 hbA
     refine (CW w5 hoy hB2).mono ?_
     clear CW
     rintro e w6 ⟨u6, rfl, ho6, hk6, hu6, hb6⟩
     obtain ⟨p6, c6, rfl⟩ := own_sl ho6
     have hlo : ∀ k, (Value.slice py ym.ms.length cy).ownBlock = some k → k < w5.heap.size := fun k hk => (World.ownsRow.lt hoy k hk).2
     have HLT : Hid (∀ a ∈ A ++ C, ∀ k, a.2.ownBlock = some k → k < w5.heap.size) := fun a ha k hk => (World.ownsRow.lt (hOB.o a (by rcases List.mem_append.1 ha with h1 | h1; exact List.mem_append.2 (.inl h1); exact List.mem_append.2 (.inr (List.mem_cons_of_mem _ h1)))) k hk).2
     have HOA : Hid (∀ a ∈ A ++ C, ∀ k, a.2.ownBlock = some k → (Value.slice py ym.ms.length cy).ownBlock ≠ some k) := hOB.apart
     have HOB : Hid (OwnB (w.heap.size + 3) w6 (A ++ C)) := OwnB.others hOB hk6
     replace hown9 := map_kp hown9 hk6 (fun e => map_ne hown9 hoy b e rfl)
     replace RB : Rw w6 w4.heap.size 67 _ := (hk6 _ RB.lt (fun e => own_ne hoy RB (by decide) _ e rfl)).trans RB
     replace R3 : Rw w6 (w.heap.size + 2) 27 _ := (hb6.block _ (by omega)).trans R3
     have hbs6 := hbs.trans (hb6.mono (show w.heap.size ≤ w.heap.size + 3 by omega))
     have hB6 := Nat.le_trans hB2 hb6.size
     have HOC : Hid (OwnB (w.heap.size + 3) w6 (A ++ (⟨s, ym.b, l5⟩, .slice p6 l5.length c6) :: C)) := HOB.out.mid ho6 (fun k' hk' a ha h2 => by
      rcases hu6 k' hk' with h3 | h3
      ·exact HOA.out a ha k' h2 h3
      ·have := HLT.out a ha k' h2
       omega)
     clear hk6 hu6 hb6 hoy hlo HLT HOA HOB ho6 R1 hOB hbs hB2
     have g0 : w6.cell? ⟨w4.heap.size, 0, none⟩ = some (.string ym.x) := RB.cell 0
     have f0 : w6.frozen? ⟨w4.heap.size, 0, none⟩ = false := RB.frozen 0
     have RB2 : Rw (w6.setCell ⟨w4.heap.size, 0, none⟩ (.string s)) w4.heap.size 67 #[.string s, .bool ym.b, .slice py ym.ms.length cy] := RB.set 0 _
     have g2 : (w6.setCell ⟨w4.heap.size, 0, none⟩ (.string s)).cell? ⟨w4.heap.size, 2, none⟩ = some (.slice py ym.ms.length cy) := RB2.cell 2
     have f2 : (w6.setCell ⟨w4.heap.size, 0, none⟩ (.string s)).frozen? ⟨w4.heap.size, 2, none⟩ = false := RB2.frozen 2
     have RB3 : Rw ((w6.setCell ⟨w4.heap.size, 0, none⟩ (.string s)).setCell ⟨w4.heap.size, 2, none⟩ (.slice p6 l5.length c6)) w4.heap.size 67 #[.string s, .bool ym.b, .slice p6 l5.length c6] := RB2.set 2 _
     have hk7 : Kp (some w4.heap.size) w6 ((w6.setCell ⟨w4.heap.size, 0, none⟩ (.string s)).setCell ⟨w4.heap.size, 2, none⟩ (.slice p6 l5.length c6)) := fun c' h' hne => (Below.heap_setCell _ _ _ c' (fun e => hne (by rw [e]))).trans (Below.heap_setCell _ _ _ c' (fun e => hne (by rw [e])))
     have hb7 := (hbs6.setCell (p := ⟨w4.heap.size, 0, none⟩) (by show w.heap.size ≤ w4.heap.size; omega) (.string s)).setCell (p := ⟨w4.heap.size, 2, none⟩) (by show w.heap.size ≤ w4.heap.size; omega) (.slice p6 l5.length c6)
     have hB7 : w.heap.size + 3 ≤ ((w6.setCell ⟨w4.heap.size, 0, none⟩ (.string s)).setCell ⟨w4.heap.size, 2, none⟩ (.slice p6 l5.length c6)).heap.size := by rw [World.size_setCell, World.size_setCell]; exact hB6
     generalize hW : (w6.setCell ⟨w4.heap.size, 0, none⟩ (.string s)).setCell ⟨w4.heap.size, 2, none⟩ (.slice p6 l5.length c6) = w7 at RB3 hk7 hb7 hB7
     replace HOC : Hid (OwnB (w.heap.size + 3) w7 (A ++ (⟨s, ym.b, l5⟩, .slice p6 l5.length c6) :: C)) := ⟨fun a ha => own_kp (HOC.out.o a ha) hk7 (fun k hk e => own_ne (HOC.out.o a ha) RB (by decide) k hk (Option.some.inj e).symm), HOC.out.d⟩
     have hown7 := map_kp hown9 hk7 (fun e => rw_map RB hown9 (Option.some.inj e))
     replace R3 : Rw w7 (w.heap.size + 2) 27 _ := (hk7 _ R3.lt (fun e => by have := Option.some.inj e; omega)).trans R3
     clear hown9 hk7 hbs6 hB6
     go_wp2_with (first | rw [hW] | refine load_r 67 _ rfl rfl _ rfl RB3 Tryz.underlying67 rfl size67 ?_ | (at_mapUpdate; refine wpList_mapUpdate_own _ rfl _ _ _ 111 rfl 9 67 law9 Tryz.underlying111 vE b _ _ rfl hown7 (by unfold maxLen; omega) _ _ _ rfl rfl hkey _ [] rfl ?_; intro w8 hown8 hg8))
     clear hW g0 f0 g2 f2 RB RB2
     have HDN : Hid (MapIs (D.put (.string (bs s)) (.held (.agg #[.string s, .bool ym.b, .slice p6 l5.length c6]))) (A ++ (⟨s, ym.b, l5⟩, .slice p6 l5.length c6) :: C)) := by
      have h2 := hD.put (⟨s, ym.b, l5⟩, .slice p6 l5.length c6)
      rw [putV_mid (y := (ym, .slice py ym.ms.length cy)) HYT.out hA hC] at h2
      exact h2
     have hOB8 := HOC.out.turned hown7 hg8
     replace R3 := R3.turned hown7 hg8
     replace hb7 := hb7.grown hg8 hb7.size (fun j hj => by cases hj; omega)
     have HNY : Hid ((A ++ (⟨s, ym.b, l5⟩, .slice p6 l5.length c6) :: C).map (·.1) = (addL x.mb s ⟨q, u, idx⟩)) := by
      show _ = _
      unfold addL
      rw [HADD.out, ← HMS.out]
      simp only [List.map_append, List.map_cons]
      rw [putL_mid (y := ym) (z := ⟨s, ym.b, l5⟩) HYT.out (map_all (P := fun a => tx a < bs s) hA) (map_all (P := fun a => bs s < tx a) hC)]
     have CC := cellOf_any b _ _ _ w8 hown8 HDN.out (by omega) hOB8.has (fun y hy => ?_) ?_
     rotate_left
     ·have h3 : y.1 ∈ (addL x.mb s ⟨q, u, idx⟩) := by rw [← HNY.out]; exact List.mem_map_of_mem hy
      exact HTX.out _ h3
     ·have h3 : (A ++ (⟨s, ym.b, l5⟩, .slice p6 l5.length c6) :: C).length = (addL x.mb s ⟨q, u, idx⟩).length := by rw [← HNY.out, List.length_map]
      rw [h3]
      have := HLE.out
      omega
     rw [HNY.out] at CC
     clear HNY HDN HADD HMS hown8 hown7 hOB8 HOC hg8 hD RB3 HTX HLE
     go_wp2_with fail
     refine CC.mono ?_
     rintro e w9 ⟨ua, uw, um, ue, rfl, hf, hb9⟩
     obtain ⟨na, ea, nw, ew, nm, em, ne, ee, rfl, rfl, rfl, rfl⟩ := hf.slices
     replace R3 := R3.later hb9
     replace hb7 := below_on hb7 hb9
     clear CC
     have e := HQ2.out.symm
     subst e
     go_wp2_with (first | refine store_r rfl 27 _ _ rfl _ (cvc 4 0 (.slice na 0 ea) (.slice nw 0 ew) (.slice nm (addL x.mb s ⟨q, u, idx⟩).length em) (.slice ne 0 ee)) rfl rfl R3 size27 rfl (by simp [Value.oneCell']) ?_)
     refine bodyPost_ret (results_r rfl rfl (R3.row _) rfl Tryz.underlying27 size27) rfl ?_
     exact ⟨_, _, _, _, rfl, four4_row hf R3 _, below_setRow hb7 (by omega) _⟩
   ·have hsx' : (64 : Int) < (s.size : Int) := by omega
    have e := HQ.out
    rw [show (true && (true && decide (s.size ≤ 64))) = false by simp [hsx], if_neg (by decide)] at e
    have e := e.symm
    subst e
    go_wp2_with (first | refine load_r 27 _ rfl rfl _ rfl R4 Tryz.underlying27 rfl size27 ?_ | refine store_r rfl 27 _ _ rfl _ (cvc x.k x.b (.slice qa x.am.length da) (.slice qw x.wr.length dw) (.slice qm x.mb.length dx) (.slice qe x.el.length de)) rfl rfl R3 size27 rfl (by simp [Value.oneCell']) ?_)
    refine bodyPost_ret (results_r rfl rfl (R3.row (cvc x.k x.b (.slice qa x.am.length da) (.slice qw x.wr.length dw) (.slice qm x.mb.length dx) (.slice qe x.el.length de))) rfl Tryz.underlying27 size27) rfl ?_
    exact ⟨_, _, _, _, rfl, (ho2.row (by omega) R3 (cvc x.k x.b (.slice qa x.am.length da) (.slice qw x.wr.length dw) (.slice qm x.mb.length dx) (.slice qe x.el.length de))).four, below_setRow hbs (by omega) _⟩
end Go.Proofs.YtjbbmcommnhgeaaGreat.Os
/- Fold of package orset. -/
namespace Go.Proofs.YtjbbmcommnhgeaaGreat.Os
open Go.RowKit Go.Sort
theorem four_zero {w w' : World} {x : X} {va vw vm ve : Value} (h : Four w x va vw vm ve) (h1 : x.am.length = 0) (h2 : x.wr.length = 0) (h3 : x.el.length = 0) {vm' : Value} {l : List Mb} (hm : BHas w' vm' l) : Four w' { x with mb := l } va vw vm' ve := by
 obtain ⟨k, b, am, wr, mb, el⟩ := x
 obtain rfl := List.eq_nil_of_length_eq_zero h1
 obtain rfl := List.eq_nil_of_length_eq_zero h2
 obtain rfl := List.eq_nil_of_length_eq_zero h3
 obtain ⟨ha, ht, _, ⟨es, e3, e4, _⟩⟩ := h
 obtain rfl := List.map_eq_nil_iff.1 e3
 exact ⟨SHas.zero ha, SHas.zero ht, hm, ⟨[], rfl, SHas.zero e4, fun _ h => by cases h⟩⟩
end Go.Proofs.YtjbbmcommnhgeaaGreat.Os
/- Tame, where what was drawn is told too. Nothing of one program. -/
namespace Go.Proofs.YtjbbmcommnhgeaaGreat.Tam2
open Go.RowKit
/-- What was there stays, and what was drawn was drawn. -/
def Bl (w w' : World) : Prop := Below w.heap.size w w' ∧ w.drawn ≤ w'.drawn
theorem Bl.refl (w : World) : Bl w w := ⟨Below.refl _ _, Nat.le_refl _⟩
theorem Bl.on {u w v : World} (h : Bl u w) (k : Bl w v) : Bl u v := ⟨h.1.trans (k.1.mono h.1.size), Nat.le_trans h.2 k.2⟩
def Stays (S : World → Prop) : Prop := ∀ w w', S w → Bl w w' → S w'
section
variable {P : Program} {ops : Array Oper} {Q : Exit → Act → World → Prop} {md : Region.Mode} {S : World → Prop} {T : Value → World → Prop} {K : Act → Prop}
/-- What is run comes to a value of V, by itself or by a call, and leaves the memory that was there alone. -/
def Goes (P : Program) (S : World → Prop) (T : Value → World → Prop) (V : Value → Prop) (o : Oper) (a : Act) : Prop :=
 ∀ w, S w → (∀ t, Operand.tmp t ∈ o.op.operands → T (a.eval (.tmp t)) w) → match (execOp a.eval o).run P w with
 | .ok (.value u) w' => V u ∧ T u w' ∧ Bl w w'
 | .ok (.enter f args) w' => Calls P f args w' fun e w'' => ∃ u, e = .returned u ∧ V u ∧ T u w'' ∧ Bl w w''
 | _ => False
def Tame (P : Program) (ops : Array Oper) (S : World → Prop) (T : Value → World → Prop) (o : Oper) (V : Value → Prop) (a : Act) : Prop :=
 (Region.wanted o (yielded ops a.tmps) = true ∧ Goes P S T V o a) ∨ (Region.wanted o (yielded ops a.tmps) = false ∧ V undef)
theorem Tame.of_put {o : Oper} {V : Value → Prop} {a : Act} (hs : ∀ cs b, o.op ≠ .select cs b) (dst : Option Tmp) (v : Value) (h : ∀ d, dst = some d → d ∉ o.looksAt ops) :
  Tame P ops S T o V (a.put dst v) ↔ Tame P ops S T o V a := by
 have hx : ∀ t, Operand.tmp t ∈ o.op.operands → (a.put dst v).eval (.tmp t) = a.eval (.tmp t) := fun t ht => Act.eval_put fun d hd hxd => h d hd (by
  cases hxd
  exact List.mem_append_left _ (List.mem_filterMap.2 ⟨.tmp t, by simpa using ht, rfl⟩))
 unfold Tame Goes
 rw [execOp_put o hs a dst v h, wanted_put o a dst v h]
 have e : ∀ w, (∀ t, Operand.tmp t ∈ o.op.operands → T ((a.put dst v).eval (.tmp t)) w) ↔ (∀ t, Operand.tmp t ∈ o.op.operands → T (a.eval (.tmp t)) w) := fun w =>
  ⟨fun H t ht => by have := H t ht; rwa [hx t ht] at this, fun H t ht => by rw [hx t ht]; exact H t ht⟩
 simp only [e]
/-- All values at hand are known. -/
def Known (T : Value → World → Prop) (a : Act) (w : World) : Prop := ∀ t, T (a.tmps.getD t undef) w
theorem Known.put {a : Act} {w w' : World} (hT : ∀ v w w', T v w → Bl w w' → T v w') (h : Known T a w) (hb : Bl w w') (dst : Option Tmp) {u : Value} (hu : T u w') : Known T (a.put dst u) w' := by
 intro t
 cases dst with
 | none => exact hT _ _ _ (h t) hb
 | some d =>
  by_cases hd : d = t
  ·subst hd
   simp only [Act.put, Array.getD_eq_getD_getElem?]
   rcases Nat.lt_or_ge d a.tmps.size with hlt | hge
   ·simp [hlt]; exact hu
   ·have := hT _ _ _ (h d) hb
    simpa [Array.getD_eq_getD_getElem?, hge] using this
  ·simp only [Act.put, Array.getD_eq_getD_getElem?, Array.getElem?_setIfInBounds_ne hd]
   have := hT _ _ _ (h t) hb
   simpa [Array.getD_eq_getD_getElem?] using this
theorem Tame.wpOp {i : Nat} {o : Oper} {V : Value → Prop} {a : Act} (hi : ops[i]? = some o) (hy : Tame P ops S T o V a) (hS : Stays S) (hT : ∀ v w w', T v w → Bl w w' → T v w') (h0 : ∀ w, T undef w)
  {K : Act → World → Prop} {w : World} (hw : S w) (hk : Known T a w) (h : ∀ v w', V v → S w' → Known T (a.put o.dst v) w' → K (a.put o.dst v) w') : Go.wpOp P ops Q i K a w := by
 unfold Go.wpOp
 simp only [hi]
 rcases hy with ⟨hwd, hv⟩ | ⟨hwd, hv⟩
 ·simp only [hwd, if_true, Oper.wp]
  refine .inl ?_
  have hv' := hv w hw (fun t _ => hk t)
  generalize (execOp a.eval o).run P w = r at hv'
  cases r with
  | ok n w' =>
   cases n <;> simp only at hv' ⊢
   case value u => exact h _ _ hv'.1 (hS _ _ hw hv'.2.2) (hk.put hT hv'.2.2 _ hv'.2.1)
   case enter f args =>
    refine Calls.mono hv' fun e w'' he => ?_
    obtain ⟨u, rfl, h1, h2, h3⟩ := he
    exact h _ _ h1 (hS _ _ hw h3) (hk.put hT h3 _ h2)
  | halt x w' => exact hv'.elim
 ·simp only [hwd, Bool.false_eq_true, if_false]
  exact h _ _ hv hw (hk.put hT (Bl.refl _) _ (h0 w))
/-- The acts of A, with whatever value of V behind the operation. -/
def putS (A : Act → Prop) (o : Oper) (V : Value → Prop) : Act → Prop := fun a' => ∃ a v, A a ∧ V v ∧ a' = a.put o.dst v
theorem putS_comm {A : Act → Prop} {x y : Oper} {V W : Value → Prop} (h : ∀ d, x.dst = some d → y.dst ≠ some d) : putS (putS A x V) y W = putS (putS A y W) x V := by
 funext a'
 apply propext
 constructor
 ·rintro ⟨_, u, ⟨a, v, ha, hv, rfl⟩, hu, rfl⟩
  exact ⟨_, v, ⟨a, u, ha, hu, rfl⟩, hv, Act.put_comm a v u h⟩
 ·rintro ⟨_, v, ⟨a, u, ha, hu, rfl⟩, hv, rfl⟩
  exact ⟨_, u, ⟨a, v, ha, hv, rfl⟩, hu, (Act.put_comm a v u h).symm⟩
def anyTame (P : Program) (md : Region.Mode) (ops : Array Oper) (S : World → Prop) (T : Value → World → Prop) (K : Act → Prop) : Nat → Array Bool → (Act → Prop) → Prop
 | 0, listed, A => Region.ready md ops listed = [] ∧ ∀ a, A a → K a
 | fuel + 1, listed, A =>
  (Region.ready md ops listed = [] → ∀ a, A a → K a) ∧
  ∀ i ∈ Region.ready md ops listed, ∃ o V, ops[i]? = some o ∧ (∃ v, V v) ∧ (∀ a, A a → Tame P ops S T o V a) ∧ anyTame P md ops S T K fuel (listed.setIfInBounds i true) (putS A o V)
theorem wpAny_of_tame (hS : Stays S) (hT : ∀ v w w', T v w → Bl w w' → T v w') (h0 : ∀ w, T undef w) (hK : ∀ a w, K a → S w → Known T a w → Q .normal a w) :
  ∀ (fuel : Nat) (listed : Array Bool) (A : Act → Prop) (a : Act) (w : World), A a → S w → Known T a w → anyTame P md ops S T K fuel listed A → wpAny P md ops Q fuel listed a w
 | 0, _, A, a, w, hA, hw, hk, h => ⟨h.1, hK a w (h.2 a hA) hw hk⟩
 | fuel + 1, _, A, a, w, hA, hw, hk, h => ⟨fun hr => hK a w (h.1 hr a hA) hw hk, fun i hi => by
   obtain ⟨o, V, ho, _, hc, hr⟩ := h.2 i hi
   exact (hc a hA).wpOp ho hS hT h0 hw hk fun v w' hv hw' hk' => wpAny_of_tame hS hT h0 hK fuel _ _ _ w' ⟨a, v, hA, hv, rfl⟩ hw' hk' hr⟩
theorem anyTame_first {i : Nat} {oi : Oper} {V : Value → Prop} (hi : ops[i]? = some oi) (hV : ∃ v, V v) (hsel : ∀ (j : Nat) (o : Oper) cs b, ops[j]? = some o → o.op ≠ .select cs b) :
  ∀ (fuel : Nat) (listed : Array Bool) (A : Act → Prop),
   (∀ j oj, ops[j]? = some oj → j ≠ i → listed.getD j true = false → (∀ e ∈ oj.after, Region.binds md e = true → e.on ≠ i) → oi.apart ops oj = true) →
   i ∈ Region.ready md ops listed → (∀ a, A a → Tame P ops S T oi V a) →
   anyTame P md ops S T K fuel (listed.setIfInBounds i true) (putS A oi V) → anyTame P md ops S T K (fuel + 1) listed A := by
 intro fuel
 induction fuel with
 | zero =>
  intro listed A _ hr hy H
  refine ⟨fun h => (by rw [h] at hr; cases hr), fun j hj => ?_⟩
  by_cases hji : j = i
  ·subst hji; exact ⟨oi, V, hi, hV, hy, H⟩
  ·have := ready_mono hj hji
   rw [H.1] at this
   cases this
 | succ fuel ih =>
  intro listed A hfree hr hy H
  refine ⟨fun h => (by rw [h] at hr; cases hr), fun j hj => ?_⟩
  by_cases hji : j = i
  ·subst hji; exact ⟨oi, V, hi, hV, hy, H⟩
  ·obtain ⟨oj, W, hoj, hW, hcj, hrest⟩ := H.2 j (ready_mono hj hji)
   obtain ⟨hjun, oj', hoj', hall⟩ := mem_ready.1 hj
   obtain rfl : oj = oj' := by rw [hoj] at hoj'; exact Option.some.inj hoj'
   have hnot : ∀ e ∈ oj.after, Region.binds md e = true → e.on ≠ i := fun e he hb heq => by
    have h1 := hall e he hb
    have h0 := (mem_ready.1 hr).1
    rw [heq] at h1
    rcases Nat.lt_or_ge i listed.size with h' | h'
    ·simp [h'] at h0 h1; rw [h0] at h1; cases h1
    ·simp [Array.getElem?_eq_none h'] at h1
   obtain ⟨h1, h2, h3⟩ := Oper.apart_spec (hfree j oj hoj hji hjun hnot)
   have hfree' : ∀ k ok, ops[k]? = some ok → k ≠ i → (listed.setIfInBounds j true).getD k true = false →
     (∀ e ∈ ok.after, Region.binds md e = true → e.on ≠ i) → oi.apart ops ok = true := fun k ok hk hki hun hno => by
    refine hfree k ok hk hki ?_ hno
    by_cases hjk : j = k
    ·subst hjk; exact hjun
    ·rw [getD_set_ne true hjk] at hun; exact hun
   obtain ⟨v0, hv0⟩ := hV
   refine ⟨oj, W, hoj, hW, fun a ha => (Tame.of_put (fun cs b => hsel j oj cs b hoj) oi.dst v0 h1).1 (hcj _ ⟨a, v0, ha, hv0, rfl⟩), ?_⟩
   refine ih (listed.setIfInBounds j true) (putS A oj W) hfree' (ready_mono hr (Ne.symm hji)) ?_ ?_
   ·rintro _ ⟨a, u, ha, _, rfl⟩
    exact (Tame.of_put (fun cs b => hsel i oi cs b hi) oj.dst u h3).2 (hy a ha)
   ·rw [Array.setIfInBounds_comm _ _ hji, ← putS_comm h2]
    exact hrest
/-- In the text's order. -/
def tameList (P : Program) (ops : Array Oper) (S : World → Prop) (T : Value → World → Prop) (K : Act → Prop) : List Oper → (Act → Prop) → Prop
 | [], A => ∀ a, A a → K a
 | o :: l, A => ∃ V, (∃ v, V v) ∧ (∀ a, A a → Tame P ops S T o V a) ∧ tameList P ops S T K l (putS A o V)
theorem anyTame_lex (hs : Region.noSelect ops = true) : ∀ (l : List Oper) (k : Nat) (listed : Array Bool) (A : Act → Prop), (∀ j, l[j]? = ops[k + j]?) →
  Region.lexFrom md ops l.length k listed = true → tameList P ops S T K l A → anyTame P md ops S T K l.length listed A
 | [], _, _, _, _, hB, h => ⟨by simpa [Region.lexFrom] using hB, h⟩
 | o :: l, k, listed, A, hl, hB, h => by
  have h0 : ops[k]? = some o := by simpa using (hl 0).symm
  simp only [List.length_cons, Region.lexFrom, Bool.and_eq_true] at hB
  obtain ⟨⟨hr, hf⟩, hB'⟩ := hB
  obtain ⟨V, hV, hy, hK⟩ := h
  exact anyTame_first h0 hV (Region.noSelect_spec hs) l.length listed A (Region.free_spec h0 hf) (by simpa using hr) hy
   (anyTame_lex hs l (k + 1) _ _ (fun j => by have := hl (j + 1); simpa [Nat.add_assoc, Nat.add_comm 1 j] using this) hB' hK)
/-- The acts f p, p of G. -/
def fam {E : Type} (G : E → Prop) (f : E → Act) : Act → Prop := fun a => ∃ p, G p ∧ a = f p
theorem region {id : Nat} {a : Act} {w : World} {l : List Oper} (hm : P.follows .mixedOrders = true) (hB : Region.lexB .any l.toArray = true) (S : World → Prop) (T : Value → World → Prop)
  (hS : Stays S) (hT : ∀ v w w', T v w → Bl w w' → T v w') (h0 : ∀ w, T undef w) (hw : S w.drew) (hk : Known T a w.drew)
  (h : tameList P l.toArray S T (fun a' => ∀ w', S w' → Q .normal a' w') l (fam (fun _ : Unit => True) fun _ => a)) : (Code.region id l.toArray true).wp P Q a w := by
 simp only [Region.lexB, Bool.and_eq_true] at hB
 refine wp_region_any hm (wpAny_of_tame (K := fun a' => ∀ w', S w' → Q .normal a' w') hS hT h0 (fun a w h hS _ => h w hS) _ _ (fam (fun _ : Unit => True) fun _ => a) _ _ ⟨(), trivial, rfl⟩ hw hk ?_)
 have := anyTame_lex (md := .any) hB.1 l 0 (Array.replicate l.toArray.size false) _ (by simp) (by simpa using hB.2) h
 simpa using this
/-! The moves, on acts f p. -/
variable {E : Type} {G : E → Prop} {f : E → Act}
theorem tameList_sub : ∀ (l : List Oper) {A B : Act → Prop}, (∀ a, A a → B a) → tameList P ops S T K l B → tameList P ops S T K l A
 | [], _, _, h, hB => fun a ha => hB a (h a ha)
 | _ :: l, _, _, h, ⟨V, hV, hy, hr⟩ => ⟨V, hV, fun a ha => hy a (h a ha), tameList_sub l (fun _ ⟨a, v, ha, hv, e⟩ => ⟨a, v, h a ha, hv, e⟩) hr⟩
theorem fixed {o : Oper} {l : List Oper} (v : Value) (hy : ∀ p, G p → Tame P ops S T o (· = v) (f p)) (h : tameList P ops S T K l (fam G fun p => (f p).put o.dst v)) : tameList P ops S T K (o :: l) (fam G f) :=
 ⟨(· = v), ⟨v, rfl⟩, fun _ ⟨p, hp, e⟩ => e ▸ hy p hp, tameList_sub l (fun _ ⟨_, _, ⟨p, hp, e⟩, hv, e'⟩ => ⟨p, hp, by rw [e', e, hv]⟩) h⟩
theorem fresh {o : Oper} {l : List Oper} (V : Value → Prop) (hV : ∃ v, V v) (hy : ∀ p, G p → Tame P ops S T o V (f p)) (h : tameList P ops S T K l (fam (fun q : E × Value => G q.1 ∧ V q.2) fun q => (f q.1).put o.dst q.2)) : tameList P ops S T K (o :: l) (fam G f) :=
 ⟨V, hV, fun _ ⟨p, hp, e⟩ => e ▸ hy p hp, tameList_sub l (fun _ ⟨_, v, ⟨p, hp, e⟩, hv, e'⟩ => ⟨(p, v), ⟨hp, hv⟩, by rw [e', e]⟩) h⟩
theorem done (h : ∀ p, G p → K (f p)) : tameList P ops S T K [] (fam G f) := fun _ ⟨p, hp, e⟩ => e ▸ h p hp
theorem skip {o : Oper} {l : List Oper} (hw : ∀ p, Region.wanted o (yielded ops (f p).tmps) = false) (h : tameList P ops S T K l (fam G fun p => (f p).put o.dst undef)) : tameList P ops S T K (o :: l) (fam G f) :=
 fixed undef (fun p _ => .inr ⟨hw p, rfl⟩) h
/-- An operation that comes to one value, and leaves the world as it is. -/
theorem pure {o : Oper} {l : List Oper} {v : Value} (hw : ∀ p, Region.wanted o (yielded ops (f p).tmps) = true) (hv : ∀ p, G p → ∀ w, S w → (execOp (f p).eval o).run P w = .ok (.value v) w) (hT : ∀ w, T v w)
  (h : tameList P ops S T K l (fam G fun p => (f p).put o.dst v)) : tameList P ops S T K (o :: l) (fam G f) :=
 fixed v (fun p hp => .inl ⟨hw p, fun w hS _ => by rw [hv p hp w hS]; exact ⟨rfl, hT w, Bl.refl _⟩⟩) h
theorem enter1 {o : Oper} {fn : FuncId} {ts : Array TypeId} {x : E → Value} {u : Operand}
  (ho : o.op = .call { callee := .value (.func fn), args := #[u], argTypes := ts }) (hu : ∀ p, (f p).eval u = x p) (hf : Calm.enters P fn = true) (p : E) (w : World) :
  (execOp (f p).eval o).run P w = .ok (.enter fn #[x p]) w := by
 have e : ∀ args, (callFunc fn args).run P w = .ok (.enter fn args) w := fun args => Calm.enters_run hf args w
 rw [← hu p]
 unfold execOp
 simp [ho, go_sem, Act.eval, e]
theorem call1 {o : Oper} {l : List Oper} {r : Value} {fn : FuncId} {ts : Array TypeId} {x : E → Value} {u : Operand} (hw : ∀ p, Region.wanted o (yielded ops (f p).tmps) = true)
  (ho : o.op = .call { callee := .value (.func fn), args := #[u], argTypes := ts }) (hu : ∀ p, (f p).eval u = x p) (hf : Calm.enters P fn = true) (hT : ∀ w, T r w)
  (hc : ∀ p w, G p → S w → (∀ t, Operand.tmp t ∈ o.op.operands → T ((f p).eval (.tmp t)) w) → Calls P fn #[x p] w fun e w' => e = .returned r ∧ Bl w w')
  (h : tameList P ops S T K l (fam G fun p => (f p).put o.dst r)) : tameList P ops S T K (o :: l) (fam G f) :=
 fixed r (fun p hp => .inl ⟨hw p, fun w hS ht => by
  rw [enter1 ho hu hf p w]
  exact (hc p w hp hS ht).mono fun e w' he => ⟨r, he.1, rfl, hT w', he.2⟩⟩) h
theorem enter2 {o : Oper} {fn : FuncId} {ts : Array TypeId} {x y : E → Value} {u v : Operand}
  (ho : o.op = .call { callee := .value (.func fn), args := #[u, v], argTypes := ts }) (hu : ∀ p, (f p).eval u = x p) (hv : ∀ p, (f p).eval v = y p) (hf : Calm.enters P fn = true) (p : E) (w : World) :
  (execOp (f p).eval o).run P w = .ok (.enter fn #[x p, y p]) w := by
 have e : ∀ args, (callFunc fn args).run P w = .ok (.enter fn args) w := fun args => Calm.enters_run hf args w
 rw [← hu p]; rw [← hv p]
 unfold execOp
 simp [ho, go_sem, Act.eval, e]
theorem call2 {o : Oper} {l : List Oper} {r : Value} {fn : FuncId} {ts : Array TypeId} {x y : E → Value} {u v : Operand} (hw : ∀ p, Region.wanted o (yielded ops (f p).tmps) = true)
  (ho : o.op = .call { callee := .value (.func fn), args := #[u, v], argTypes := ts }) (hu : ∀ p, (f p).eval u = x p) (hv : ∀ p, (f p).eval v = y p) (hf : Calm.enters P fn = true) (hT : ∀ w, T r w)
  (hc : ∀ p w, G p → S w → (∀ t, Operand.tmp t ∈ o.op.operands → T ((f p).eval (.tmp t)) w) → Calls P fn #[x p, y p] w fun e w' => e = .returned r ∧ Bl w w')
  (h : tameList P ops S T K l (fam G fun p => (f p).put o.dst r)) : tameList P ops S T K (o :: l) (fam G f) :=
 fixed r (fun p hp => .inl ⟨hw p, fun w hS ht => by
  rw [enter2 ho hu hv hf p w]
  exact (hc p w hp hS ht).mono fun e w' he => ⟨r, he.1, rfl, hT w', he.2⟩⟩) h
end
end Go.Proofs.YtjbbmcommnhgeaaGreat.Tam2
/- The order of rising: cmp.Or of two comparisons; the closure of package seq that slices.SortFunc calls. -/
namespace Go.Proofs.YtjbbmcommnhgeaaGreat
open Go.RowKit
/-- The first of two that is not zero. -/
def or2 (a b : Int) : Int := if a ≠ 0 then a else b
/-- A slice of two ints. -/
def Two (w : World) (v : Value) (a b : Int) : Prop := ∃ g, v = .slice (some ⟨g, 0, none⟩) 2 2 ∧ Rw w g 3 #[.int .i64 a, .int .i64 b]
theorem Two.later {w w' : World} {v : Value} {a b : Int} (h : Two w v a b) (hb : Below w.heap.size w w') : Two w' v a b := by
 obtain ⟨g, e, h⟩ := h
 exact ⟨g, e, h.later hb⟩
set_option maxRecDepth 100000 in
theorem or2_any (v : Value) (a b : Int) (w : World) (h : Two w v a b) : Calls Tryz.prog 137 #[v] w (Leaves (.int .i64 (or2 a b)) w) := by
 obtain ⟨g, rfl, hr⟩ := h
 have c0 : w.cell? ⟨g, 0, none⟩ = some (.int .i64 a) := hr.cell 0
 have c1 : w.cell? ⟨g, 1, none⟩ = some (.int .i64 b) := hr.cell 1
 clear hr
 obtain ⟨z, HZ⟩ : ∃ z, Hid (or2 a b = z) := ⟨_, rfl⟩
 rw [HZ.out]
 go_enter Tryz.func137, Tryz.ntmps137
 go_wp2
 go_loopw [8] (fun vi wr => ∃ k : Nat, vi = .int .i64 k ∧ k ≤ 2 ∧ wr = w ∧ Hid ((1 ≤ k → a = 0) ∧ (2 ≤ k → b = 0))) (fun vi _ => 2 - (intOf vi).toNat)
 case atStart => exact ⟨0, rfl, by omega, rfl, (show _ ∧ _ from ⟨fun h => by omega, fun h => by omega⟩)⟩
 case round =>
  obtain ⟨k, rfl, hk, rfl, HV⟩ := hrel
  have hk3 : k = 0 ∨ k = 1 ∨ k = 2 := by omega
  have hv := HV.out
  rcases hk3 with rfl | rfl | rfl
  ·by_cases hx : a = 0
   ·have HV2 : Hid ((1 ≤ 1 → a = 0) ∧ (2 ≤ 1 → b = 0)) := (show _ ∧ _ from ⟨fun _ => by omega, fun _ => by omega⟩)
    clear hv HV
    rw [hx] at c0
    have HX : Hid (a = 0) := hx
    clear hx
    go_wp2
    go_roundw
    case rel => exact ⟨1, by simp, by omega, by trivial, HV2⟩
    case measure => simp [intOf]
   ·have HR : Hid (z = a) := by
     have e := HZ.out
     unfold or2 at e
     show z = _
     rw [← e]
     rw [if_pos (by omega)]
    clear hv HV HZ
    go_wp2
    go_ret
    exact ⟨by rw [HR.out]; rfl, rfl⟩
  ·by_cases hx : b = 0
   ·have HV2 : Hid ((1 ≤ 2 → a = 0) ∧ (2 ≤ 2 → b = 0)) := (show _ ∧ _ from ⟨fun _ => by omega, fun _ => by omega⟩)
    clear hv HV
    rw [hx] at c1
    have HX : Hid (b = 0) := hx
    clear hx
    go_wp2
    go_roundw
    case rel => exact ⟨2, by simp, by omega, by trivial, HV2⟩
    case measure => simp [intOf]
   ·have HR : Hid (z = b) := by
     have e := HZ.out
     unfold or2 at e
     show z = _
     rw [← e]
     rw [if_neg (by omega)]
    clear hv HV HZ
    go_wp2
    go_ret
    exact ⟨by rw [HR.out]; rfl, rfl⟩
  ·have HR : Hid (z = 0) := by
    have e := HZ.out
    unfold or2 at e
    show z = _
    rw [← e, if_neg (by omega)]
    omega
   clear hv HV HZ
   go_wp2
   go_ret
   exact ⟨by rw [HR.out]; rfl, rfl⟩
/-- What is known of a value: it is no slice, or the elements, or it holds the two. -/
def T2 (L : Value) (a b : Int) (v : Value) (w : World) : Prop := nosl v = true ∨ v = L ∨ Two w v a b
/-- A new slice of two. -/
def nw2 (B : Nat) (v : Value) : Prop := ∃ g, B ≤ g ∧ v = .slice (some ⟨g, 0, none⟩) 2 2
theorem nw2_two {w : World} {B g o n c : Nat} {v : Value} {a b : Int} (hg : g < B) (h : nw2 B v) (ht : T2 (.slice (some ⟨g, o, none⟩) n c) a b v w) : Two w v a b := by
 obtain ⟨g', hB, rfl⟩ := h
 rcases ht with h' | h' | h'
 ·cases h'
 ·simp only [Value.slice.injEq, Option.some.injEq, Addr.mk.injEq] at h'
  omega
 ·exact h'
theorem T2.later {L : Value} {a b : Int} (v : Value) (w w' : World) (h : T2 L a b v w) (hb : Tam2.Bl w w') : T2 L a b v w' := by
 rcases h with h | h | h
 ·exact Or.inl h
 ·exact Or.inr (Or.inl h)
 ·exact Or.inr (Or.inr (h.later hb.1))
theorem build_two {o : Oper} {ac : Act} {x y : Operand} {a b : Int} (ho : o.op = .buildSlice 129 2 #[(0, x), (1, y)]) (hx : ac.eval x = .int .i64 a) (hy : ac.eval y = .int .i64 b) (w : World) :
  (execOp ac.eval o).run Tryz.prog w = .ok (.value (.slice (some ⟨w.heap.size, 0, none⟩) 2 2)) (w.alloc (.cells #[.int .i64 a, .int .i64 b] 3)) := by
 unfold execOp
 generalize ac.eval = ρ at hx hy
 simp [ho, hx, hy, go_sem]
theorem known_all2 {L : Value} {a b : Int} {ac : Act} (h : ac.tmps.toList.all nosl = true) (w : World) : Tam2.Known (T2 L a b) ac w := by
 intro t
 refine .inl ?_
 rw [Array.getD_eq_getD_getElem?]
 rcases Nat.lt_or_ge t ac.tmps.size with hlt | hge
 ·rw [Array.getElem?_eq_getElem hlt]
  exact List.all_eq_true.1 h _ (by simp)
 ·rw [Array.getElem?_eq_none hge]
  rfl
set_option maxHeartbeats 2000000 in
set_option maxRecDepth 100000 in
theorem rising1_any (x y : Nat) (bl g o n c : Nat) (ta tb : Int) (w : World) (hx : 1 ≤ x ∧ x ≤ n) (hy : 1 ≤ y ∧ y ≤ n) (hn : n ≤ 100) (cl : w.cell? ⟨bl, 0, none⟩ = some (.slice (some ⟨g, o, none⟩) n c)) (hg : g < w.heap.size)
  (ca : w.cell? ⟨g, o + (x - 1) * 9 + 3, none⟩ = some (.int .i64 ta)) (cb : w.cell? ⟨g, o + (y - 1) * 9 + 3, none⟩ = some (.int .i64 tb)) :
  Calls Tryz.prog 245 #[.int .i64 x, .int .i64 y, .pointer (some ⟨bl, 0, none⟩)] w (fun e w' => e = .returned (.int .i64 (or2 (cmpI ta tb) (cmpI x y))) ∧ Tam2.Bl w w') := by
 have C1 : ∀ w, Calls Tryz.prog 138 #[.int .i64 ta, .int .i64 tb] w (fun e w' => e = .returned (.int .i64 (cmpI ta tb)) ∧ Tam2.Bl w w') := fun w => (compare_any ta tb w).mono fun e w' ⟨he, hw⟩ => ⟨he, by rw [hw]; exact Tam2.Bl.refl _⟩
 have C2 : ∀ w, Calls Tryz.prog 138 #[.int .i64 (x : Int), .int .i64 (y : Int)] w (fun e w' => e = .returned (.int .i64 (cmpI x y)) ∧ Tam2.Bl w w') := fun w => (compare_any x y w).mono fun e w' ⟨he, hw⟩ => ⟨he, by rw [hw]; exact Tam2.Bl.refl _⟩
 generalize cmpI ta tb = a at C1 ⊢
 generalize cmpI (x : Int) (y : Int) = b at C2 ⊢
 have C4 : ∀ v w, Two w v a b → Calls Tryz.prog 137 #[v] w (fun e w' => e = .returned (.int .i64 (or2 a b)) ∧ Tam2.Bl w w') := fun v w h => (or2_any v a b w h).mono fun e w' ⟨he, hw⟩ => ⟨he, by rw [hw]; exact Tam2.Bl.refl _⟩
 generalize or2 a b = r at C4 ⊢
 obtain ⟨x1, hx1⟩ : ∃ x1 : Nat, x = x1 + 1 := ⟨x - 1, by omega⟩
 obtain ⟨y1, hy1⟩ : ∃ y1 : Nat, y = y1 + 1 := ⟨y - 1, by omega⟩
 have ex : IntKind.i64.wrap ((x : Int) - 1) = (x1 : Int) := by rw [IntKind.wrap_i64]; omega
 have ey : IntKind.i64.wrap ((y : Int) - 1) = (y1 : Int) := by rw [IntKind.wrap_i64]; omega
 have hx2 : (0 : Int) ≤ (x1 : Int) ∧ (x1 : Int) < (n : Int) := by omega
 have hy2 : (0 : Int) ≤ (y1 : Int) ∧ (y1 : Int) < (n : Int) := by omega
 have ex2 : IntKind.i64.wrap (x1 : Int) = (x1 : Int) := by rw [IntKind.wrap_i64]; omega
 have ey2 : IntKind.i64.wrap (y1 : Int) = (y1 : Int) := by rw [IntKind.wrap_i64]; omega
 have hx3 := hx2.1
 have hx4 := hx2.2
 have hy3 := hy2.1
 have hy4 := hy2.2
 rw [show x - 1 = x1 by omega] at ca
 rw [show y - 1 = y1 by omega] at cb
 generalize (x : Int) = X at C2 ex hx ⊢
 generalize (y : Int) = Y at C2 ey hy ⊢
 clear hx hy
 go_enter Tryz.func245, Tryz.ntmps245
 go_wp2_with fail
 refine Tam2.region (by kernel_rfl) (by kernel_rfl) (fun w' => w'.cell? ⟨bl, 0, none⟩ = some (.slice (some ⟨g, o, none⟩) n c) ∧ w'.cell? ⟨g, o + x1 * 9 + 3, none⟩ = some (.int .i64 ta) ∧ w'.cell? ⟨g, o + y1 * 9 + 3, none⟩ = some (.int .i64 tb) ∧ Tam2.Bl w w') (T2 (.slice (some ⟨g, o, none⟩) n c) a b)
  (fun wa wb h hb => ⟨cell_later hb.1 h.1, cell_later hb.1 h.2.1, cell_later hb.1 h.2.2.1, h.2.2.2.on hb⟩) T2.later (fun _ => .inl rfl) ⟨cl, ca, cb, ⟨(Below.refl _ _).drew, Nat.le_succ _⟩⟩ (known_all2 (by rfl) _) ?_
 clear cl ca cb
 refine Tam2.pure (v := ?_) (fun _ => by rfl) ?_ ?_ ?_
 rotate_left
 focus (intro p hp w hSw; go_simp <;> rfl)
 focus (intro w; exact .inr (.inl rfl))
 simp only [Act.put, List.setIfInBounds_toArray, List.set_cons_zero, List.set_cons_succ]
 refine Tam2.pure (v := ?_) (fun _ => by rfl) ?_ ?_ ?_
 rotate_left
 focus (intro p hp w hSw; go_simp <;> rfl)
 focus (intro w; exact .inl rfl)
 simp only [Act.put, List.setIfInBounds_toArray, List.set_cons_zero, List.set_cons_succ]
 refine Tam2.pure (v := ?_) (fun _ => by rfl) ?_ ?_ ?_
 rotate_left
 focus (intro p hp w hSw; go_simp <;> rfl)
 focus (intro w; exact .inl rfl)
 simp only [Act.put, List.setIfInBounds_toArray, List.set_cons_zero, List.set_cons_succ]
 refine Tam2.pure (v := ?_) (fun _ => by rfl) ?_ ?_ ?_
 rotate_left
 focus (intro p hp w hSw; go_simp <;> rfl)
 focus (intro w; exact .inl rfl)
 simp only [Act.put, List.setIfInBounds_toArray, List.set_cons_zero, List.set_cons_succ]
 refine Tam2.pure (v := ?_) (fun _ => by rfl) ?_ ?_ ?_
 rotate_left
 focus (intro p hp w hSw; go_simp <;> rfl)
 focus (intro w; exact .inl rfl)
 simp only [Act.put, List.setIfInBounds_toArray, List.set_cons_zero, List.set_cons_succ]
 refine Tam2.pure (v := ?_) (fun _ => by rfl) ?_ ?_ ?_
 rotate_left
 focus (intro p hp w hSw; go_simp <;> rfl)
 focus (intro w; exact .inl rfl)
 simp only [Act.put, List.setIfInBounds_toArray, List.set_cons_zero, List.set_cons_succ]
 refine Tam2.pure (v := ?_) (fun _ => by rfl) ?_ ?_ ?_
 rotate_left
 focus (intro p hp w hSw; go_simp <;> rfl)
 focus (intro w; exact .inr (.inl rfl))
 simp only [Act.put, List.setIfInBounds_toArray, List.set_cons_zero, List.set_cons_succ]
 refine Tam2.pure (v := ?_) (fun _ => by rfl) ?_ ?_ ?_
 rotate_left
 focus (intro p hp w hSw; go_simp <;> rfl)
 focus (intro w; exact .inl rfl)
 simp only [Act.put, List.setIfInBounds_toArray, List.set_cons_zero, List.set_cons_succ]
 refine Tam2.pure (v := ?_) (fun _ => by rfl) ?_ ?_ ?_
 rotate_left
 focus (intro p hp w hSw; go_simp <;> rfl)
 focus (intro w; exact .inl rfl)
 simp only [Act.put, List.setIfInBounds_toArray, List.set_cons_zero, List.set_cons_succ]
 refine Tam2.pure (v := ?_) (fun _ => by rfl) ?_ ?_ ?_
 rotate_left
 focus (intro p hp w hSw; go_simp <;> rfl)
 focus (intro w; exact .inl rfl)
 simp only [Act.put, List.setIfInBounds_toArray, List.set_cons_zero, List.set_cons_succ]
 refine Tam2.pure (v := ?_) (fun _ => by rfl) ?_ ?_ ?_
 rotate_left
 focus (intro p hp w hSw; go_simp <;> rfl)
 focus (intro w; exact .inl rfl)
 simp only [Act.put, List.setIfInBounds_toArray, List.set_cons_zero, List.set_cons_succ]
 refine Tam2.pure (v := ?_) (fun _ => by rfl) ?_ ?_ ?_
 rotate_left
 focus (intro p hp w hSw; go_simp <;> rfl)
 focus (intro w; exact .inl rfl)
 simp only [Act.put, List.setIfInBounds_toArray, List.set_cons_zero, List.set_cons_succ]
 refine Tam2.call2 (fun _ => by rfl) rfl (fun _ => rfl) (fun _ => rfl) (by kernel_rfl) (fun _ => .inl rfl) (fun _ w _ _ _ => C1 w) ?_
 simp only [Act.put, List.setIfInBounds_toArray, List.set_cons_zero, List.set_cons_succ]
 refine Tam2.pure (v := ?_) (fun _ => by rfl) ?_ ?_ ?_
 rotate_left
 focus (intro p hp w hSw; go_simp <;> rfl)
 focus (intro w; exact .inl rfl)
 simp only [Act.put, List.setIfInBounds_toArray, List.set_cons_zero, List.set_cons_succ]
 refine Tam2.pure (v := ?_) (fun _ => by rfl) ?_ ?_ ?_
 rotate_left
 focus (intro p hp w hSw; go_simp <;> rfl)
 focus (intro w; exact .inl rfl)
 simp only [Act.put, List.setIfInBounds_toArray, List.set_cons_zero, List.set_cons_succ]
 refine Tam2.call2 (fun _ => by rfl) rfl (fun _ => rfl) (fun _ => rfl) (by kernel_rfl) (fun _ => .inl rfl) (fun _ w _ _ _ => C2 w) ?_
 simp only [Act.put, List.setIfInBounds_toArray, List.set_cons_zero, List.set_cons_succ]
 refine Tam2.fresh (nw2 w.heap.size) ⟨.slice (some ⟨w.heap.size, 0, none⟩) 2 2, _, Nat.le_refl _, rfl⟩ (fun p hp => .inl ⟨by rfl, fun w' hS ht => ?_⟩) ?_
 focus (rw [build_two rfl rfl rfl w']; exact ⟨⟨_, hS.2.2.2.1.size, rfl⟩, .inr (.inr ⟨w'.heap.size, rfl, rw_new w' 3 _⟩), ⟨bel_alloc (Below.refl _ _) _, Nat.le_refl _⟩⟩)
 simp only [Act.put, List.setIfInBounds_toArray, List.set_cons_zero, List.set_cons_succ]
 refine Tam2.call1 (fun _ => by rfl) rfl (fun _ => rfl) (by kernel_rfl) (fun _ => .inl rfl) (fun p w' hp hS ht => C4 _ w' (nw2_two hg hp.2 (ht 22 (by simp [Op.operands, Call.operands])))) ?_
 simp only [Act.put, List.setIfInBounds_toArray, List.set_cons_zero, List.set_cons_succ]
 refine Tam2.pure (v := ?_) (fun _ => by rfl) ?_ ?_ ?_
 rotate_left
 focus (intro p hp w hSw; go_simp <;> rfl)
 focus (intro w; exact .inl rfl)
 simp only [Act.put, List.setIfInBounds_toArray, List.set_cons_zero, List.set_cons_succ]
 refine Tam2.done fun p hp w9 hS9 => ?_
 go_wp2
 go_ret
 exact ⟨rfl, hS9.2.2.2⟩
end Go.Proofs.YtjbbmcommnhgeaaGreat
/- slices.SortFunc at this program: what the library's contract asks. -/
namespace Go.Proofs.YtjbbmcommnhgeaaGreat
open Go.RowKit Go.Sort Go.Shelf Go.Proofs
def sortL_ren : Go.Shelf.Ren := ⟨fun | 6 => 244 | 15 => 164 | 14 => 246 | 28 => 176 | 29 => 177 | 20 => 247 | 21 => 248 | 22 => 249 | 23 => 250 | 24 => 251 | 25 => 252 | 26 => 253 | 27 => 254 | 46 => 255 | 47 => 179 | 48 => 180 | 49 => 256 | 50 => 257 | 57 => 258 | n => n, fun | 22 => 129 | 24 => 3 | 25 => 160 | 3 => 3 | 39 => 158 | 0 => 0 | 53 => 187 | 55 => 189 | 4 => 4 | 46 => 180 | 45 => 179 | 50 => 104 | 5 => 5 | 9 => 9 | 66 => 190 | 70 => 194 | 76 => 196 | 77 => 197 | n => n, fun | n => n⟩
theorem sortL : Go.Proofs.SlLaysF.n6 Tryz.prog sortL_ren := {
 mixed := by kernel_rfl
 f6 := ⟨Tryz.f244.name, by decide, Tryz.func244.trans (congrArg some (by kernel_rfl))⟩
 f14 := ⟨Tryz.f246.name, by decide, Tryz.func246.trans (congrArg some (by kernel_rfl))⟩
 f15 := Tryz.func164.trans (congrArg some (by kernel_rfl))
 f20 := ⟨Tryz.f247.name, by decide, Tryz.func247.trans (congrArg some (by kernel_rfl))⟩
 f21 := ⟨Tryz.f248.name, by decide, Tryz.func248.trans (congrArg some (by kernel_rfl))⟩
 f22 := ⟨Tryz.f249.name, by decide, Tryz.func249.trans (congrArg some (by kernel_rfl))⟩
 f23 := ⟨Tryz.f250.name, by decide, Tryz.func250.trans (congrArg some (by kernel_rfl))⟩
 f24 := ⟨Tryz.f251.name, by decide, Tryz.func251.trans (congrArg some (by kernel_rfl))⟩
 f25 := ⟨Tryz.f252.name, by decide, Tryz.func252.trans (congrArg some (by kernel_rfl))⟩
 f26 := ⟨Tryz.f253.name, by decide, Tryz.func253.trans (congrArg some (by kernel_rfl))⟩
 f27 := ⟨Tryz.f254.name, by decide, Tryz.func254.trans (congrArg some (by kernel_rfl))⟩
 f28 := Tryz.func176.trans (congrArg some (by kernel_rfl))
 f29 := Tryz.func177.trans (congrArg some (by kernel_rfl))
 f46 := ⟨Tryz.f255.name, by decide, Tryz.func255.trans (congrArg some (by kernel_rfl))⟩
 f47 := Tryz.func179.trans (congrArg some (by kernel_rfl))
 f48 := Tryz.func180.trans (congrArg some (by kernel_rfl))
 f49 := ⟨Tryz.f256.name, by decide, Tryz.func256.trans (congrArg some (by kernel_rfl))⟩
 f50 := ⟨Tryz.f257.name, by decide, Tryz.func257.trans (congrArg some (by kernel_rfl))⟩
 f57 := ⟨Tryz.f258.name, by decide, Tryz.func258.trans (congrArg some (by kernel_rfl))⟩
 t0 := Tryz.underlying0
 a0 := Tryz.isAgg0
 z0 := Tryz.sizeOf0
 v0 := Tryz.zeroValue0
 t3 := Tryz.underlying3
 a3 := Tryz.isAgg3
 z3 := Tryz.sizeOf3
 v3 := Tryz.zeroValue3
 t4 := Tryz.underlying4
 a4 := Tryz.isAgg4
 z4 := Tryz.sizeOf4
 v4 := Tryz.zeroValue4
 t5 := Tryz.underlying5
 a5 := Tryz.isAgg5
 z5 := Tryz.sizeOf5
 v5 := Tryz.zeroValue5
 t9 := Tryz.underlying9
 a9 := Tryz.isAgg9
 z9 := Tryz.sizeOf9
 v9 := Tryz.zeroValue9
 t22 := Tryz.underlying129
 a22 := Tryz.isAgg129
 z22 := Tryz.sizeOf129
 v22 := Tryz.zeroValue129
 a24 := Tryz.isAgg3
 z24 := Tryz.sizeOf3
 t25 := Tryz.underlying160
 a25 := Tryz.isAgg160
 z25 := Tryz.sizeOf160
 v25 := Tryz.zeroValue160
 t39 := Tryz.underlying158
 a39 := Tryz.isAgg158
 z39 := Tryz.sizeOf158
 v39 := Tryz.zeroValue158
 t45 := Tryz.underlying179
 a45 := Tryz.isAgg179
 z45 := Tryz.sizeOf179
 v45 := Tryz.zeroValue179
 t46 := Tryz.underlying180
 a46 := Tryz.isAgg180
 z46 := Tryz.sizeOf180
 v46 := Tryz.zeroValue180
 t50 := Tryz.underlying104
 a50 := Tryz.isAgg104
 z50 := Tryz.sizeOf104
 v50 := Tryz.zeroValue104
 t53 := Tryz.underlying187
 a53 := Tryz.isAgg187
 z53 := Tryz.sizeOf187
 v53 := Tryz.zeroValue187
 t55 := Tryz.underlying189
 a55 := Tryz.isAgg189
 z55 := Tryz.sizeOf189
 v55 := Tryz.zeroValue189
 t66 := Tryz.underlying190
 a66 := Tryz.isAgg190
 z66 := Tryz.sizeOf190
 v66 := Tryz.zeroValue190
 t70 := Tryz.underlying194
 a70 := Tryz.isAgg194
 z70 := Tryz.sizeOf194
 v70 := Tryz.zeroValue194
 t76 := Tryz.underlying196
 a76 := Tryz.isAgg196
 z76 := Tryz.sizeOf196
 v76 := Tryz.zeroValue196
 t77 := Tryz.underlying197
 a77 := Tryz.isAgg197
 z77 := Tryz.sizeOf197
 v77 := Tryz.zeroValue197 }
end Go.Proofs.YtjbbmcommnhgeaaGreat
