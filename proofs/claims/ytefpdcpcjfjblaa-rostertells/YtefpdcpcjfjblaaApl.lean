/- Apply of package roster. -/
import Derived.Test.YtefpdcpcjfjblaaLiv
namespace Go.Proofs.Ytefpdcpcjfjblaa
open Go.RowKit Go.Sort Go.Maps Go.WideMaps

theorem ct_len {p s : Int} {v : List Int} {t : Int} {l : List O} (h : ct p s v t l = true) : l.length ≤ 16 := by
  simp only [ct, sn, Bool.and_eq_true, decide_eq_true_eq] at h
  exact h.2.1.2
/-- Ops of the roster in a transaction that may be. -/
theorem ct_op {p s : Int} {v : List Int} {t : Int} {l : List O} (h : ct p s v t l = true) : ∀ o ∈ l, o.k = 7 → (o.act = 1 ∨ o.act = 2) ∧ 1 ≤ o.n ∧ o.n ≤ 12 := fun o ho hk => by
  simp only [ct, sn, Bool.and_eq_true, decide_eq_true_eq] at h
  obtain ⟨i, hi, rfl⟩ := List.mem_iff_getElem.1 ho
  have h2 := (allB_iff _ l 0).1 h.2.2 i hi
  simp only [gd, co, crost, wi, hk, if_true, Bool.and_eq_true, decide_eq_true_eq] at h2
  obtain ⟨⟨⟨⟨h3, h4⟩, h5, h6⟩, _⟩, _⟩ := h2
  exact ⟨by omega, h5, h6⟩
theorem ct_i64 {p s : Int} {v : List Int} {t : Int} {l : List O} (h : ct p s v t l = true) : ∀ o ∈ l, o.k = 7 → I64 o.n := fun o ho hk => by
  have := (ct_op h o ho hk).2
  exact i64_of (by omega) (by omega)
/-- Who joined, and who left, behind a transaction. -/
def okA (a b : List Int) (p s : Int) (v : List Int) (t : Int) (l : List O) : Bool := (ckI a && ckI b) && ct p s v t l
def apJ (a b : List Int) (p s : Int) (v : List Int) (t : Int) (l : List O) : List Int := if okA a b p s v t l then upL a (nms 1 l) else a
def apL (a b : List Int) (p s : Int) (v : List Int) (t : Int) (l : List O) : List Int := if okA a b p s v t l then upL b (nms 2 l) else b
def ApPost (A B : List Int) (w : World) (e : Ending) (w' : World) : Prop := ∃ u v, e = .returned (.tuple #[u, v]) ∧ IHas w' u A ∧ IHas w' v B ∧ Below w.heap.size w w'
set_option maxHeartbeats 4000000 in
set_option maxRecDepth 100000 in
theorem apply_any (a b : List Int) (va vb : Value) (p s : Int) (v : List Int) (t : Int) (sl : Value) (l : List O) (w : World) (ha : IHas w va a) (hb : IHas w vb b) (hv : v.length = 13) (ho : OHas w sl l) (hla : a.length ≤ 1000) (hlb : b.length ≤ 1000) :
    Calls Try.prog 12 #[va, vb, TxV p s v t sl] w (ApPost (apJ a b p s v t l) (apL a b p s v t l) w) := by
  have R0 := rw_new w 34 (txc p s v t sl).toArray
  have hbel : Below w.heap.size w (w.alloc (.cells (txc p s v t sl).toArray 34)) := bel_alloc (Below.refl _ _) _
  generalize hW : w.alloc (.cells (txc p s v t sl).toArray 34) = w0 at R0 hbel
  have C0 := checkBoth_any a b va vb w0 (SHas.later ha hbel) (SHas.later hb hbel)
  have C1 := fun (w1 : World) (hb1 : Below w.heap.size w w1) => checkTx_any p s v t sl l w1 hv (ho.later hb1)
  have K1 := fun (w1 : World) (hb1 : Below w.heap.size w w1) => clone_any va a w1 (SHas.later ha hb1) hla
  have K2 := fun (w1 : World) (hb1 : Below w.heap.size w w1) => clone_any vb b w1 (SHas.later hb hb1) hlb
  unfold apJ apL okA
  cases hc : ckI a && ckI b
  · rw [hc] at C0
    simp only [Bool.false_and, Bool.false_eq_true, if_false]
    clear hc ha hb C1
    go_enter Try.func12, Try.ntmps12
    go_wp2_with (rw [hW])
    clear hW
    refine C0.mono ?_
    rintro e w1 ⟨rfl, hb1⟩
    replace hb1 := below_on hbel hb1
    go_wp2_with fail
    refine (K1 w1 hb1).mono ?_
    rintro e w2 ⟨u1, rfl, hI1, hb2⟩
    replace hb2 := below_on hb1 hb2
    obtain ⟨q1, c1, rfl⟩ := SHas.slice hI1
    go_wp2_with fail
    refine (K2 w2 hb2).mono ?_
    rintro e w3 ⟨u2, rfl, hI2, hb3⟩
    obtain ⟨q2, c2, rfl⟩ := SHas.slice hI2
    have hI3 := SHas.later hI1 hb3
    replace hb3 := below_on hb2 hb3
    go_wp2_with fail
    go_ret2
    exact ⟨_, _, rfl, hI3, hI2, hb3⟩
  · rw [hc] at C0
    simp only [Bool.true_and]
    obtain ⟨h1, h2⟩ := Bool.and_eq_true_iff.1 hc
    cases hz : ct p s v t l
    · rw [hz] at C1
      simp only [Bool.false_eq_true, if_false]
      clear hc ha hb h1 h2 hz
      go_enter Try.func12, Try.ntmps12
      go_wp2_with (rw [hW])
      clear hW
      refine C0.mono ?_
      rintro e w1 ⟨rfl, hb1⟩
      have R1 := R0.later hb1
      replace hb1 := below_on hbel hb1
      clear R0
      go_wp2_with (refine load_r 34 _ rfl rfl _ rfl R1 Try.underlying34 rfl (size_tx hv) ?_)
      refine (C1 w1 hb1).mono ?_
      rintro e w1' ⟨rfl, hb1'⟩
      replace hb1 := below_on hb1 hb1'
      clear R1 hb1'
      go_wp2_with fail
      refine (K1 w1' hb1).mono ?_
      rintro e w2 ⟨u1, rfl, hI1, hb2⟩
      replace hb2 := below_on hb1 hb2
      obtain ⟨q1, c1, rfl⟩ := SHas.slice hI1
      go_wp2_with fail
      refine (K2 w2 hb2).mono ?_
      rintro e w3 ⟨u2, rfl, hI2, hb3⟩
      obtain ⟨q2, c2, rfl⟩ := SHas.slice hI2
      have hI3 := SHas.later hI1 hb3
      replace hb3 := below_on hb2 hb3
      go_wp2_with fail
      go_ret2
      exact ⟨_, _, rfl, hI3, hI2, hb3⟩
    · have hu1 := ((ckI_up a).1 h1).1
      have hu2 := ((ckI_up b).1 h2).1
      have hlo := ct_len hz
      have hl1 := ck_len h1
      have hl2 := ck_len h2
      have W1 := fun (w1 : World) (hb1 : Below w.heap.size w w1) => with_any a va p s v t sl l 1 w1 (SHas.later ha hb1) hv (ho.later hb1) hu1 (ck_i64 h1) (by omega) (by omega) (ct_i64 hz)
      have W2 := fun (w1 : World) (hb1 : Below w.heap.size w w1) => with_any b vb p s v t sl l 2 w1 (SHas.later hb hb1) hv (ho.later hb1) hu2 (ck_i64 h2) (by omega) (by omega) (ct_i64 hz)
      rw [hz] at C1
      simp only [if_true]
      have zt : (Try.prog.info? 34).map (·.size) = some (txc p s v t sl).length := by rw [← List.size_toArray]; exact size_tx hv
      have RR : ∀ w2, Rw w2 w.heap.size 34 (txc p s v t sl).toArray → w2.rangeAt w.heap.size 0 (txc p s v t sl) := fun w2 h => h.range 0 _ fun j u hu => by rw [Nat.zero_add, List.getElem?_toArray]; exact hu
      clear hc ha hb h1 h2 hz hu1 hu2 hlo K1 K2 hl1 hl2 hla hlb
      go_enter Try.func12, Try.ntmps12
      go_wp2_with (rw [hW])
      clear hW
      refine C0.mono ?_
      rintro e w1 ⟨rfl, hb1⟩
      have R1 := R0.later hb1
      replace hb1 := below_on hbel hb1
      clear R0
      go_wp2_with (refine load_r 34 _ rfl rfl _ rfl R1 Try.underlying34 rfl (size_tx hv) ?_)
      refine (C1 w1 hb1).mono ?_
      rintro e w1' ⟨rfl, hb1'⟩
      replace R1 := R1.later hb1'
      replace hb1 := below_on hb1 hb1'
      clear hb1' C0 C1
      have hS : w1'.rangeAt w.heap.size 0 (txc p s v t sl) := RR _ R1
      have hbd : Below w.heap.size w w1'.drew := below_on hb1 (Below.refl _ _).drew
      go_upto_region 3 with fail
      refine HeldI.region (fun w' => w'.rangeAt w.heap.size 0 (txc p s v t sl)) (by kernel_rfl) ?_
      refine HeldI.pu 0 hS ?_
      refine HeldI.lm 1 zt (fun _ h => h) Try.underlying34 hS ?_
      refine HeldI.pu 3 hS ?_
      refine HeldI.lm 4 zt (fun _ h => h) Try.underlying34 hS ?_
      refine HeldI.kn 2 (W1 _ hbd) ?_
      rintro e w2 ⟨u1, rfl, hI1, hb2⟩
      replace hS := RR _ (R1.later (below_on (Below.refl _ _).drew hb2))
      replace hb2 := below_on hbd hb2
      refine ⟨_, rfl, hS, ?_⟩
      refine HeldI.kn 5 (W2 _ hb2) ?_
      rintro e w3 ⟨u2, rfl, hI2, hb3⟩
      replace hS := range_later hS hb3
      have hI3 := SHas.later hI1 hb3
      replace hb3 := below_on hb2 hb3
      refine ⟨_, rfl, hS, ?_⟩
      refine HeldI.pu 6 hS ?_
      refine HeldI.pu 7 hS ?_
      refine HeldI.dn ?_
      obtain ⟨q1, c1, rfl⟩ := SHas.slice hI3
      obtain ⟨q2, c2, rfl⟩ := SHas.slice hI2
      go_wp2_with fail
      go_ret2
      exact ⟨_, _, rfl, hI3, hI2, hb3⟩
end Go.Proofs.Ytefpdcpcjfjblaa
