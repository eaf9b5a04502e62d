import Derived.Test.YtfjpbmdmkcihcaaGreatP11
import Derived.Test.YtfjpbmdmkcihcaaGreatP12
import Derived.Test.YtfjpbmdmkcihcaaGreatP10
import Derived.Test.YtfjpbmdmkcihcaaGreatP4
/- Fold of package seq. -/
namespace Go.Proofs.YtfjpbmdmkcihcaaGreat
open Go.RowKit

/-- What goes, by steps. -/
def gF (up : Nat → Nat) (n : Nat) (St : Nat → Bool) : Nat → Nat → Bool
  | 0, _ => false
  | f + 1, k => St k && (List.range n).all (fun c => !(decide (up (c + 1) = k)) || gF up n St f (c + 1))
theorem gF_succ {up : Nat → Nat} {n : Nat} {St : Nat → Bool} {f k : Nat} : gF up n St (f + 1) k = true ↔ St k = true ∧ ∀ c, 1 ≤ c → c ≤ n → up c = k → gF up n St f c = true := by
  simp only [gF, Bool.and_eq_true, List.all_eq_true, List.mem_range, Bool.or_eq_true, Bool.not_eq_true', decide_eq_false_iff_not]
  constructor
  · rintro ⟨h1, h2⟩
    refine ⟨h1, fun c c1 c2 e => ?_⟩
    have := h2 (c - 1) (by omega)
    rw [show c - 1 + 1 = c by omega] at this; exact this.resolve_left (fun h => h e)
  · rintro ⟨h1, h2⟩
    refine ⟨h1, fun c hc => ?_⟩
    by_cases e : up (c + 1) = k
    · exact Or.inr (h2 (c + 1) (by omega) (by omega) e)
    · exact Or.inl e
theorem gF_more {up : Nat → Nat} {n : Nat} {St : Nat → Bool} (hf : ∀ k, k ≤ n → up k ≤ n) (h0 : up 0 = 0) (hr : ∀ k, k ≤ n → rt up k) : ∀ (f k : Nat), 1 ≤ k → k ≤ n → n - dp up n k < f → gF up n St (f + 1) k = gF up n St f k
  | 0, _, _, _, h => by omega
  | f + 1, k, k1, k2, h => by
    rw [Bool.eq_iff_iff, gF_succ, gF_succ]
    have kid : ∀ c, 1 ≤ c → c ≤ n → up c = k → gF up n St (f + 1) c = gF up n St f c := fun c c1 c2 e => by
      have d1 := dp_up hf h0 c2 (by omega) (hr c c2); rw [e] at d1; have d2 := dp_le up n c; exact gF_more hf h0 hr f c c1 c2 (by omega)
    constructor
    · rintro ⟨x, y⟩
      exact ⟨x, fun c c1 c2 e => by rw [← kid c c1 c2 e]; exact y c c1 c2 e⟩
    · rintro ⟨x, y⟩
      exact ⟨x, fun c c1 c2 e => by rw [kid c c1 c2 e]; exact y c c1 c2 e⟩
theorem gF_fix {up : Nat → Nat} {n : Nat} {St : Nat → Bool} (hf : ∀ k, k ≤ n → up k ≤ n) (h0 : up 0 = 0) (hr : ∀ k, k ≤ n → rt up k) : Fix up n St (gF up n St (n + 1)) := fun a a1 a2 => by
  rw [← gF_more hf h0 hr (n + 1) a a1 a2 (by omega), gF_succ]
theorem stay_congr {α : Type} {g h : Nat → Bool} : ∀ (k : Nat) (l : List α), (∀ a, k < a → a ≤ k + l.length → g a = h a) → stay g k l = stay h k l
  | _, [], _ => rfl
  | k, e :: t, H => by
    unfold stay; rw [H (k + 1) (by omega) (by simp), stay_congr (k + 1) t (fun a a1 a2 => H a (by omega) (by simp; omega))]
/-- The elements that stay. -/
def fdE (l : List El) (p : M → Bool) : List El := stay (gF (upL l) l.length (stL l p) (l.length + 1)) 0 l
/-- What Fold makes of a cell. -/
def fdX (x : X) (p : M → Bool) : X := if ck x = true then { x with el := fdE x.el p } else x
theorem cr_parts {l : List El} (h : cr l = true) : okR l = true ∧ ∀ k, k ≤ l.length → rt (upL l) k := by
  unfold cr at h; rw [Bool.and_eq_true] at h; exact ⟨h.1, noR_iff.1 h.2⟩
theorem fd_stay {l : List El} {p : M → Bool} {g : Nat → Bool} (h : cr l = true) (hg : Fix (upL l) l.length (stL l p) g) : stay g 0 l = fdE l p :=
  stay_congr 0 l (fun a a1 a2 => fix_one (fun k _ => upL_le l k) (upL_zero l) (cr_parts h).2 hg (gF_fix (fun k _ => upL_le l k) (upL_zero l) (cr_parts h).2) _ a (by omega) (by omega) (Nat.le_refl _))
theorem set_row {w : World} {b : Nat} {t : TypeId} {cs : Array Value} (R : Rw w b t cs) (i : Nat) (u : Value) : w.setCell ⟨b, i, none⟩ u = w.setRow b (cs.setIfInBounds i u) := by
  have h : w.heap[b]? = some (.cells cs t) := R; unfold World.setCell World.setRow
  congr 1
  apply Array.ext_getElem?
  intro k; simp only [Array.getElem?_modify]
  by_cases e : b = k
  · subst e
    simp [h]
  · simp [e]
set_option maxHeartbeats 4000000 in
set_option maxRecDepth 100000 in
theorem fold_any (x : X) (va vw vm ve : Value) (v : List Int) (w : World) (hv : v.length = 13) (h : Four w x va vw vm ve) (hs : Sm x) :
    Calls Tryz.prog 16 #[CV x.k x.b va vw vm ve, V v] w (Gives (fdX x (hsP v)) w) := by
  obtain ⟨pa, ca', pw, cw, pm, cm, pe, ce', rfl, rfl, rfl, rfl⟩ := h.slices; have HF : Hid (Four w x (.slice pa x.am.length ca') (.slice pw x.wr.length cw) (.slice pm x.mb.length cm) (.slice pe x.el.length ce')) := h; clear h; obtain ⟨z, HZ⟩ := hid_ex (fdX x (hsP v)); rw [HZ.out]; have R0 := (((rw_new w 27 (cvc x.k x.b (.slice pa x.am.length ca') (.slice pw x.wr.length cw) (.slice pm x.mb.length cm) (.slice pe x.el.length ce'))).alloc (.cells (vals v).toArray 31)).alloc (.cells (cvc 0 0 (.slice none 0 0) (.slice none 0 0) (.slice none 0 0) (.slice none 0 0)) 27)); have R1 := ((rw_new (w.alloc (.cells (cvc x.k x.b (.slice pa x.am.length ca') (.slice pw x.wr.length cw) (.slice pm x.mb.length cm) (.slice pe x.el.length ce')) 27)) 31 (vals v).toArray).alloc (.cells (cvc 0 0 (.slice none 0 0) (.slice none 0 0) (.slice none 0 0) (.slice none 0 0)) 27)); have R3 := (rw_new ((w.alloc (.cells (cvc x.k x.b (.slice pa x.am.length ca') (.slice pw x.wr.length cw) (.slice pm x.mb.length cm) (.slice pe x.el.length ce')) 27)).alloc (.cells (vals v).toArray 31)) 27 (cvc 0 0 (.slice none 0 0) (.slice none 0 0) (.slice none 0 0) (.slice none 0 0))); have hbel := (bel_alloc (bel_alloc (bel_alloc (Below.refl w.heap.size w) (.cells (cvc x.k x.b (.slice pa x.am.length ca') (.slice pw x.wr.length cw) (.slice pm x.mb.length cm) (.slice pe x.el.length ce')) 27)) (.cells (vals v).toArray 31)) (.cells (cvc 0 0 (.slice none 0 0) (.slice none 0 0) (.slice none 0 0) (.slice none 0 0)) 27))
  have hsz : (((w.alloc (.cells (cvc x.k x.b (.slice pa x.am.length ca') (.slice pw x.wr.length cw) (.slice pm x.mb.length cm) (.slice pe x.el.length ce')) 27)).alloc (.cells (vals v).toArray 31)).alloc (.cells (cvc 0 0 (.slice none 0 0) (.slice none 0 0) (.slice none 0 0) (.slice none 0 0)) 27)).heap.size = w.heap.size + 3 := by simp
  generalize hW : (((w.alloc (.cells (cvc x.k x.b (.slice pa x.am.length ca') (.slice pw x.wr.length cw) (.slice pm x.mb.length cm) (.slice pe x.el.length ce')) 27)).alloc (.cells (vals v).toArray 31)).alloc (.cells (cvc 0 0 (.slice none 0 0) (.slice none 0 0) (.slice none 0 0) (.slice none 0 0)) 27)) = w0 at R0 R1 R3 hbel hsz; simp only [World.size_alloc] at R1 R3
  go_enter Tryz.func16, Tryz.ntmps16
  go_wp2_with (first | rw [hW] | refine load_r 27 _ rfl rfl _ rfl R0 Tryz.underlying27 rfl size27 ?_)
  clear hW; refine (copied_any x _ _ _ _ w0 (HF.out.later hbel) hs).mono ?_; rintro e w1 ⟨ua, uw, um, ue, rfl, ho, hb1⟩; obtain ⟨qa, da, qw, dw, qm, dx, qe, de, rfl, rfl, rfl, rfl⟩ := ho.four.slices; rw [hsz] at ho; replace R0 := R0.later hb1; replace R1 := R1.later hb1; replace R3 := R3.later hb1; replace hbel := below_on hbel hb1
  have hB : w.heap.size + 3 ≤ w1.heap.size := by have := hb1.size; omega
  clear hb1 hsz; have ho2 := ho.row (by omega) R0 (cvc x.k x.b (.slice qa x.am.length da) (.slice qw x.wr.length dw) (.slice qm x.mb.length dx) (.slice qe x.el.length de)); have hbs := below_setRow hbel (Nat.le_refl w.heap.size) (cvc x.k x.b (.slice qa x.am.length da) (.slice qw x.wr.length dw) (.slice qm x.mb.length dx) (.slice qe x.el.length de))
  have hB2 : w.heap.size + 3 ≤ (w1.setRow w.heap.size (cvc x.k x.b (.slice qa x.am.length da) (.slice qw x.wr.length dw) (.slice qm x.mb.length dx) (.slice qe x.el.length de))).heap.size := by simpa [World.setRow] using hB
  replace R1 := R1.rowOther (q := w.heap.size) (by omega) (cvc x.k x.b (.slice qa x.am.length da) (.slice qw x.wr.length dw) (.slice qm x.mb.length dx) (.slice qe x.el.length de)); replace R3 := R3.rowOther (q := w.heap.size) (by omega) (cvc x.k x.b (.slice qa x.am.length da) (.slice qw x.wr.length dw) (.slice qm x.mb.length dx) (.slice qe x.el.length de)); have R4 := R0.row (cvc x.k x.b (.slice qa x.am.length da) (.slice qw x.wr.length dw) (.slice qm x.mb.length dx) (.slice qe x.el.length de)); generalize hW : w1.setRow w.heap.size (cvc x.k x.b (.slice qa x.am.length da) (.slice qw x.wr.length dw) (.slice qm x.mb.length dx) (.slice qe x.el.length de)) = w2 at ho2 hbs hB2 R1 R3 R4
  go_wp2_with (first | rw [hW] | refine store_r rfl 27 _ _ rfl _ (cvc x.k x.b (.slice qa x.am.length da) (.slice qw x.wr.length dw) (.slice qm x.mb.length dx) (.slice qe x.el.length de)) rfl rfl R0 size27 rfl (by simp [Value.oneCell']) ?_ | refine load_r 27 _ rfl rfl _ rfl R4 Tryz.underlying27 rfl size27 ?_)
  clear hW ho hbel hB R0; refine (check_any x _ _ _ _ w2 ho2.four hs).mono ?_; rintro e w3 ⟨rfl, hb1⟩; replace R1 := R1.later hb1; replace R3 := R3.later hb1; replace R4 := R4.later hb1; replace ho2 := ho2.later hb1; replace hbs := below_on hbs hb1; replace hB2 := Nat.le_trans hB2 hb1.size; clear hb1
  have HQ : Hid (z = if ck x = true then { x with el := fdE x.el (hsP v) } else x) := by
    show _ = _
    rw [← HZ.out]
    rfl
  clear HZ; obtain ⟨y1, HY1⟩ := hid_ex (ck x); rw [HY1.out] at HQ ⊢
  cases y1
  · have e := HQ.out
    rw [if_neg (by decide)] at e; have e := e.symm; subst e
    go_wp2_with (first | refine load_r 27 _ rfl rfl _ rfl R4 Tryz.underlying27 rfl size27 ?_ | refine store_r rfl 27 _ _ rfl _ (cvc x.k x.b (.slice qa x.am.length da) (.slice qw x.wr.length dw) (.slice qm x.mb.length dx) (.slice qe x.el.length de)) rfl rfl R3 size27 rfl (by simp [Value.oneCell']) ?_)
    refine bodyPost_ret (results_r rfl rfl (R3.row (cvc x.k x.b (.slice qa x.am.length da) (.slice qw x.wr.length dw) (.slice qm x.mb.length dx) (.slice qe x.el.length de))) rfl Tryz.underlying27 size27) rfl ?_; exact ⟨_, _, _, _, rfl, (ho2.row (by omega) R3 (cvc x.k x.b (.slice qa x.am.length da) (.slice qw x.wr.length dw) (.slice qm x.mb.length dx) (.slice qe x.el.length de))).four, below_setRow hbs (by omega) _⟩
  · have e := HQ.out
    rw [if_pos rfl] at e; have HE : Hid (z = { x with el := fdE x.el (hsP v) }) := e; have hcr := (ck_parts HY1.out).2.2.2.2.2.2; have HCR : Hid (cr x.el = true) := hcr; have C2 := left_any (.slice qe x.el.length de) x.el (hsP v) (w.heap.size + 1) w3 ho2.four.e hs.e hs.ei (ce_up (ck_parts HY1.out).2.2.2.2.2.1) (cr_parts hcr).1 (fun m w' hb => fold1_any m _ v w' hv ⟨hv, R1.later hb⟩); have cE : w3.cell? ⟨w.heap.size, 5, none⟩ = some (.slice qe x.el.length de) := R4.cell 5; clear e HQ HY1 hcr; go_wp2_with fail; refine C2.mono ?_; clear C2 cE; rintro e w4 ⟨u, g, rfl, hE, hfx, hb1⟩; have est := fd_stay HCR.out hfx; replace R3 := R3.later hb1; replace R4 := R4.later hb1; replace ho2 := ho2.later hb1; replace hbs := below_on hbs hb1; replace hB2 := Nat.le_trans hB2 hb1.size; rw [est] at hE; clear hb1 hfx est; obtain ⟨p7, c7, rfl⟩ := hE.slice; obtain ⟨n7, HN7⟩ := hid_ex (fdE x.el (hsP v)).length; rw [HN7.out] at hE ⊢; have c5 : w4.cell? ⟨w.heap.size, 5, none⟩ = some (.slice qe x.el.length de) := R4.cell 5; have f5 := R4.frozen 5; have eS := set_row R4 5 (.slice p7 n7 c7); have R6 := R4.set 5 (.slice p7 n7 c7); replace R6 : Rw (w4.setCell ⟨w.heap.size, 5, none⟩ (.slice p7 n7 c7)) w.heap.size 27 (cvc x.k x.b (.slice qa x.am.length da) (.slice qw x.wr.length dw) (.slice qm x.mb.length dx) (.slice p7 n7 c7)) := R6; have R7 := R3.setOther (q := w.heap.size) (by omega) 5 (.slice p7 n7 c7)
    have HF9 : Hid (Gives z w (.returned (CV x.k x.b (.slice qa x.am.length da) (.slice qw x.wr.length dw) (.slice qm x.mb.length dx) (.slice p7 n7 c7))) ((w4.setCell ⟨w.heap.size, 5, none⟩ (.slice p7 n7 c7)).setRow (w.heap.size + 1 + 1) (cvc x.k x.b (.slice qa x.am.length da) (.slice qw x.wr.length dw) (.slice qm x.mb.length dx) (.slice p7 n7 c7)))) := by
      have e0 := HE.out.symm; subst e0; obtain ⟨f1, f2, f3, _⟩ := ho2.four
      have F : Four (w4.setCell ⟨w.heap.size, 5, none⟩ (.slice p7 n7 c7)) { x with el := fdE x.el (hsP v) } (.slice qa x.am.length da) (.slice qw x.wr.length dw) (.slice qm x.mb.length dx) (.slice p7 n7 c7) := by
        rw [eS]; exact Four.row (x := { x with el := fdE x.el (hsP v) }) ⟨f1, f2, f3, hE⟩ R4 _
      exact ⟨_, _, _, _, rfl, F.row R7 _, below_setRow (below_cell hbs (Nat.le_refl _) _ _) (by omega) _⟩
    clear hE HE HN7 ho2 eS hbs HF
    go_wp2_with (first | refine load_r 27 _ rfl rfl _ rfl R6 Tryz.underlying27 rfl size27 ?_ | refine store_r rfl 27 _ _ rfl _ (cvc x.k x.b (.slice qa x.am.length da) (.slice qw x.wr.length dw) (.slice qm x.mb.length dx) (.slice p7 n7 c7)) rfl rfl R7 size27 rfl (by simp [Value.oneCell']) ?_)
    refine bodyPost_ret (results_r rfl rfl (R7.row (cvc x.k x.b (.slice qa x.am.length da) (.slice qw x.wr.length dw) (.slice qm x.mb.length dx) (.slice p7 n7 c7))) rfl Tryz.underlying27 size27) rfl ?_; exact HF9.out
end Go.Proofs.YtfjpbmdmkcihcaaGreat
/- heads: what must come at any rate: its lists. -/
namespace Go.Proofs.YtfjpbmdmkcihcaaGreat
open Go.RowKit Go.Sort

/-- A sequence of these. -/
def x5 (l : List El) : X := ⟨5, 0, [], [], [], l⟩
abbrev sA : ByteArray := ⟨#[97]⟩
abbrev sB : ByteArray := ⟨#[98]⟩
abbrev sC : ByteArray := ⟨#[99]⟩
abbrev hZ : List Int := [0, 0, 0, 0, 0, 0, 0, 0, 0, 0, 0, 0, 0]
abbrev hV : List Int := [0, 1, 0, 0, 0, 0, 0, 0, 0, 0, 0, 0, 0]
abbrev hU : List Int := [0, 0, 0, 1, 0, 0, 0, 0, 0, 0, 0, 0, 0]
def hE1 : List El := [⟨1, 1, 1, 1, 0, 0, 0, sA, []⟩]
def hE2 : List El := [⟨1, 1, 1, 1, 0, 0, 0, sA, []⟩, ⟨1, 1, 2, 1, 1, 1, 1, sB, []⟩]
def hE3 : List El := [⟨1, 1, 1, 1, 0, 0, 0, sA, []⟩, ⟨1, 1, 2, 1, 1, 1, 1, sB, []⟩, ⟨2, 1, 1, 2, 1, 1, 1, sC, []⟩]
def hEd : List El := [⟨1, 1, 1, 1, 0, 0, 0, sA, []⟩, ⟨1, 1, 2, 1, 1, 1, 1, sB, []⟩, ⟨2, 1, 1, 2, 1, 1, 1, sC, [⟨3, 1, 1⟩]⟩]
def hEg : List El := [⟨1, 1, 1, 1, 0, 0, 0, sA, [⟨3, 1, 1⟩]⟩, ⟨1, 1, 2, 1, 1, 1, 1, sB, []⟩, ⟨2, 1, 1, 2, 1, 1, 1, sC, []⟩]
def hEc : List El := [⟨1, 1, 1, 1, 0, 0, 0, sA, [⟨3, 1, 1⟩]⟩, ⟨1, 1, 2, 1, 1, 1, 1, sB, [⟨3, 1, 1⟩]⟩, ⟨2, 1, 1, 2, 1, 1, 1, sC, []⟩]
set_option maxRecDepth 100000
theorem h_ins1 : insX (x5 []) ⟨1, 1, 1, 1, 0, 0, 0, sA, []⟩ (bfP 1 1 hZ 1) = x5 hE1 := by rfl
theorem h_ins2 : insX (x5 hE1) ⟨1, 1, 2, 1, 1, 1, 1, sB, []⟩ (bfP 1 1 hZ 2) = x5 hE2 := by rfl
theorem h_ins3 : insX (x5 hE2) ⟨2, 1, 1, 2, 1, 1, 1, sC, []⟩ (bfP 2 1 hZ 1) = x5 hE3 := by rfl
theorem h_del : goX (x5 hE3) ⟨3, 1, 1⟩ (fun y => decide (kM y = kM ⟨2, 1, 1⟩)) = x5 hEd := by rfl
theorem h_delg : goX (x5 hE3) ⟨3, 1, 1⟩ (fun y => decide (kM y = kM ⟨1, 1, 1⟩)) = x5 hEg := by rfl
theorem h_fd : fdX (x5 hEd) (hsP hU) = x5 hE2 := by rfl
theorem h_fg : fdX (x5 hEg) (hsP hU) = x5 hEg := by rfl
theorem h_cl : goX (x5 hE3) ⟨3, 1, 1⟩ (bfP 3 1 hV 1) = x5 hEc := by rfl
theorem h_rk3 : rdK (x5 hE3) = 5 := by rfl
theorem h_rkd : rdK (x5 hEd) = 5 := by rfl
theorem h_rkc : rdK (x5 hEc) = 5 := by rfl
theorem h_rd3 : rdT (x5 hE3) = [[97], [99], [98]] := by rfl
theorem h_rdd : rdT (x5 hEd) = [[97], [98]] := by rfl
theorem h_rdc : rdT (x5 hEc) = [[99]] := by rfl
theorem h_or3 : orX (x5 hE3) = [⟨1, 1, 1⟩, ⟨2, 1, 1⟩, ⟨1, 1, 2⟩] := by rfl
theorem h_ck2 : ck (x5 hE2) = true := by rfl
theorem h_sm {l : List El} (h : l.length ≤ 100) (h2 : l.all (fun e => decide (e.gone.length ≤ 100)) = true) : Sm (x5 l) := ⟨Nat.zero_le _, Nat.zero_le _, Nat.zero_le _, h, (fun _ h => by cases h), fun e he => by simpa using List.all_eq_true.1 h2 e he⟩
theorem h_sm0 : Sm (x5 []) := h_sm (by decide) rfl
theorem h_sm1 : Sm (x5 hE1) := h_sm (by decide) rfl
theorem h_sm2 : Sm (x5 hE2) := h_sm (by decide) rfl
theorem h_sm3 : Sm (x5 hE3) := h_sm (by decide) rfl
theorem h_smd : Sm (x5 hEd) := h_sm (by decide) rfl
theorem h_smg : Sm (x5 hEg) := h_sm (by decide) rfl
theorem h_smc : Sm (x5 hEc) := h_sm (by decide) rfl
end Go.Proofs.YtfjpbmdmkcihcaaGreat
/- A call of five values, by facts. -/
namespace Go.Proofs.YtfjpbmdmkcihcaaGreat
open Go.RowKit

section
variable {Q : Exit → Act → World → Prop} {S : World → Prop} {md : Region.Mode} {A : (Nat → Value) → Act} {F : List Facts.Fact} {i : Nat} {o : Oper} {φ : Value → World → Prop}
theorem Facts.call5P (hS : Calm.Stays S) (hF : Facts.Stay F) (hA : ∀ x u, (A x).put o.dst u = A (Facts.put x i u)) {fn : FuncId} {ts : Array TypeId} {u1 u2 u3 u4 u5 : Operand} (ho : o.op = .call { callee := .value (.func fn), args := #[u1, u2, u3, u4, u5], argTypes := ts }) (hf : Calm.enters Tryz.prog fn = true) (hz : F[i]? = some (pF i φ))
    (h : ∀ x w, S w → (∀ e ∈ o.after, Region.binds md e = true → ∀ f, F[e.on]? = some f → Facts.holds f x w) → Calls Tryz.prog fn #[(A x).eval u1, (A x).eval u2, (A x).eval u3, (A x).eval u4, (A x).eval u5] w fun e w' => ∃ r, e = .returned r ∧ φ r w' ∧ Below w.heap.size w w') : Facts.StepOk Tryz.prog md Q S A F i o :=
  Facts.call (f := fn) hS hF hA fun x w hSw hdep => ⟨#[(A x).eval u1, (A x).eval u2, (A x).eval u3, (A x).eval u4, (A x).eval u5], by
    have e : ∀ args, (callFunc fn args).run Tryz.prog w = .ok (.enter fn args) w := fun args => Calm.enters_run hf args w
    unfold execOp
    simp [ho, go_sem, Act.eval, e], (h x w hSw hdep).mono fun e w' ⟨r, he, hr, hb⟩ => ⟨r, he, hb, fun f hf' => by
      rw [hz] at hf'; obtain rfl := Option.some.inj hf'
      exact pF_put hr⟩⟩
/-- A value that is only told of. -/
theorem Facts.pureD (hS : Calm.Stays S) (hF : Facts.Stay F) (hA : ∀ x u, (A x).put o.dst u = A (Facts.put x i u)) (hf : F[i]? = some (pF i φ))
    (h : ∀ x w, S w → (∀ e ∈ o.after, Region.binds md e = true → ∀ f, F[e.on]? = some f → Facts.holds f x w) → ∃ v, (execOp (A x).eval o).run Tryz.prog w = .ok (.value v) w ∧ φ v w) : Facts.StepOk Tryz.prog md Q S A F i o :=
  Facts.step hS hF hA fun x w hSw hdep => by
    obtain ⟨v, h1, h2⟩ := h x w hSw hdep; unfold Oper.wp; rw [h1]; refine ⟨v, rfl, Below.refl _ _, fun f hf' => ?_⟩; rw [hf] at hf'; obtain rfl := Option.some.inj hf'; exact pF_put h2
/-- A value that is made, with what it lies in. -/
theorem Facts.makeD (hS : Calm.Stays S) (hF : Facts.Stay F) (hA : ∀ x u, (A x).put o.dst u = A (Facts.put x i u)) (hf : F[i]? = some (pF i φ))
    (h : ∀ x w, S w → (∀ e ∈ o.after, Region.binds md e = true → ∀ f, F[e.on]? = some f → Facts.holds f x w) → ∃ v w', (execOp (A x).eval o).run Tryz.prog w = .ok (.value v) w' ∧ Below w.heap.size w w' ∧ φ v w') : Facts.StepOk Tryz.prog md Q S A F i o :=
  Facts.step hS hF hA fun x w hSw hdep => by
    obtain ⟨v, w', h1, hb, h2⟩ := h x w hSw hdep; unfold Oper.wp; rw [h1]; refine ⟨v, rfl, hb, fun f hf' => ?_⟩; rw [hf] at hf'; obtain rfl := Option.some.inj hf'; exact pF_put h2
/-- A place that is only told of, where these lie. -/
def ptP (cs : List Value) : Value → World → Prop := fun v w => ∃ g o, v = .pointer (some ⟨g, o, none⟩) ∧ w.rangeAt g o cs
theorem ptP_keeps (cs : List Value) : Keeps (ptP cs) := fun _ _ _ ⟨g, o, e, h⟩ hb => ⟨g, o, e, range_later h hb⟩
/-- A struct is loaded whole from a place that is only told of. -/
theorem Facts.loadD (hS : Calm.Stays S) (hF : Facts.Stay F) (hA : ∀ x u, (A x).put o.dst u = A (Facts.put x i u)) (t : TypeId) {d : TypeDesc} (hu : Tryz.prog.underlying t = some d) (hd : d.isRow = true) {cs : List Value} (hi : (Tryz.prog.info? t).map (·.size) = some cs.length) (u : Operand) (ho : o.op = .load t u)
    (hf : F[i]? = some (pF i (eqP (.agg cs.toArray)))) (hx : ∀ x w, S w → (∀ e ∈ o.after, Region.binds md e = true → ∀ f, F[e.on]? = some f → Facts.holds f x w) → ptP cs ((A x).eval u) w) : Facts.StepOk Tryz.prog md Q S A F i o :=
  Facts.pureP hS hF hA hf fun x w hSw hdep => by
    obtain ⟨b, f, e, hc⟩ := hx x w hSw hdep; have h2 := run_loadVar_mid (P := Tryz.prog) w b f t cs d hc hu hd hi; unfold execOp; simp only [ho, e, Instr.loadAt, Instr.sureAddr, Sem.run_bind, Sem.run_pure, h2, Result.andThen_ok]
end
end Go.Proofs.YtfjpbmdmkcihcaaGreat
/- heads: its calls. -/
namespace Go.Proofs.YtfjpbmdmkcihcaaGreat
open Go.RowKit
open Go.Sort

theorem four_nil (w : World) : Four w (x5 []) (.slice none 0 0) (.slice none 0 0) (.slice none 0 0) (.slice none 0 0) := ⟨AHas.nil w, WHas.nil w, BHas.nil w, EHas.nil w⟩
theorem c_ins1 (w : World) : Calls Tryz.prog 10 #[CV 5 0 (.slice none 0 0) (.slice none 0 0) (.slice none 0 0) (.slice none 0 0), TxV 1 1 hZ 1 (.slice none 0 0), .int .i64 1, MV 0 0 0, .string sA] w (Gives (x5 hE1) w) := by
  rw [← h_ins1]; exact ins_any (x5 []) (.slice none 0 0) (.slice none 0 0) (.slice none 0 0) (.slice none 0 0) 1 1 hZ 1 (.slice none 0 0) 1 ⟨0, 0, 0⟩ sA w rfl (four_nil w) h_sm0
theorem c_ins2 {va vw vm ve : Value} {w : World} (h : Four w (x5 hE1) va vw vm ve) : Calls Tryz.prog 10 #[CV 5 0 va vw vm ve, TxV 1 1 hZ 1 (.slice none 0 0), .int .i64 2, MV 1 1 1, .string sB] w (Gives (x5 hE2) w) := by
  rw [← h_ins2]; exact ins_any (x5 hE1) va vw vm ve 1 1 hZ 1 (.slice none 0 0) 2 ⟨1, 1, 1⟩ sB w rfl h h_sm1
theorem c_ins3 {va vw vm ve : Value} {w : World} (h : Four w (x5 hE2) va vw vm ve) : Calls Tryz.prog 10 #[CV 5 0 va vw vm ve, TxV 2 1 hZ 2 (.slice none 0 0), .int .i64 1, MV 1 1 1, .string sC] w (Gives (x5 hE3) w) := by
  rw [← h_ins3]; exact ins_any (x5 hE2) va vw vm ve 2 1 hZ 2 (.slice none 0 0) 1 ⟨1, 1, 1⟩ sC w rfl h h_sm2
theorem c_del {va vw vm ve : Value} {w : World} (h : Four w (x5 hE3) va vw vm ve) : Calls Tryz.prog 12 #[CV 5 0 va vw vm ve, TxV 3 1 hZ 3 (.slice none 0 0), .int .i64 1, MV 2 1 1] w (Gives (x5 hEd) w) := by
  rw [← h_del]; exact del_any (x5 hE3) va vw vm ve 3 1 hZ 3 (.slice none 0 0) 1 ⟨2, 1, 1⟩ w rfl h h_sm3
theorem c_delg {va vw vm ve : Value} {w : World} (h : Four w (x5 hE3) va vw vm ve) : Calls Tryz.prog 12 #[CV 5 0 va vw vm ve, TxV 3 1 hZ 3 (.slice none 0 0), .int .i64 1, MV 1 1 1] w (Gives (x5 hEg) w) := by
  rw [← h_delg]; exact del_any (x5 hE3) va vw vm ve 3 1 hZ 3 (.slice none 0 0) 1 ⟨1, 1, 1⟩ w rfl h h_sm3
theorem c_fd {va vw vm ve : Value} {w : World} (h : Four w (x5 hEd) va vw vm ve) : Calls Tryz.prog 16 #[CV 5 0 va vw vm ve, V hU] w (Gives (x5 hE2) w) := by
  rw [← h_fd]; exact fold_any (x5 hEd) va vw vm ve hU w rfl h h_smd
theorem c_fg {va vw vm ve : Value} {w : World} (h : Four w (x5 hEg) va vw vm ve) : Calls Tryz.prog 16 #[CV 5 0 va vw vm ve, V hU] w (Gives (x5 hEg) w) := by
  rw [← h_fg]; exact fold_any (x5 hEg) va vw vm ve hU w rfl h h_smg
theorem c_cl {va vw vm ve : Value} {w : World} (h : Four w (x5 hE3) va vw vm ve) : Calls Tryz.prog 14 #[CV 5 0 va vw vm ve, TxV 3 1 hV 3 (.slice none 0 0), .int .i64 1] w (Gives (x5 hEc) w) := by
  rw [← h_cl]; exact clear_any (x5 hE3) va vw vm ve 3 1 hV 3 (.slice none 0 0) 1 w rfl h h_sm3
theorem c_rd3 {va vw vm ve : Value} {w : World} (h : Four w (x5 hE3) va vw vm ve) : Calls Tryz.prog 22 #[CV 5 0 va vw vm ve] w (fun e w' => ∃ u, e = .returned (VV 5 u) ∧ THas w' u [[97], [99], [98]] ∧ Below w.heap.size w w') := by
  have := read_any (x5 hE3) va vw vm ve w h h_sm3
  unfold RdPost at this; rw [h_rk3, h_rd3] at this; exact this
theorem c_rdd {va vw vm ve : Value} {w : World} (h : Four w (x5 hEd) va vw vm ve) : Calls Tryz.prog 22 #[CV 5 0 va vw vm ve] w (fun e w' => ∃ u, e = .returned (VV 5 u) ∧ THas w' u [[97], [98]] ∧ Below w.heap.size w w') := by
  have := read_any (x5 hEd) va vw vm ve w h h_smd
  unfold RdPost at this; rw [h_rkd, h_rdd] at this; exact this
theorem c_rdc {va vw vm ve : Value} {w : World} (h : Four w (x5 hEc) va vw vm ve) : Calls Tryz.prog 22 #[CV 5 0 va vw vm ve] w (fun e w' => ∃ u, e = .returned (VV 5 u) ∧ THas w' u [[99]] ∧ Below w.heap.size w w') := by
  have := read_any (x5 hEc) va vw vm ve w h h_smc
  unfold RdPost at this; rw [h_rkc, h_rdc] at this; exact this
theorem c_or3 {va vw vm ve : Value} {w : World} (h : Four w (x5 hE3) va vw vm ve) : Calls Tryz.prog 19 #[CV 5 0 va vw vm ve] w (fun e w' => ∃ u, e = .returned u ∧ w'.ownsRow w.heap.size 36 3 u 3 (rows M.cells [⟨1, 1, 1⟩, ⟨2, 1, 1⟩, ⟨1, 1, 2⟩]) ∧ Below w.heap.size w w') := by
  have := order_any (x5 hE3) va vw vm ve w h h_sm3
  unfold OrPost at this; rw [h_or3] at this; exact this
theorem c_ck2 {va vw vm ve : Value} {w : World} (h : Four w (x5 hE2) va vw vm ve) : Calls Tryz.prog 7 #[CV 5 0 va vw vm ve] w (Tells (.bool true) w) := by
  have := check_any (x5 hE2) va vw vm ve w h h_sm2
  rw [h_ck2] at this; exact this
/-- What is answered is a sequence of so many elements. -/
def Gives5 (l : List El) (n : Nat) (w : World) (e : Ending) (w' : World) : Prop := ∃ pa c1 pw c2 pm c3 pe c4, e = .returned (CV 5 0 (.slice pa 0 c1) (.slice pw 0 c2) (.slice pm 0 c3) (.slice pe n c4)) ∧ Four w' (x5 l) (.slice pa 0 c1) (.slice pw 0 c2) (.slice pm 0 c3) (.slice pe n c4) ∧ Below w.heap.size w w'
theorem gives5 {l : List El} {n : Nat} (hn : l.length = n) {w : World} {e : Ending} {w' : World} (h : Gives (x5 l) w e w') : Gives5 l n w e w' := by
  obtain ⟨ua, uw, um, ue, he, hf, hb⟩ := h; obtain ⟨pa, c1, pw, c2, pm, c3, pe, c4, rfl, rfl, rfl, rfl⟩ := hf.slices; subst hn; exact ⟨pa, c1, pw, c2, pm, c3, pe, c4, he, hf, hb⟩
end Go.Proofs.YtfjpbmdmkcihcaaGreat
/- A cell of a transaction is written: what lies elsewhere stays. -/
namespace Go.Proofs.YtfjpbmdmkcihcaaGreat
open Go.RowKit

theorem SHas.on {S n : Nat} {w w' : World} {v : Value} {xs : List Value} (h : SHas S w v n xs) (H : 0 < n → ∀ g o, w.rangeAt g o xs → w'.rangeAt g o xs) : SHas S w' v n xs := by
  obtain ⟨hm, hl, ⟨rfl, rfl⟩ | ⟨ad, cc, rfl, hc', hd⟩⟩ := h
  · exact ⟨hm, hl, .inl ⟨rfl, rfl⟩⟩
  · refine ⟨hm, hl, .inr ⟨ad, cc, rfl, hc', fun hn => ?_⟩⟩
    obtain ⟨g, o, rfl, h1⟩ := hd hn; exact ⟨g, o, rfl, H hn g o h1⟩
theorem range_nz {w : World} {g o b j : Nat} {xs : List Value} (h : w.rangeAt g o xs) {c0 : Value} (hc : w.cell? ⟨b, j, none⟩ = some c0) (hx : c0 ∉ xs) (u : Value) : (w.setCell ⟨b, j, none⟩ u).rangeAt g o xs := fun k v hv => by
  have h1 := h k v hv
  by_cases e : (⟨g, o + k, none⟩ : Addr) = ⟨b, j, none⟩
  · rw [e, hc] at h1
    obtain rfl := Option.some.inj h1; exact absurd (List.mem_of_getElem? hv) hx
  · rw [World.cell?_setCell_other _ _ _ _ (fun h => e h.symm)]
    exact h1
theorem range_ne {w : World} {g o b j : Nat} {xs : List Value} (h : w.rangeAt g o xs) (hg : g ≠ b) (u : Value) : (w.setCell ⟨b, j, none⟩ u).rangeAt g o xs := fun k v hv => by
  rw [World.cell?_setCell_other _ _ _ _ (fun e => hg (congrArg Addr.block e).symm)]; exact h k v hv
theorem rows_mem {α : Type} {f : α → List Value} {u : Value} : ∀ {l : List α}, u ∈ rows f l → ∃ x ∈ l, u ∈ f x
  | [], h => by cases h
  | x :: l, h => by
    rw [rows_cons, List.mem_append] at h
    rcases h with h | h
    · exact ⟨x, List.mem_cons_self, h⟩
    · obtain ⟨y, hy, hu⟩ := rows_mem h
      exact ⟨y, List.mem_cons_of_mem _ hy, hu⟩
theorem rows_str {y : El × Value} {ys : List (El × Value)} : (rows El.cells (y :: ys))[7]? = some (.string y.1.x) := by
  rw [rows_cons]
  rfl
/-- The cells of a sequence stay where a number of a transaction, that was zero, is written. -/
theorem four_dep {w : World} {l : List El} {va vw vm ve : Value} (h : Four w (x5 l) va vw vm ve) {b j : Nat} {t : TypeId} {cs : Array Value} (R : Rw w b t cs) (hs : ∀ (i : Nat) (s : ByteArray), cs[i]? ≠ some (Value.string s)) (hj : cs[j]? = some (.int .i64 0)) (hl : ∀ e ∈ l, ∀ m ∈ e.gone, m.p ≠ 0 ∧ m.s ≠ 0 ∧ m.i ≠ 0) (u : Value) : Four (w.setCell ⟨b, j, none⟩ u) (x5 l) va vw vm ve := by
  have hc : w.cell? ⟨b, j, none⟩ = some (.int .i64 0) := (R.cell j).trans hj; refine ⟨SHas.on h.a (fun hn => absurd hn (by simp [x5])), SHas.on h.t (fun hn => absurd hn (by simp [x5])), ?_, ?_⟩
  · obtain ⟨ys, h1, h2, h3⟩ := h.m
    have : ys = [] := by
      cases ys with
      | nil => rfl
      | cons y ys => simp [x5] at h1
    subst this; exact ⟨[], h1, SHas.on h2 (fun hn => absurd hn (by simp [x5])), fun y hy => by cases hy⟩
  · obtain ⟨ys, h1, h2, h3⟩ := h.e
    refine ⟨ys, h1, SHas.on h2 (fun hn g o hr => ?_), fun y hy => SHas.on (h3 y hy) (fun _ g o hr => range_nz hr hc (fun hx => ?_) u)⟩
    · cases ys with
      | nil =>
        rw [← h1] at hn
        simp at hn
      | cons y ys =>
        refine range_ne hr ?_ u; rintro rfl
        have := hr 7 _ rows_str
        rw [R.cell] at this; exact hs _ _ this
    · have hy' : y.1 ∈ l := by
        have : y.1 ∈ ys.map Prod.fst := List.mem_map.2 ⟨y, hy, rfl⟩
        rw [h1] at this; exact this
      obtain ⟨m, hm, hx⟩ := rows_mem hx; obtain ⟨e1, e2, e3⟩ := hl _ hy' m hm; simp only [M.cells, List.mem_cons, Value.int.injEq, List.not_mem_nil, or_false, true_and] at hx
      rcases hx with hx | hx | hx
      · exact e1 hx.symm
      · exact e2 hx.symm
      · exact e3 hx.symm
end Go.Proofs.YtfjpbmdmkcihcaaGreat
/- Facts of what is read: a value, its texts, its marks. -/
namespace Go.Proofs.YtfjpbmdmkcihcaaGreat
open Go.RowKit
open Go.Sort

/-- What a value is that is read. -/
def vP (k : Int) (l : List Bs) : Value → World → Prop := fun v w => ∃ u, v = VV k u ∧ THas w u l
theorem vP_keeps (k : Int) (l : List Bs) : Keeps (vP k l) := fun _ _ _ ⟨u, e, h⟩ hb => ⟨u, e, h.later hb⟩
/-- A slice of these texts. -/
def thP (l : List Bs) : Value → World → Prop := fun v w => THas w v l
theorem thP_keeps (l : List Bs) : Keeps (thP l) := fun _ _ _ h hb => THas.later h hb
/-- A slice of these marks. -/
def mkP (l : List M) : Value → World → Prop := fun v w => MHas w v l
theorem mkP_keeps (l : List M) : Keeps (mkP l) := fun _ _ _ h hb => h.later hb
end Go.Proofs.YtfjpbmdmkcihcaaGreat
