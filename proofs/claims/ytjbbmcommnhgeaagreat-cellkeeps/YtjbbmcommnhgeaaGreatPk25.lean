import Derived.Test.YtjbbmcommnhgeaaGreatPk24
set_option maxRecDepth 100000
set_option maxHeartbeats 8000000
namespace Go.Proofs.YtjbbmcommnhgeaaGreat
open Go.RowKit
def oE (l : List El) : List El := ord kE rE lE l (l.length + 1) zK
structure Tre (l : List El) : Prop where
 up : l.Pairwise (fun a b => kl (kE a) (kE b) = true)
 nz : ∀ e ∈ l, kE e ≠ zK
 rt : Rooted kE rE zK l
 rk : ∃ R : K → Nat, Rk kE rE R l
theorem Tre.inj {l : List El} (h : Tre l) : ∀ a ∈ l, ∀ b ∈ l, kE a = kE b → a = b := fun a ha b hb e => by
 obtain ⟨i, hi, rfl⟩ := List.getElem_of_mem ha
 obtain ⟨j, hj, rfl⟩ := List.getElem_of_mem hb
 obtain rfl := up_inj h.up hi hj e
 rfl
theorem upNodup {l : List El} (h : l.Pairwise (fun a b => kl (kE a) (kE b) = true)) : l.Nodup := h.imp_of_mem (fun _ _ hk e => by
 rw [e, kl_irr] at hk
 cases hk)
theorem up_iff {l : List El} (h : Tre l) {i j : Nat} (hi : i < l.length) (hj : j < l.length) : upL l (i + 1) = j + 1 ↔ rE l[i] = kE l[j] := by
 rw [upL_succ hi]
 constructor
 ·intro e
  by_cases hz : rE l[i] = zK
  ·rw [if_pos hz] at e
   omega
  ·rw [if_neg hz] at e
   cases hp : pl l (rE l[i]) with
   | none => rw [hp] at e; simp at e
   | some k =>
    rw [hp] at e
    obtain rfl : k = j := by simpa using e
    exact (pl_some hp).2.symm
 ·intro e
  rw [if_neg (by rw [e]; exact h.nz _ (List.getElem_mem _)), e, pl_at h.up hj]
theorem up_none {l : List El} (h : Tre l) {i : Nat} (hi : i < l.length) : upL l (i + 1) = 0 ↔ rE l[i] = zK := by
 rw [upL_succ hi]
 constructor
 ·intro e
  by_cases hz : rE l[i] = zK
  ·exact hz
  ·rw [if_neg hz] at e
   cases hp : pl l (rE l[i]) with
   | some k => rw [hp] at e; simp at e
   | none =>
    rcases h.rt l[i] (List.getElem_mem _) with k | ⟨p, hp2, k⟩
    ·exact k
    ·exact absurd k (pl_none.1 hp p hp2)
 ·intro e
  rw [if_pos e]
theorem tre_of {l : List El} (hc : ce l = true) (hr : cr l = true) : Tre l where
 up := ce_up hc
 nz := fun e he => ie_nz (ce_ie hc e he)
 rt := fun e he => by
  rcases okR_iff.1 (cr_parts hr).1 e he with k | ⟨j, k⟩
  ·exact Or.inl k
  ·obtain ⟨hj, k⟩ := pl_some k
   exact Or.inr ⟨l[j], List.getElem_mem _, k⟩
 rk := by
  refine ⟨fun m => match pl l m with | some j => dp (upL l) l.length (j + 1) | none => 0, fun e he => ?_⟩
  obtain ⟨k, hk, rfl⟩ := List.getElem_of_mem he
  have h1 := rk_plc hr (k + 1) (plc_mem.2 ⟨by omega, by omega⟩)
  rw [upL_succ hk] at h1
  show (match pl l (kE l[k]) with | some j => dp (upL l) l.length (j + 1) | none => 0) = (match pl l (rE l[k]) with | some j => dp (upL l) l.length (j + 1) | none => 0) + 1
  rw [pl_at (ce_up hc) hk]
  show dp (upL l) l.length (k + 1) = _
  rw [h1]
  have hz : dp (upL l) l.length 0 = 0 := by
   cases l.length with
   | zero => rfl
   | succ n => simp [dp]
  rcases okR_iff.1 (cr_parts hr).1 l[k] (List.getElem_mem _) with e | ⟨j, e⟩
  ·rw [if_pos e, hz]
   have : pl l (rE l[k]) = none := by
    rw [e]
    exact pl_none.2 (fun a ha => ie_nz (ce_ie hc a ha))
   rw [this]
  ·by_cases hz' : rE l[k] = zK
   ·obtain ⟨hj, e'⟩ := pl_some e
    exact absurd (e'.trans hz') (ie_nz (ce_ie hc l[j] (List.getElem_mem _)))
   ·rw [if_neg hz', e]
theorem cr_of {l : List El} (h : Tre l) : cr l = true := by
 obtain ⟨R, hR⟩ := h.rk
 unfold cr
 rw [Bool.and_eq_true]
 refine ⟨okR_iff.2 (fun e he => ?_), noR_iff.2 (fun k hk => ?_)⟩
 ·rcases h.rt e he with k | ⟨p, hp, k⟩
  ·exact Or.inl k
  ·obtain ⟨j, hj, rfl⟩ := List.getElem_of_mem hp
   exact Or.inr ⟨j, by rw [← k]; exact pl_at h.up hj⟩
 ·refine rt_of_rank (f := upL l) (n := l.length) (fun k => match k with | 0 => 0 | k + 1 => match l[k]? with | some e => R (kE e) | none => 0) (fun k _ => upL_le l k) (fun k hk hk0 => ?_) _ k hk (Nat.le_refl _)
  obtain ⟨i, rfl⟩ : ∃ i, k = i + 1 := ⟨k - 1, by omega⟩
  have hi : i < l.length := by omega
  have hr := hR l[i] (List.getElem_mem _)
  cases e : upL l (i + 1) with
  | zero =>
   show 0 < (match l[i]? with | some e => R (kE e) | none => 0)
   rw [List.getElem?_eq_getElem hi]
   show 0 < R (kE l[i])
   omega
  | succ j =>
   have hj : j < l.length := by
    have := upL_le l (i + 1)
    omega
   have e2 := (up_iff h hi hj).1 e
   show (match l[j]? with | some e => R (kE e) | none => 0) < (match l[i]? with | some e => R (kE e) | none => 0)
   rw [List.getElem?_eq_getElem hi, List.getElem?_eq_getElem hj]
   show R (kE l[j]) < R (kE l[i])
   rw [← e2]
   omega
theorem Tre.bd {l : List El} (h : Tre l) : ∃ R : K → Nat, Rk kE rE R l ∧ ∀ e ∈ l, R (kE e) ≤ l.length := by
 have hr := cr_of h
 have hz : dp (upL l) l.length 0 = 0 := by
  cases l.length with
  | zero => rfl
  | succ n => simp [dp]
 refine ⟨fun m => match pl l m with | some j => dp (upL l) l.length (j + 1) | none => 0, fun e he => ?_, fun e he => ?_⟩
 ·obtain ⟨k, hk, rfl⟩ := List.getElem_of_mem he
  have h1 := rk_plc hr (k + 1) (plc_mem.2 ⟨by omega, by omega⟩)
  rw [upL_succ hk] at h1
  show (match pl l (kE l[k]) with | some j => dp (upL l) l.length (j + 1) | none => 0) = (match pl l (rE l[k]) with | some j => dp (upL l) l.length (j + 1) | none => 0) + 1
  rw [pl_at h.up hk]
  show dp (upL l) l.length (k + 1) = _
  rw [h1]
  rcases okR_iff.1 (cr_parts hr).1 l[k] (List.getElem_mem _) with e | ⟨j, e⟩
  ·rw [if_pos e, hz]
   have : pl l (rE l[k]) = none := by
    rw [e]
    exact pl_none.2 h.nz
   rw [this]
  ·by_cases hz' : rE l[k] = zK
   ·obtain ⟨hj, e'⟩ := pl_some e
    exact absurd (e'.trans hz') (h.nz l[j] (List.getElem_mem _))
   ·rw [if_neg hz', e]
 ·show (match pl l (kE e) with | some j => dp (upL l) l.length (j + 1) | none => 0) ≤ l.length
  split
  ·exact dp_le _ _ _
  ·omega
theorem klTot {l : List El} (h : ∀ a ∈ l, ∀ b ∈ l, kE a = kE b → a = b) : Tot (fun a b => kl (kE a) (kE b)) l where
 irr := fun a _ => kl_irr _
 trans := fun a _ b _ c _ h1 h2 => by
  rw [kl_iff] at h1 h2 ⊢
  omega
 tot := fun a ha b hb hne => by
  rw [kl_iff, kl_iff]
  have h1 : ¬ (kE a = kE b) := fun e => hne (h a ha b hb e)
  have h2 : ¬ ((kE a).1 = (kE b).1 ∧ (kE a).2.1 = (kE b).2.1 ∧ (kE a).2.2 = (kE b).2.2) := fun e => h1 (k_ext e.1 e.2.1 e.2.2)
  omega
theorem lE_iff {a b : El} : lE a b = true ↔ b.t < a.t ∨ (b.t = a.t ∧ kl (kE b) (kE a) = true) := by
 simp [lE]
theorem lE_tot {l : List El} (h : ∀ a ∈ l, ∀ b ∈ l, kE a = kE b → a = b) : Tot lE l where
 irr := fun a _ => by
  rw [Bool.eq_false_iff, ne_eq, lE_iff, kl_irr]
  simp
 trans := fun a ha b hb c hc h1 h2 => by
  rw [lE_iff] at h1 h2 ⊢
  have h3 := (klTot h).trans c hc b hb a ha
  rcases h1 with h1 | h1 <;> rcases h2 with h2 | h2
  ·exact Or.inl (by omega)
  ·exact Or.inl (by omega)
  ·exact Or.inl (by omega)
  ·exact Or.inr ⟨by omega, h3 h2.2 h1.2⟩
 tot := fun a ha b hb hne => by
  rw [lE_iff, lE_iff]
  have h3 := (klTot h).tot a ha b hb hne
  rcases Int.lt_trichotomy a.t b.t with k | k | k
  ·exact Or.inr (Or.inl k)
  ·rcases h3 with h3 | h3
   ·exact Or.inr (Or.inr ⟨k, h3⟩)
   ·exact Or.inl (Or.inr ⟨k.symm, h3⟩)
  ·exact Or.inl (Or.inl k)
def gL (l : List El) (k : Nat) : El := (l[k - 1]?).getD ⟨0, 0, 0, 0, 0, 0, 0, noS, []⟩
def ky (l : List El) (p : Nat) : K := if p = 0 then zK else kE (gL l p)
theorem gL_succ {l : List El} {k : Nat} (hk : k < l.length) : gL l (k + 1) = l[k] := by simp [gL, List.getElem?_eq_getElem hk]
theorem tm_gL (l : List El) (k : Nat) : tmL l k = (gL l k).t := by
 unfold tmL gL
 cases l[k - 1]? with
 | none => rfl
 | some e => rfl
theorem plc_gL (l : List El) : (plc l.length).map (gL l) = l := by
 apply List.ext_getElem
 ·simp [plc_len]
 ·intro i h1 h2
  simp only [plc, List.getElem_map, List.getElem_range]
  exact gL_succ h2
section
variable {E F : Type} {ah : E → E → Bool} {bh : F → F → Bool}
theorem insS_map' (g : E → F) (x : E) : ∀ l : List E, (∀ b ∈ l, bh (g x) (g b) = ah x b) → insS bh (g x) (l.map g) = (insS ah x l).map g
 | [], _ => rfl
 | y :: t, h => by
  simp only [List.map_cons, insS, h y (by simp)]
  split
  ·rfl
  ·rw [insS_map' g x t (fun b hb => h b (by simp [hb]))]
   rfl
theorem srtA_map' (g : E → F) : ∀ (l a : List E), (∀ x ∈ a ++ l, ∀ y ∈ a ++ l, bh (g x) (g y) = ah x y) → (l.map g).foldl (fun a x => insS bh x a) (a.map g) = (l.foldl (fun a x => insS ah x a) a).map g
 | [], _, _ => rfl
 | x :: t, a, h => by
  simp only [List.map_cons, List.foldl_cons]
  rw [insS_map' g x a (fun b hb => h x (by simp) b (by simp [hb]))]
  refine srtA_map' g t _ (fun y hy z hz => h y ?_ z ?_)
  ·rw [List.mem_append, (insS_perm ah x a).mem_iff, List.mem_cons] at hy
   simp only [List.mem_append, List.mem_cons]
   rcases hy with (rfl | k) | k <;> simp_all
  ·rw [List.mem_append, (insS_perm ah x a).mem_iff, List.mem_cons] at hz
   simp only [List.mem_append, List.mem_cons]
   rcases hz with (rfl | k) | k <;> simp_all
theorem srt_map' (g : E → F) (l : List E) (h : ∀ x ∈ l, ∀ y ∈ l, bh (g x) (g y) = ah x y) : srt bh (l.map g) = (srt ah l).map g := srtA_map' g l [] (by simpa using h)
end
theorem lat_gL {l : List El} (h : Tre l) {a b : Nat} (ha : a ∈ plc l.length) (hb : b ∈ plc l.length) : lE (gL l a) (gL l b) = lat l a b := by
 rw [plc_mem] at ha hb
 obtain ⟨i, rfl⟩ : ∃ i, a = i + 1 := ⟨a - 1, by omega⟩
 obtain ⟨j, rfl⟩ : ∃ j, b = j + 1 := ⟨b - 1, by omega⟩
 unfold lE lat
 rw [tm_gL, tm_gL]
 congr 2
 rw [gL_succ (by omega), gL_succ (by omega)]
 have h1 := List.pairwise_iff_getElem.1 h.up
 rcases Nat.lt_trichotomy j i with k | k | k
 ·rw [h1 j i (by omega) (by omega) k, decide_eq_true (by omega)]
 ·subst k
  rw [kl_irr, decide_eq_false (by omega)]
 ·have h2 := h1 i j (by omega) (by omega) k
  rw [decide_eq_false (by omega), Bool.eq_false_iff]
  intro h3
  rw [kl_iff] at h2 h3
  omega
theorem up_ky {l : List El} (h : Tre l) {a p : Nat} (ha : a ∈ plc l.length) (hp : p ≤ l.length) : rE (gL l a) = ky l p ↔ upL l a = p := by
 rw [plc_mem] at ha
 obtain ⟨i, rfl⟩ : ∃ i, a = i + 1 := ⟨a - 1, by omega⟩
 rw [gL_succ (by omega)]
 cases p with
 | zero => exact (up_none h (by omega)).symm
 | succ j =>
  unfold ky
  rw [if_neg (by omega), gL_succ (by omega)]
  exact (up_iff h (by omega) (by omega)).symm
theorem kids_gL {l : List El} (h : Tre l) {p : Nat} (hp : p ≤ l.length) : kids rE lE l (ky l p) = (kids (upL l) (lat l) (plc l.length) p).map (gL l) := by
 unfold kids
 have e : l.filter (fun e => decide (rE e = ky l p)) = ((plc l.length).filter (fun a => decide (upL l a = p))).map (gL l) := by
  conv => lhs; rw [← plc_gL l]
  rw [List.filter_map]
  congr 1
  refine List.filter_congr (fun a ha => ?_)
  simp only [Function.comp, plc_gL]
  rw [Bool.eq_iff_iff, decide_eq_true_iff, decide_eq_true_iff]
  exact up_ky h ha hp
 rw [e]
 refine srt_map' (gL l) _ (fun x hx y hy => lat_gL h (List.mem_filter.1 hx).1 (List.mem_filter.1 hy).1)
theorem ord_gL {l : List El} (h : Tre l) : ∀ (f p : Nat), p ≤ l.length → (ord id (upL l) (lat l) (plc l.length) f p).map (gL l) = ord kE rE lE l f (ky l p)
 | 0, _, _ => rfl
 | f + 1, p, hp => by
  unfold ord
  rw [kids_gL h hp, List.map_flatMap, List.flatMap_map]
  refine flat_congr (fun c hc => ?_)
  have hc' := plc_mem.1 (kids_mem.1 hc).1
  rw [List.map_cons]
  have e := ord_gL h f c hc'.2
  unfold ky at e
  rw [if_neg hc'.1] at e
  rw [← e]
  rfl
theorem prE_eq {l : List El} (h : Tre l) : prE l = (oE l).filter nog := by
 have e := ord_gL h (l.length + 1) 0 (Nat.zero_le _)
 have hm : ∀ k ∈ odP l 0, k ∈ plc l.length := fun k hk => (od_perm (cr_of h)).mem_iff.1 hk
 unfold oE
 have hz : ky l 0 = zK := rfl
 rw [← hz, ← e]
 show prL nog l (odP l 0) = ((odP l 0).map (gL l)).filter nog
 generalize odP l 0 = ks at hm
 induction ks with
 | nil => rfl
 | cons k ks ih =>
  have hk := plc_mem.1 (hm k (by simp))
  obtain ⟨i, rfl⟩ : ∃ i, k = i + 1 := ⟨k - 1, by omega⟩
  have ih := ih (fun a ha => hm a (by simp [ha]))
  unfold prL at ih ⊢
  rw [List.filterMap_cons, List.map_cons, List.filter_cons, ← ih, gL_succ (by omega)]
  have : l[i + 1 - 1]? = some l[i] := List.getElem?_eq_getElem (by omega)
  rw [this]
  simp only [Option.bind_some]
  cases nog l[i] <;> simp
theorem oE_perm {l : List El} (h : Tre l) : (oE l).Perm l := by
 obtain ⟨R, hR, hB⟩ := h.bd
 exact ord_perm (upNodup h.up) hR h.inj h.rt (fun e he => Nat.le_succ_of_le (hB e he))
theorem oE_fuel {l : List El} (h : Tre l) {f : Nat} (hf : l.length ≤ f) : ord kE rE lE l f zK = oE l := by
 obtain ⟨R, hR, hB⟩ := h.bd
 exact ord_fuel hR hB (by omega) (by omega)
theorem tre_filter {l : List El} (h : Tre l) {p : El → Bool} (hd : ∀ e ∈ l, ∀ c ∈ l, kE c = rE e → p c = false → p e = false) : Tre (l.filter p) where
 up := h.up.sublist List.filter_sublist
 nz := fun e he => h.nz e (List.mem_filter.1 he).1
 rt := fun e he => by
  obtain ⟨h1, h2⟩ := List.mem_filter.1 he
  rcases h.rt e h1 with k | ⟨c, hc, k⟩
  ·exact Or.inl k
  ·refine Or.inr ⟨c, List.mem_filter.2 ⟨hc, ?_⟩, k⟩
   cases hp : p c with
   | true => rfl
   | false => rw [hd e h1 c hc k hp] at h2; cases h2
 rk := by
  obtain ⟨R, hR⟩ := h.rk
  exact ⟨R, hR.sub (fun a ha => (List.mem_filter.1 ha).1)⟩
theorem oE_filter {l : List El} (h : Tre l) {p : El → Bool} (hd : ∀ e ∈ l, ∀ c ∈ l, kE c = rE e → p c = false → p e = false) : oE (l.filter p) = (oE l).filter p := by
 rw [← oE_fuel (tre_filter h hd) (f := l.length + 1) (Nat.le_succ_of_le (List.length_filter_le _ _))]
 exact (ord_filter (fun m => (lE_tot h.inj).sub (fun a ha => (List.mem_filter.1 ha).1)) (upNodup h.up) hd _ _).symm
theorem ins_mem {e y : El} {l : List El} : y ∈ insE e l ↔ y = e ∨ y ∈ l := by
 unfold insE
 rw [List.mem_append, List.mem_cons, List.mem_filter, List.mem_filter]
 constructor
 ·rintro (h | h | h)
  ·exact Or.inr h.1
  ·exact Or.inl h
  ·exact Or.inr h.1
 ·rintro (h | h)
  ·exact Or.inr (Or.inl h)
  ·by_cases hk : kl (kE y) (kE e) = true
   ·exact Or.inl ⟨h, hk⟩
   ·exact Or.inr (Or.inr ⟨h, by simpa using hk⟩)
theorem ins_up {e : El} {l : List El} (h : l.Pairwise (fun a b => kl (kE a) (kE b) = true)) (hn : ∀ y ∈ l, kE y ≠ kE e) : (insE e l).Pairwise (fun a b => kl (kE a) (kE b) = true) := by
 unfold insE
 have gt : ∀ y ∈ l, kl (kE y) (kE e) = false → kl (kE e) (kE y) = true := fun y hy hk => by
  have h1 : ¬ ((kE y).1 = (kE e).1 ∧ (kE y).2.1 = (kE e).2.1 ∧ (kE y).2.2 = (kE e).2.2) := fun h => hn y hy (k_ext h.1 h.2.1 h.2.2)
  have h2 : ¬ kl (kE y) (kE e) = true := by rw [hk]; simp
  rw [kl_iff] at h2 ⊢
  omega
 rw [List.pairwise_append]
 refine ⟨h.sublist List.filter_sublist, List.pairwise_cons.2 ⟨fun y hy => ?_, h.sublist List.filter_sublist⟩, fun a ha b hb => ?_⟩
 ·obtain ⟨h1, h2⟩ := List.mem_filter.1 hy
  exact gt y h1 (by simpa using h2)
 ·obtain ⟨h1, h2⟩ := List.mem_filter.1 ha
  rcases List.mem_cons.1 hb with rfl | hb
  ·exact h2
  ·obtain ⟨h3, h4⟩ := List.mem_filter.1 hb
   have h5 := gt b h3 (by simpa using h4)
   rw [kl_iff] at h2 h5 ⊢
   omega
theorem tre_ins {e : El} {l : List El} (h : Tre l) (hz : kE e ≠ zK) (hn : ∀ y ∈ l, kE y ≠ kE e) (hr : rE e = zK ∨ ∃ p ∈ l, kE p = rE e) : Tre (insE e l) where
 up := ins_up h.up hn
 nz := fun y hy => by
  rcases ins_mem.1 hy with rfl | hy
  ·exact hz
  ·exact h.nz y hy
 rt := fun y hy => by
  rcases ins_mem.1 hy with rfl | hy
  ·rcases hr with k | ⟨p, hp, k⟩
   ·exact Or.inl k
   ·exact Or.inr ⟨p, ins_mem.2 (Or.inr hp), k⟩
  ·rcases h.rt y hy with k | ⟨p, hp, k⟩
   ·exact Or.inl k
   ·exact Or.inr ⟨p, ins_mem.2 (Or.inr hp), k⟩
 rk := by
  obtain ⟨R, hR⟩ := h.rk
  have nr : ∀ y, (rE y = zK ∨ ∃ p ∈ l, kE p = rE y) → rE y ≠ kE e := fun y hy hc => by
   rcases hy with k | ⟨p, hp, k⟩
   ·exact hz (by rw [← hc, k])
   ·exact hn p hp (k.trans hc)
  refine ⟨fun k => if k = kE e then R (rE e) + 1 else R k, fun y hy => ?_⟩
  show (if kE y = kE e then _ else _) = (if rE y = kE e then _ else _) + 1
  rcases ins_mem.1 hy with rfl | hy
  ·rw [if_pos rfl, if_neg (nr y hr)]
  ·rw [if_neg (hn y hy), if_neg (nr y (h.rt y hy))]
   exact hR y hy
theorem ck_ins {x : X} {e : El} {p : M → Bool} (h : ck x = true) : ck (insX x e p) = true := by
 unfold insX
 split
 ·rename_i hh
  rw [Bool.and_eq_true, Bool.and_eq_true, Bool.and_eq_true] at hh
  obtain ⟨_, h2, h3, h4⟩ := hh
  have h' := h
  obtain ⟨k1, k2, k3, k4, k5, k6, k7⟩ := ck_parts h
  have T := tre_of k6 k7
  have hn : ∀ y ∈ x.el, kE y ≠ kE e := by
   cases hp : pl x.el (kE e) with
   | none => exact pl_none.1 hp
   | some j => rw [hp] at h4; cases h4
  have T2 := tre_ins T (ie_nz h2) hn (by
   unfold tk at h3
   rw [Bool.or_eq_true, decide_eq_true_iff] at h3
   rcases h3 with h3 | h3
   ·exact Or.inl h3
   ·split at h3
    ·rename_i a ha
     exact Or.inr ⟨a, List.mem_of_find?_eq_some ha, by simpa using List.find?_some ha⟩
    ·cases h3)
  unfold ck
  simp only [Bool.and_eq_true, decide_eq_true_eq]
  refine ⟨k1, k2, by omega, ce_of (fun y hy => ?_) T2.up, cr_of T2⟩
  rcases ins_mem.1 hy with rfl | hy
  ·exact h2
  ·exact ce_ie k6 y hy
 ·exact h
theorem tre_ck {x : X} (h : ck x = true) : Tre x.el := tre_of (ck_parts h).2.2.2.2.2.1 (ck_parts h).2.2.2.2.2.2
theorem rdT_oE {x : X} (h : ck x = true) : rdT x = ((oE x.el).filter nog).map tE := by
 unfold rdT
 rw [if_pos h, prE_eq (tre_ck h)]
theorem stay_filter {g : Nat → Bool} {q : El → Bool} : ∀ (k : Nat) (l : List El), (∀ i (h : i < l.length), q l[i] = !g (k + i + 1)) → stay g k l = l.filter q
 | _, [], _ => rfl
 | k, a :: t, h => by
  unfold stay
  have h0 := h 0 (by simp)
  simp only [List.getElem_cons_zero, Nat.add_zero] at h0
  have ih := stay_filter (k + 1) t (q := q) (g := g) (fun i hi => by
   have := h (i + 1) (by simpa using hi)
   simp only [List.getElem_cons_succ] at this
   rw [this, show k + (i + 1) + 1 = k + 1 + i + 1 by omega])
  rw [List.filter_cons, h0, ih]
  cases g (k + 1) <;> rfl
def gFx (l : List El) (p : M → Bool) : Nat → Bool := gF (upL l) l.length (stL l p) (l.length + 1)
def qF (l : List El) (p : M → Bool) (e : El) : Bool := !gFx l p ((pl l (kE e)).getD 0 + 1)
theorem qF_at {l : List El} (h : Tre l) (p : M → Bool) {i : Nat} (hi : i < l.length) : qF l p l[i] = !gFx l p (i + 1) := by
 unfold qF
 rw [pl_at h.up hi]
 rfl
theorem fdE_filter {l : List El} (h : Tre l) (p : M → Bool) : fdE l p = l.filter (qF l p) :=
 stay_filter 0 l (fun i hi => by rw [qF_at h p hi, Nat.zero_add]; rfl)
theorem gFx_fix {l : List El} (h : Tre l) (p : M → Bool) : Fix (upL l) l.length (stL l p) (gFx l p) := gF_fix (fun k _ => upL_le l k) (upL_zero l) (cr_parts (cr_of h)).2
theorem qF_shut {l : List El} (h : Tre l) (p : M → Bool) : ∀ e ∈ l, ∀ c ∈ l, kE c = rE e → qF l p c = false → qF l p e = false := fun e he c hc hk hq => by
 obtain ⟨i, hi, rfl⟩ := List.getElem_of_mem he
 obtain ⟨j, hj, rfl⟩ := List.getElem_of_mem hc
 rw [qF_at h p hj, Bool.not_eq_false'] at hq
 rw [qF_at h p hi, Bool.not_eq_false']
 exact ((gFx_fix h p (j + 1) (by omega) (by omega)).1 hq).2 (i + 1) (by omega) (by omega) ((up_iff h hi hj).2 hk.symm)
theorem qF_nog {l : List El} (h : Tre l) (p : M → Bool) {e : El} (he : e ∈ l) (hn : nog e = true) : qF l p e = true := by
 obtain ⟨i, hi, rfl⟩ := List.getElem_of_mem he
 rw [qF_at h p hi, Bool.not_eq_true']
 cases hg : gFx l p (i + 1) with
 | false => rfl
 | true =>
  have h1 := ((gFx_fix h p (i + 1) (by omega) (by omega)).1 hg).1
  rw [stL_succ hi] at h1
  unfold nog at hn
  rw [decide_eq_true_iff, List.length_eq_zero_iff] at hn
  rw [hn] at h1
  cases h1
theorem filter_both {p q : El → Bool} {l : List El} (h : ∀ e ∈ l, p e = true → q e = true) : (l.filter q).filter p = l.filter p := by
 rw [List.filter_filter]
 refine List.filter_congr (fun e he => ?_)
 cases hp : p e with
 | false => rfl
 | true => rw [h e he hp]; rfl
theorem tre_fd {l : List El} (h : Tre l) (p : M → Bool) : Tre (fdE l p) := by
 rw [fdE_filter h p]
 exact tre_filter h (qF_shut h p)
theorem oE_fd {l : List El} (h : Tre l) (p : M → Bool) : (oE (fdE l p)).filter nog = (oE l).filter nog := by
 rw [fdE_filter h p, oE_filter h (qF_shut h p)]
 exact filter_both (fun e he hn => qF_nog h p ((oE_perm h).mem_iff.1 he) hn)
theorem ck_fd {x : X} (h : ck x = true) (p : M → Bool) : ck (fdX x p) = true := by
 have T := tre_fd (tre_ck h) p
 obtain ⟨k1, k2, k3, k4, k5, k6, k7⟩ := ck_parts h
 unfold fdX
 rw [if_pos h]
 unfold ck
 simp only [Bool.and_eq_true, decide_eq_true_eq]
 refine ⟨k1, k2, by omega, ce_of (fun y hy => ce_ie k6 y ?_) T.up, cr_of T⟩
 exact (stay_sub _ _ _).mem hy
theorem el_fd {x : X} (h : ck x = true) (p : M → Bool) : (fdX x p).el = fdE x.el p := by
 unfold fdX
 rw [if_pos h]
theorem rdT_fd {x : X} (h : ck x = true) (p : M → Bool) : rdT (fdX x p) = rdT x := by
 rw [rdT_oE (ck_fd h p), rdT_oE h, el_fd h p, oE_fd (tre_ck h) p]
end Go.Proofs.YtjbbmcommnhgeaaGreat
namespace Go.Proofs.YtjbbmcommnhgeaaGreat
open Go.RowKit
namespace Ct
theorem ck_am {x : X} (hc : ck x = true) {l : List A} (hl : ca l = true) : ck { x with am := l } = true := by
 unfold ck at hc ⊢
 simp only [Bool.and_eq_true, decide_eq_true_eq] at hc ⊢
 exact ⟨hc.1, hc.2.1, hc.2.2.1, hl⟩
theorem ck_do {x : X} {a : A} (hc : ck x = true) : ck (doX x a) = true ∧ (doX x a).k = x.k := by
 unfold doX
 split
 ·rename_i h
  simp only [Bool.and_eq_true, Bool.not_eq_true'] at h
  exact ⟨ck_am hc (insF_ca (ck_parts hc).2.2.2.2.2 h.2.1 h.2.2), rfl⟩
 ·exact ⟨hc, rfl⟩
theorem ck_of {b : Int} {l : List A} (hb : wi b (-1152921504606846976) 1152921504606846976 = true) (hl : ca l = true) : ck ⟨1, b, l, [], [], []⟩ = true := by
 unfold ck
 rw [hb, hl]
 rfl
theorem ck_cl {x : X} {q u : Int} {v : List Int} {i : Int} (hc : ck x = true) : ck (clX x q u v i) = true ∧ (clX x q u v i).k = x.k := by
 unfold clX
 rw [if_pos hc]
 exact ⟨ck_of (by decide) (ca_filter (ck_parts hc).2.2.2.2.2 _), (ck_parts hc).1.symm⟩
theorem ck_fo {x : X} {v : List Int} (hc : ck x = true) : ck (foX x v) = true ∧ (foX x v).k = x.k ∧ rdK (foX x v) = rdK x ∧ rdN (foX x v) = rdN x := by
 unfold foX
 split
 ·rename_i h
  simp only [Bool.and_eq_true] at h
  have h1 := ck_of h.2 (ca_filter (ck_parts hc).2.2.2.2.2 (fun a => !hs v a.p a.s))
  refine ⟨h1, (ck_parts hc).1.symm, ?_, ?_⟩
  ·unfold rdK
   rw [if_pos hc, if_pos (show ck ⟨1, bsX x v, rst x v, [], [], []⟩ = true from h1)]
  ·unfold rdN
   rw [if_pos hc, if_pos (show ck ⟨1, bsX x v, rst x v, [], [], []⟩ = true from h1)]
   show bsX x v + sm (rst x v) = _
   unfold bsX
   omega
 ·exact ⟨hc, rfl, rfl, rfl⟩
end Ct
namespace Rg
theorem ck_do {x : X} {a : Wt} {v : List Int} (hc : ck x = true) : ck (doX x a v) = true ∧ (doX x a v).k = x.k := by
 unfold doX
 split
 ·rename_i h
  simp only [Bool.and_eq_true, Bool.not_eq_true'] at h
  exact ⟨ck_one hc h.2.1 h.2.2, rfl⟩
 ·exact ⟨hc, rfl⟩
theorem ck_cl {x : X} {q u : Int} {v : List Int} {i : Int} (hc : ck x = true) : ck (clX x q u v i) = true ∧ (clX x q u v i).k = x.k := by
 unfold clX
 rw [if_pos hc]
 exact ⟨ck_wr hc (ca_filter (ck_parts hc).2.2.2.2.2 _), rfl⟩
end Rg
namespace Os
theorem k_add (x : X) (m : M) (s : ByteArray) : (addX x m s).k = x.k := by
 unfold addX
 split <;> rfl
theorem k_wo (x : X) (i : Int) (G : Mb → Bool) (p : M → Bool) : (woX x i G p).k = x.k := by
 unfold woX
 split <;> rfl
theorem ck_fo {x : X} {v : List Int} (hc : ck x = true) : ck (fdX x v) = true ∧ (fdX x v).k = x.k ∧ rdK (fdX x v) = rdK x ∧ rdT (fdX x v) = rdT x := by
 have h1 := ck_fdX hc v
 refine ⟨h1, ?_, ?_, ?_⟩
 ·unfold fdX
  split <;> rfl
 ·rw [rdK_ck hc, rdK_ck h1]
 ·rw [rdT_ck hc, rdT_ck h1, fdX_ck hc]
  exact fd_txL _ _
end Os
theorem k_go (x : X) (m : M) (f : M → Bool) : (goX x m f).k = x.k := by
 unfold goX
 split <;> rfl
theorem k_ins (x : X) (e : El) (p : M → Bool) : (insX x e p).k = x.k := by
 unfold insX
 split <;> rfl
theorem ck_gox {x : X} {m : M} {f : M → Bool} (h : ck x = true) : ck (goX x m f) = true := by
 cases e : im m.i
 ·unfold goX
  rw [if_neg (by rw [e]; simp)]
  exact h
 ·exact ck_go h e
theorem ck_fo {x : X} {p : M → Bool} (hc : ck x = true) : ck (fdX x p) = true ∧ (fdX x p).k = x.k ∧ rdK (fdX x p) = rdK x ∧ rdT (fdX x p) = rdT x := by
 have h1 := ck_fd hc p
 refine ⟨h1, ?_, ?_, rdT_fd hc p⟩
 ·unfold fdX
  split <;> rfl
 ·unfold rdK
  rw [if_pos hc, if_pos h1]
theorem by_ck {P : X → Prop} {x : X} (h : ckc x = true) (h1 : ∀ b am wr mb el, Ct.ck ⟨1, b, am, wr, mb, el⟩ = true → P ⟨1, b, am, wr, mb, el⟩) (h2 : ∀ b am wr mb el, Rg.ck ⟨2, b, am, wr, mb, el⟩ = true → P ⟨2, b, am, wr, mb, el⟩) (h3 : ∀ b am wr mb el, Rg.ck ⟨3, b, am, wr, mb, el⟩ = true → P ⟨3, b, am, wr, mb, el⟩)
  (h4 : ∀ b am wr mb el, Os.ck ⟨4, b, am, wr, mb, el⟩ = true → P ⟨4, b, am, wr, mb, el⟩) (h5 : ∀ b am wr mb el, ck ⟨5, b, am, wr, mb, el⟩ = true → P ⟨5, b, am, wr, mb, el⟩) : P x := by
 obtain ⟨k, b, am, wr, mb, el⟩ := x
 rcases kinds k with rfl | rfl | rfl | rfl | rfl | e
 ·exact h1 b am wr mb el h
 ·exact h2 b am wr mb el h
 ·exact h3 b am wr mb el h
 ·exact h4 b am wr mb el h
 ·exact h5 b am wr mb el h
 ·rw [show ckc ⟨k, b, am, wr, mb, el⟩ = false from cse0 _ _ _ _ _ e] at h
  cases h
theorem of1 {x : X} (h : x.k = 1) : ckc x = Ct.ck x := by unfold ckc; rw [h]; rfl
theorem of2 {x : X} (h : x.k = 2) : ckc x = Rg.ck x := by unfold ckc; rw [h]; rfl
theorem of3 {x : X} (h : x.k = 3) : ckc x = Rg.ck x := by unfold ckc; rw [h]; rfl
theorem of4 {x : X} (h : x.k = 4) : ckc x = Os.ck x := by unfold ckc; rw [h]; rfl
theorem of5 {x : X} (h : x.k = 5) : ckc x = ck x := by unfold ckc; rw [h]; rfl
theorem ck_doc {x : X} {o : O} {q u : Int} {v : List Int} {t i : Int} (h : ckc x = true) : ckc (doc x o q u v t i) = true ∧ (doc x o q u v t i).k = x.k := by
 refine by_ck (P := fun x => ckc (doc x o q u v t i) = true ∧ (doc x o q u v t i).k = x.k) h ?_ ?_ ?_ ?_ ?_
 ·intro b am wr mb el hc
  have H : Ct.ck (doc ⟨1, b, am, wr, mb, el⟩ o q u v t i) = true ∧ (doc ⟨1, b, am, wr, mb, el⟩ o q u v t i).k = 1 := by
   simp only [doc, cse1]
   split
   ·exact Ct.ck_do hc
   ·exact ⟨hc, rfl⟩
  exact ⟨by rw [of1 H.2]; exact H.1, H.2⟩
 ·intro b am wr mb el hc
  have H : Rg.ck (doc ⟨2, b, am, wr, mb, el⟩ o q u v t i) = true ∧ (doc ⟨2, b, am, wr, mb, el⟩ o q u v t i).k = 2 := by
   simp only [doc, cse2]
   split
   ·exact Rg.ck_do hc
   ·exact ⟨hc, rfl⟩
  exact ⟨by rw [of2 H.2]; exact H.1, H.2⟩
 ·intro b am wr mb el hc
  have H : Rg.ck (doc ⟨3, b, am, wr, mb, el⟩ o q u v t i) = true ∧ (doc ⟨3, b, am, wr, mb, el⟩ o q u v t i).k = 3 := by
   simp only [doc, cse3]
   split
   ·exact Rg.ck_do hc
   ·exact ⟨hc, rfl⟩
  exact ⟨by rw [of3 H.2]; exact H.1, H.2⟩
 ·intro b am wr mb el hc
  have H : Os.ck (doc ⟨4, b, am, wr, mb, el⟩ o q u v t i) = true ∧ (doc ⟨4, b, am, wr, mb, el⟩ o q u v t i).k = 4 := by
   simp only [doc, cse4]
   split
   ·exact ⟨Os.ck_addX hc _ _, Os.k_add _ _ _⟩
   ·split
    ·exact ⟨Os.ck_woX hc _ _ _, Os.k_wo _ _ _ _⟩
    ·exact ⟨hc, rfl⟩
  exact ⟨by rw [of4 H.2]; exact H.1, H.2⟩
 ·intro b am wr mb el hc
  have H : ck (doc ⟨5, b, am, wr, mb, el⟩ o q u v t i) = true ∧ (doc ⟨5, b, am, wr, mb, el⟩ o q u v t i).k = 5 := by
   simp only [doc, cse5]
   split
   ·exact ⟨ck_ins hc, k_ins _ _ _⟩
   ·split
    ·exact ⟨ck_gox hc, k_go _ _ _⟩
    ·exact ⟨hc, rfl⟩
  exact ⟨by rw [of5 H.2]; exact H.1, H.2⟩
theorem ck_clc {x : X} {q u : Int} {v : List Int} {i : Int} (h : ckc x = true) : ckc (clc x q u v i) = true ∧ (clc x q u v i).k = x.k := by
 unfold clc
 split
 ·exact ⟨h, rfl⟩
 refine by_ck (P := fun x => ckc (clk x q u v i) = true ∧ (clk x q u v i).k = x.k) h ?_ ?_ ?_ ?_ ?_
 ·intro b am wr mb el hc
  have H : Ct.ck (clk ⟨1, b, am, wr, mb, el⟩ q u v i) = true ∧ (clk ⟨1, b, am, wr, mb, el⟩ q u v i).k = 1 := Ct.ck_cl hc
  exact ⟨by rw [of1 H.2]; exact H.1, H.2⟩
 ·intro b am wr mb el hc
  have H : Rg.ck (clk ⟨2, b, am, wr, mb, el⟩ q u v i) = true ∧ (clk ⟨2, b, am, wr, mb, el⟩ q u v i).k = 2 := Rg.ck_cl hc
  exact ⟨by rw [of2 H.2]; exact H.1, H.2⟩
 ·intro b am wr mb el hc
  have H : Rg.ck (clk ⟨3, b, am, wr, mb, el⟩ q u v i) = true ∧ (clk ⟨3, b, am, wr, mb, el⟩ q u v i).k = 3 := Rg.ck_cl hc
  exact ⟨by rw [of3 H.2]; exact H.1, H.2⟩
 ·intro b am wr mb el hc
  have H : Os.ck (clk ⟨4, b, am, wr, mb, el⟩ q u v i) = true ∧ (clk ⟨4, b, am, wr, mb, el⟩ q u v i).k = 4 := ⟨Os.ck_woX hc _ _ _, Os.k_wo _ _ _ _⟩
  exact ⟨by rw [of4 H.2]; exact H.1, H.2⟩
 ·intro b am wr mb el hc
  have H : ck (clk ⟨5, b, am, wr, mb, el⟩ q u v i) = true ∧ (clk ⟨5, b, am, wr, mb, el⟩ q u v i).k = 5 := ⟨ck_gox hc, k_go _ _ _⟩
  exact ⟨by rw [of5 H.2]; exact H.1, H.2⟩
theorem rd_of {x : X} (k : Int) (h : x.k = k) : rkc x = cse k (Ct.rdK x) (Rg.rdK x) (Os.rdK x) (rdK x) 0 ∧ rnc x = cse k (Ct.rdN x) 0 0 0 0 ∧ rtc x = cse k [] (Rg.rdT x) (Os.rdT x) (rdT x) [] := by
 subst h
 exact ⟨rfl, rfl, rfl⟩
theorem ck_foc {x : X} {v : List Int} (h : ckc x = true) : ckc (foc x v) = true ∧ (foc x v).k = x.k ∧ rkc x = x.k ∧ rkc (foc x v) = rkc x ∧ rnc (foc x v) = rnc x ∧ rtc (foc x v) = rtc x := by
 refine by_ck (P := fun x => ckc (foc x v) = true ∧ (foc x v).k = x.k ∧ rkc x = x.k ∧ rkc (foc x v) = rkc x ∧ rnc (foc x v) = rnc x ∧ rtc (foc x v) = rtc x) h ?_ ?_ ?_ ?_ ?_
 ·intro b am wr mb el hc
  obtain ⟨h1, h2, h3, h4⟩ := Ct.ck_fo (v := v) hc
  have e : foc ⟨1, b, am, wr, mb, el⟩ v = Ct.foX ⟨1, b, am, wr, mb, el⟩ v := rfl
  rw [e]
  obtain ⟨r1, r2, r3⟩ := rd_of 1 h2
  refine ⟨by rw [of1 h2]; exact h1, h2, ?_, by rw [r1]; exact h3, by rw [r2]; exact h4, by rw [r3]; rfl⟩
  show Ct.rdK _ = 1
  unfold Ct.rdK
  rw [if_pos hc]
 ·intro b am wr mb el hc
  refine ⟨hc, rfl, ?_, rfl, rfl, rfl⟩
  show Rg.rdK _ = 2
  unfold Rg.rdK
  rw [if_pos hc]
 ·intro b am wr mb el hc
  refine ⟨hc, rfl, ?_, rfl, rfl, rfl⟩
  show Rg.rdK _ = 3
  unfold Rg.rdK
  rw [if_pos hc]
 ·intro b am wr mb el hc
  obtain ⟨h1, h2, h3, h4⟩ := Os.ck_fo (v := v) hc
  have e : foc ⟨4, b, am, wr, mb, el⟩ v = Os.fdX ⟨4, b, am, wr, mb, el⟩ v := rfl
  rw [e]
  obtain ⟨r1, r2, r3⟩ := rd_of 4 h2
  refine ⟨by rw [of4 h2]; exact h1, h2, ?_, by rw [r1]; exact h3, by rw [r2]; rfl, by rw [r3]; exact h4⟩
  show Os.rdK _ = 4
  exact Os.rdK_ck hc
 ·intro b am wr mb el hc
  obtain ⟨h1, h2, h3, h4⟩ := ck_fo (p := hsP v) hc
  have e : foc ⟨5, b, am, wr, mb, el⟩ v = fdX ⟨5, b, am, wr, mb, el⟩ (hsP v) := rfl
  rw [e]
  obtain ⟨r1, r2, r3⟩ := rd_of 5 h2
  refine ⟨by rw [of5 h2]; exact h1, h2, ?_, by rw [r1]; exact h3, by rw [r2]; rfl, by rw [r3]; exact h4⟩
  show rdK _ = 5
  unfold rdK
  rw [if_pos hc]
end Go.Proofs.YtjbbmcommnhgeaaGreat
namespace Go.Proofs.YtjbbmcommnhgeaaGreat
open Go.RowKit Go.Sort
theorem THas.elem {w : World} {l : List Bs} {g o : Nat} (h : w.rangeAt g o (l.map encStr)) (k : Nat) (hk : k < l.length) : w.cell? ⟨g, o + k, none⟩ = some (encStr l[k]) := h k _ (by simp [hk])
theorem refTexts_any (v1 v2 : Value) (l : List Bs) (w : World) (h1 : THas w v1 l) (h2 : THas w v2 l) : Calls Tryz.prog 33 #[v1, v2] w (Tells (.bool true) w) := by
 have hml := maxLen_lt h1.1
 obtain ⟨p1, c1, rfl⟩ := h1.slice
 obtain ⟨p2, c2, rfl⟩ := h2.slice
 have H1 : Hid (THas w (.slice p1 l.length c1) l) := h1
 have H2 : Hid (THas w (.slice p2 l.length c2) l) := h2
 clear h1 h2
 go_enter Tryz.func33, Tryz.ntmps33
 go_wp2
 go_loopw [5] (fun vi wr => ∃ k : Nat, vi = .int .i64 k ∧ k ≤ l.length ∧ Below w.heap.size w wr) (fun vi _ => l.length - (intOf vi).toNat)
 case atStart => exact ⟨0, rfl, by omega, Below.refl _ _⟩
 case round =>
  obtain ⟨k, rfl, hk, hbel⟩ := hrel
  by_cases hlt : k < l.length
  ·have hlt' : (k : Int) < (l.length : Int) := by omega
   have hk0 : (0 : Int) ≤ (k : Int) := by omega
   obtain ⟨g, o, rfl, hd1⟩ := H1.out.at (by omega)
   obtain ⟨g', o', rfl, hd2⟩ := H2.out.at (by omega)
   have c1 := THas.elem (range_later hd1 hbel) k hlt
   have c2 := THas.elem (range_later hd2 hbel) k hlt
   obtain ⟨s, HS⟩ := hid_ex l[k]
   rw [HS.out] at c1 c2
   clear hd1 hd2 H1 H2 HS
   go_wp2_with fail
   have hs : Calm.Stays (fun w' => w'.cell? ⟨g, o + k, none⟩ = some (encStr s) ∧ w'.cell? ⟨g', o' + k, none⟩ = some (encStr s) ∧ Below w.heap.size w w') := fun wa wb h hb => ⟨cell_later hb h.1, cell_later hb h.2.1, below_on h.2.2 hb⟩
   refine Calm.region (by kernel_rfl) (by kernel_rfl) (fun w' => w'.cell? ⟨g, o + k, none⟩ = some (encStr s) ∧ w'.cell? ⟨g', o' + k, none⟩ = some (encStr s) ∧ Below w.heap.size w w') ⟨c1, c2, hbel.drew⟩ ?_
   iterate 3 (all_goals refine Calm.sp ?_)
   all_goals refine Calm.cl (fun _ h => h.1) ?_
   iterate 3 (all_goals refine Calm.sp ?_)
   all_goals refine Calm.cl (fun _ h => h.2.1) ?_
   all_goals refine Calm.sp ?_
   all_goals
    rintro w9 ⟨_, _, hbel9⟩
   go_wp2_with fail
   go_roundw
   case rel => exact ⟨k + 1, by simp, by omega, hbel9⟩
   case measure => simp [intOf]; omega
  ·have hlt' : ¬ (k : Int) < (l.length : Int) := by omega
   clear H1 H2
   go_wp2_with fail
   go_ret
   exact ⟨rfl, hbel⟩
theorem values_any (k n : Int) (u1 u2 : Value) (l : List Bs) (w : World) (h1 : THas w u1 l) (h2 : THas w u2 l) : Calls Tryz.prog 13 #[VN k n u1, VN k n u2] w (Tells (.bool true) w) := by
 obtain ⟨p1, c1, rfl⟩ := h1.slice
 obtain ⟨p2, c2, rfl⟩ := h2.slice
 obtain ⟨R0, R1, hbel⟩ := two_rows w #[.int .i64 k, .int .i64 n, .slice p1 l.length c1, .slice none 0 0] 46 #[.int .i64 k, .int .i64 n, .slice p2 l.length c2, .slice none 0 0] 46
 generalize hW : (w.alloc (.cells #[.int .i64 k, .int .i64 n, .slice p1 l.length c1, .slice none 0 0] 46)).alloc (.cells #[.int .i64 k, .int .i64 n, .slice p2 l.length c2, .slice none 0 0] 46) = w0 at R0 R1 hbel
 have a0 : w0.cell? ⟨w.heap.size, 0, none⟩ = some (.int .i64 k) := R0.cell 0
 have a1 : w0.cell? ⟨w.heap.size, 1, none⟩ = some (.int .i64 n) := R0.cell 1
 have a2 : w0.cell? ⟨w.heap.size, 2, none⟩ = some (.slice p1 l.length c1) := R0.cell 2
 have e0 : w0.cell? ⟨w.heap.size + 1, 0, none⟩ = some (.int .i64 k) := R1.cell 0
 have e1 : w0.cell? ⟨w.heap.size + 1, 1, none⟩ = some (.int .i64 n) := R1.cell 1
 have e2 : w0.cell? ⟨w.heap.size + 1, 2, none⟩ = some (.slice p2 l.length c2) := R1.cell 2
 have C := refTexts_any _ _ l w0 (h1.later hbel) (h2.later hbel)
 clear h1 h2
 go_enter Tryz.func13, Tryz.ntmps13
 go_wp2_with (first | rw [hW])
 refine C.mono ?_
 rintro e w1 ⟨rfl, hb1⟩
 have a3 : w1.cell? ⟨w.heap.size, 3, none⟩ = some (.slice none 0 0) := (R0.later hb1).cell 3
 have e3 : w1.cell? ⟨w.heap.size + 1, 3, none⟩ = some (.slice none 0 0) := (R1.later hb1).cell 3
 go_wp2_with fail
 have R := R0.later hb1
 replace hbel := below_on hbel hb1
 clear a0 a1 a2 a3 e0 e1 e2 e3 hb1 hW R0 R1
 go_loopw [5] (fun vi wr => vi = .int .i64 0 ∧ wr.cell? ⟨w.heap.size, 3, none⟩ = some (.slice none 0 0) ∧ Below w.heap.size w wr) (fun _ _ => 0)
 case atStart => exact ⟨rfl, R.cell 3, hbel⟩
 case round =>
  clear hbel
  obtain ⟨rfl, c3, hbel⟩ := hrel
  go_wp2_with fail
  go_ret
  exact ⟨rfl, hbel⟩
end Go.Proofs.YtjbbmcommnhgeaaGreat
namespace Go.Proofs.YtjbbmcommnhgeaaGreat
open Go.RowKit
def SmPost (n : Nat) (w : World) (e : Ending) (w' : World) : Prop := ∃ b, e = .returned (.bool b) ∧ (b = true → n ≤ 40) ∧ Below w.heap.size w w'
theorem small_any (p s : Int) (v : List Int) (t : Int) (sl : Value) (l : List O) (w : World) (hv : v.length = 13) (ho : OHas w sl l) : Calls Tryz.prog 9 #[TxV p s v t sl] w (SmPost l.length w) := by
  obtain ⟨q, c, rfl, hm, hr⟩ := ho
  have hml := maxLen_lt hm
  have HR : Hid (0 < l.length → ∃ g o, q = some ⟨g, o, none⟩ ∧ ∀ i (h : i < l.length), w.rangeAt g (o + i * 10) l[i].cells) := hr
  clear hr
  have R0 := rw_new w 34 (txc p s v t (.slice q l.length c)).toArray
  have hbel : Below w.heap.size w (w.alloc (.cells (txc p s v t (.slice q l.length c)).toArray 34)) := bel_alloc (Below.refl _ _) _
  generalize hW : w.alloc (.cells (txc p s v t (.slice q l.length c)).toArray 34) = w0 at R0 hbel
  go_enter Tryz.func9, Tryz.ntmps9
  go_wp2_with (rw [hW])
  clear hW
  go_loopw [3] (fun vi wr => ∃ k : Nat, vi = .int .i64 k ∧ k ≤ l.length ∧ (l.length ≤ 40 ∨ k = 0) ∧ Rw wr w.heap.size 34 (txc p s v t (.slice q l.length c)).toArray ∧ Below w.heap.size w wr) (fun vi _ => l.length - (intOf vi).toNat)
  case atStart => exact ⟨0, rfl, by omega, .inr rfl, R0, hbel⟩
  case round =>
    clear R0 hbel
    obtain ⟨k, rfl, hk, hor, R, hbel⟩ := hrel
    have c16 := tx_ops R hv
    by_cases hle : l.length ≤ 40
    · have hle' : (l.length : Int) ≤ 40 := by omega
      by_cases hlt : k < l.length
      · have hlt' : (k : Int) < (l.length : Int) := by omega
        obtain ⟨g, o, rfl, hd⟩ := HR.out (by omega)
        have d := range_later (hd k hlt) hbel
        clear HR hd
        have hk40 : k < 40 := by omega
        generalize l[k] = x at d
        have z35 : (Tryz.prog.info? 52).map (·.size) = some x.cells.length := size52
        have hb2 : Below w.heap.size w (wr.alloc (.cells x.cells.toArray 52)) := bel_alloc hbel _
        have R2 := R.alloc (.cells x.cells.toArray 52)
        go_wp2_with (refine load_m 52 _ rfl rfl _ _ rfl d Tryz.underlying52 rfl z35 ?_)
        all_goals first
          | (go_ret; exact ⟨_, rfl, fun _ => hle, hb2⟩)
          | (go_roundw
             case rel => exact ⟨k + 1, by simp, by omega, .inl hle, R2, hb2⟩
             case measure => simp [intOf]; omega)
      · have hlt' : ¬ (k : Int) < (l.length : Int) := by omega
        clear HR
        go_wp2_with fail
        go_ret
        exact ⟨_, rfl, fun _ => hle, hbel⟩
    · obtain rfl : k = 0 := by omega
      have hle' : ¬ (l.length : Int) ≤ 40 := by omega
      have h0 : 0 < (l.length : Int) := by omega
      clear HR
      go_wp2_with fail
      go_ret
      exact ⟨_, rfl, fun h => by simp at h, hbel⟩
def vnP (k n : Int) (l : List Bs) : Value → World → Prop := fun r w => ∃ u, r = VN k n u ∧ THas w u l
theorem vnP_keeps (k n : Int) (l : List Bs) : Keeps (vnP k n l) := fun _ _ _ ⟨u, e, h⟩ hb => ⟨u, e, h.later hb⟩
theorem reads_p {k n : Int} {l : List Bs} {w : World} {e : Ending} {w' : World} (h : Reads k n l w e w') : ∃ r, e = .returned r ∧ vnP k n l r w' ∧ Below w.heap.size w w' := by
 obtain ⟨u, he, hu, hb⟩ := h
 exact ⟨_, he, ⟨u, rfl, hu⟩, hb⟩
end Go.Proofs.YtjbbmcommnhgeaaGreat
