import Derived.Test.YtjbbmcommnhgeaaGreatPa22
set_option maxRecDepth 100000
set_option maxHeartbeats 8000000
namespace Go.Proofs.YtjbbmcommnhgeaaGreat.Rg
open Go.RowKit
open Go.Sort
theorem filter_insF {a : Wt} {f : Wt → Bool} (h : f a = true) (l : List Wt) : (insF a l).filter f = insF a (l.filter f) := by
 unfold insF
 rw [List.filter_append, List.filter_cons_of_pos h, List.filter_filter, List.filter_filter, List.filter_filter, List.filter_filter]
 congr 1
 ·congr 1
  funext y
  exact Bool.and_comm _ _
 ·congr 2
  funext y
  exact Bool.and_comm _ _
theorem lef_insF {a : Wt} {q u : Int} {v : List Int} {i : Int} (h : bf a.p a.s a.i q u v i = false) (l : List Wt) : lef (insF a l) q u v i = insF a (lef l q u v i) := filter_insF (by rw [h]; rfl) l
theorem lef_comm (l : List Wt) (q u : Int) (v : List Int) (i : Int) (q' u' : Int) (v' : List Int) (i' : Int) : lef (lef l q u v i) q' u' v' i' = lef (lef l q' u' v' i') q u v i := by
 unfold lef
 rw [List.filter_filter, List.filter_filter]
 congr 1
 funext y
 exact Bool.and_comm _ _
theorem has_lef {a : Wt} {l : List Wt} (h : has a l = false) (q u : Int) (v : List Int) (i : Int) : has a (lef l q u v i) = false := has_false.2 fun y hy => has_false.1 h y (List.mem_filter.1 hy).1
theorem ck_wr {x : X} (hc : ck x = true) {l : List Wt} (hl : ca l = true) : ck { x with wr := l } = true := by
 have h := ck_parts hc
 unfold ck
 simp only [Bool.and_eq_true, Bool.or_eq_true, decide_eq_true_eq]
 exact ⟨h.1, h.2.1, by omega, hl⟩
abbrev oneX (x : X) (a : Wt) (v : List Int) : X := { x with wr := insF a (lef x.wr a.p a.s v a.i) }
theorem do_one {x : X} {a : Wt} {v : List Int} (hc : ck x = true) (hi : iw a.i a.x = true) (hn : has a x.wr = false) : doX x a v = oneX x a v := by
 unfold doX
 rw [hc, hi, hn]
 rfl
theorem ck_one {x : X} {a : Wt} {v : List Int} (hc : ck x = true) (hi : iw a.i a.x = true) (hn : has a x.wr = false) : ck (oneX x a v) = true := ck_wr hc (insF_ca (ca_filter (ck_parts hc).2.2.2.2.2 _) hi (has_lef hn _ _ _ _))
theorem has_one {x : X} {a b : Wt} {v : List Int} (h : mk a b = false) (hn : has b x.wr = false) : has b (oneX x a v).wr = false := by
 show has b (insF a _) = false
 rw [has_insF h]
 exact has_lef hn _ _ _ _
theorem one_comm {x : X} {a b : Wt} {v u : List Int} (h : mk a b = false) (h1 : bf a.p a.s a.i b.p b.s u b.i = false) (h2 : bf b.p b.s b.i a.p a.s v a.i = false) : oneX (oneX x a v) b u = oneX (oneX x b u) a v := by
 show ({ x with wr := insF b (lef (insF a (lef x.wr a.p a.s v a.i)) b.p b.s u b.i) } : X) = { x with wr := insF a (lef (insF b (lef x.wr b.p b.s u b.i)) a.p a.s v a.i) }
 rw [lef_insF h1, lef_insF h2, lef_comm x.wr b.p b.s u b.i, insF_comm h]
end Go.Proofs.YtjbbmcommnhgeaaGreat.Rg
namespace Go.Proofs.YtjbbmcommnhgeaaGreat
open Go.RowKit
structure Tre (l : List El) : Prop where
 up : l.Pairwise (fun a b => kl (kE a) (kE b) = true)
 nz : ∀ e ∈ l, kE e ≠ zK
 rt : Rooted kE rE zK l
 rk : ∃ R : K → Nat, Rk kE rE R l
theorem Tre.inj {l : List El} (h : Tre l) : ∀ a ∈ l, ∀ b ∈ l, kE a = kE b → a = b := fun a ha b hb e => by
 obtain ⟨i, hi, rfl⟩ := List.getElem_of_mem ha
 obtain ⟨j, hj, rfl⟩ := List.getElem_of_mem hb
 obtain rfl := up_inj h.up hi hj e
 rfl
theorem upNodup {l : List El} (h : l.Pairwise (fun a b => kl (kE a) (kE b) = true)) : l.Nodup := h.imp_of_mem (fun _ _ hk e => by
 rw [e, kl_irr] at hk
 cases hk)
theorem up_iff {l : List El} (h : Tre l) {i j : Nat} (hi : i < l.length) (hj : j < l.length) : upL l (i + 1) = j + 1 ↔ rE l[i] = kE l[j] := by
 rw [upL_succ hi]
 constructor
 ·intro e
  by_cases hz : rE l[i] = zK
  ·rw [if_pos hz] at e
   omega
  ·rw [if_neg hz] at e
   cases hp : pl l (rE l[i]) with
   | none => rw [hp] at e; simp at e
   | some k =>
    rw [hp] at e
    obtain rfl : k = j := by simpa using e
    exact (pl_some hp).2.symm
 ·intro e
  rw [if_neg (by rw [e]; exact h.nz _ (List.getElem_mem _)), e, pl_at h.up hj]
theorem tre_of {l : List El} (hc : ce l = true) (hr : cr l = true) : Tre l where
 up := ce_up hc
 nz := fun e he => ie_nz (ce_ie hc e he)
 rt := fun e he => by
  rcases okR_iff.1 (cr_parts hr).1 e he with k | ⟨j, k⟩
  ·exact Or.inl k
  ·obtain ⟨hj, k⟩ := pl_some k
   exact Or.inr ⟨l[j], List.getElem_mem _, k⟩
 rk := by
  refine ⟨fun m => match pl l m with | some j => dp (upL l) l.length (j + 1) | none => 0, fun e he => ?_⟩
  obtain ⟨k, hk, rfl⟩ := List.getElem_of_mem he
  have h1 := rk_plc hr (k + 1) (plc_mem.2 ⟨by omega, by omega⟩)
  rw [upL_succ hk] at h1
  show (match pl l (kE l[k]) with | some j => dp (upL l) l.length (j + 1) | none => 0) = (match pl l (rE l[k]) with | some j => dp (upL l) l.length (j + 1) | none => 0) + 1
  rw [pl_at (ce_up hc) hk]
  show dp (upL l) l.length (k + 1) = _
  rw [h1]
  have hz : dp (upL l) l.length 0 = 0 := by
   cases l.length with
   | zero => rfl
   | succ n => simp [dp]
  rcases okR_iff.1 (cr_parts hr).1 l[k] (List.getElem_mem _) with e | ⟨j, e⟩
  ·rw [if_pos e, hz]
   have : pl l (rE l[k]) = none := by
    rw [e]
    exact pl_none.2 (fun a ha => ie_nz (ce_ie hc a ha))
   rw [this]
  ·by_cases hz' : rE l[k] = zK
   ·obtain ⟨hj, e'⟩ := pl_some e
    exact absurd (e'.trans hz') (ie_nz (ce_ie hc l[j] (List.getElem_mem _)))
   ·rw [if_neg hz', e]
theorem cr_of {l : List El} (h : Tre l) : cr l = true := by
 obtain ⟨R, hR⟩ := h.rk
 unfold cr
 rw [Bool.and_eq_true]
 refine ⟨okR_iff.2 (fun e he => ?_), noR_iff.2 (fun k hk => ?_)⟩
 ·rcases h.rt e he with k | ⟨p, hp, k⟩
  ·exact Or.inl k
  ·obtain ⟨j, hj, rfl⟩ := List.getElem_of_mem hp
   exact Or.inr ⟨j, by rw [← k]; exact pl_at h.up hj⟩
 ·refine rt_of_rank (f := upL l) (n := l.length) (fun k => match k with | 0 => 0 | k + 1 => match l[k]? with | some e => R (kE e) | none => 0) (fun k _ => upL_le l k) (fun k hk hk0 => ?_) _ k hk (Nat.le_refl _)
  obtain ⟨i, rfl⟩ : ∃ i, k = i + 1 := ⟨k - 1, by omega⟩
  have hi : i < l.length := by omega
  have hr := hR l[i] (List.getElem_mem _)
  cases e : upL l (i + 1) with
  | zero =>
   show 0 < (match l[i]? with | some e => R (kE e) | none => 0)
   rw [List.getElem?_eq_getElem hi]
   show 0 < R (kE l[i])
   omega
  | succ j =>
   have hj : j < l.length := by
    have := upL_le l (i + 1)
    omega
   have e2 := (up_iff h hi hj).1 e
   show (match l[j]? with | some e => R (kE e) | none => 0) < (match l[i]? with | some e => R (kE e) | none => 0)
   rw [List.getElem?_eq_getElem hi, List.getElem?_eq_getElem hj]
   show R (kE l[j]) < R (kE l[i])
   rw [← e2]
   omega
theorem klTot {l : List El} (h : ∀ a ∈ l, ∀ b ∈ l, kE a = kE b → a = b) : Tot (fun a b => kl (kE a) (kE b)) l where
 irr := fun a _ => kl_irr _
 trans := fun a _ b _ c _ h1 h2 => by
  rw [kl_iff] at h1 h2 ⊢
  omega
 tot := fun a ha b hb hne => by
  rw [kl_iff, kl_iff]
  have h1 : ¬ (kE a = kE b) := fun e => hne (h a ha b hb e)
  have h2 : ¬ ((kE a).1 = (kE b).1 ∧ (kE a).2.1 = (kE b).2.1 ∧ (kE a).2.2 = (kE b).2.2) := fun e => h1 (k_ext e.1 e.2.1 e.2.2)
  omega
section
variable {E F : Type} {ah : E → E → Bool} {bh : F → F → Bool}
end
theorem ins_mem {e y : El} {l : List El} : y ∈ insE e l ↔ y = e ∨ y ∈ l := by
 unfold insE
 rw [List.mem_append, List.mem_cons, List.mem_filter, List.mem_filter]
 constructor
 ·rintro (h | h | h)
  ·exact Or.inr h.1
  ·exact Or.inl h
  ·exact Or.inr h.1
 ·rintro (h | h)
  ·exact Or.inr (Or.inl h)
  ·by_cases hk : kl (kE y) (kE e) = true
   ·exact Or.inl ⟨h, hk⟩
   ·exact Or.inr (Or.inr ⟨h, by simpa using hk⟩)
theorem ins_up {e : El} {l : List El} (h : l.Pairwise (fun a b => kl (kE a) (kE b) = true)) (hn : ∀ y ∈ l, kE y ≠ kE e) : (insE e l).Pairwise (fun a b => kl (kE a) (kE b) = true) := by
 unfold insE
 have gt : ∀ y ∈ l, kl (kE y) (kE e) = false → kl (kE e) (kE y) = true := fun y hy hk => by
  have h1 : ¬ ((kE y).1 = (kE e).1 ∧ (kE y).2.1 = (kE e).2.1 ∧ (kE y).2.2 = (kE e).2.2) := fun h => hn y hy (k_ext h.1 h.2.1 h.2.2)
  have h2 : ¬ kl (kE y) (kE e) = true := by rw [hk]; simp
  rw [kl_iff] at h2 ⊢
  omega
 rw [List.pairwise_append]
 refine ⟨h.sublist List.filter_sublist, List.pairwise_cons.2 ⟨fun y hy => ?_, h.sublist List.filter_sublist⟩, fun a ha b hb => ?_⟩
 ·obtain ⟨h1, h2⟩ := List.mem_filter.1 hy
  exact gt y h1 (by simpa using h2)
 ·obtain ⟨h1, h2⟩ := List.mem_filter.1 ha
  rcases List.mem_cons.1 hb with rfl | hb
  ·exact h2
  ·obtain ⟨h3, h4⟩ := List.mem_filter.1 hb
   have h5 := gt b h3 (by simpa using h4)
   rw [kl_iff] at h2 h5 ⊢
   omega
theorem sorted_mem {a b : List El} (ha : a.Pairwise (fun a b => kl (kE a) (kE b) = true)) (hb : b.Pairwise (fun a b => kl (kE a) (kE b) = true)) (h : ∀ x, x ∈ a ↔ x ∈ b) : a = b := by
 refine sorted_one (ah := fun a b => kl (kE a) (kE b)) (klTot (fun x hx y hy e => ?_)) (perm_of_mem (upNodup ha) (upNodup hb) h) ha hb
 obtain ⟨i, hi, rfl⟩ := List.getElem_of_mem hx
 obtain ⟨j, hj, rfl⟩ := List.getElem_of_mem hy
 obtain rfl := up_inj ha hi hj e
 rfl
theorem tre_ins {e : El} {l : List El} (h : Tre l) (hz : kE e ≠ zK) (hn : ∀ y ∈ l, kE y ≠ kE e) (hr : rE e = zK ∨ ∃ p ∈ l, kE p = rE e) : Tre (insE e l) where
 up := ins_up h.up hn
 nz := fun y hy => by
  rcases ins_mem.1 hy with rfl | hy
  ·exact hz
  ·exact h.nz y hy
 rt := fun y hy => by
  rcases ins_mem.1 hy with rfl | hy
  ·rcases hr with k | ⟨p, hp, k⟩
   ·exact Or.inl k
   ·exact Or.inr ⟨p, ins_mem.2 (Or.inr hp), k⟩
  ·rcases h.rt y hy with k | ⟨p, hp, k⟩
   ·exact Or.inl k
   ·exact Or.inr ⟨p, ins_mem.2 (Or.inr hp), k⟩
 rk := by
  obtain ⟨R, hR⟩ := h.rk
  have nr : ∀ y, (rE y = zK ∨ ∃ p ∈ l, kE p = rE y) → rE y ≠ kE e := fun y hy hc => by
   rcases hy with k | ⟨p, hp, k⟩
   ·exact hz (by rw [← hc, k])
   ·exact hn p hp (k.trans hc)
  refine ⟨fun k => if k = kE e then R (rE e) + 1 else R k, fun y hy => ?_⟩
  show (if kE y = kE e then _ else _) = (if rE y = kE e then _ else _) + 1
  rcases ins_mem.1 hy with rfl | hy
  ·rw [if_pos rfl, if_neg (nr y hr)]
  ·rw [if_neg (hn y hy), if_neg (nr y (h.rt y hy))]
   exact hR y hy
theorem ins_comm {a b : El} {l : List El} (h : l.Pairwise (fun a b => kl (kE a) (kE b) = true)) (ha : ∀ y ∈ l, kE y ≠ kE a) (hb : ∀ y ∈ l, kE y ≠ kE b) (hab : kE a ≠ kE b) : insE a (insE b l) = insE b (insE a l) := by
 refine sorted_mem (ins_up (ins_up h hb) (fun y hy => ?_)) (ins_up (ins_up h ha) (fun y hy => ?_)) (fun x => ?_)
 ·rcases ins_mem.1 hy with rfl | hy
  ·exact hab.symm
  ·exact ha y hy
 ·rcases ins_mem.1 hy with rfl | hy
  ·exact hab
  ·exact hb y hy
 ·rw [ins_mem, ins_mem, ins_mem, ins_mem]
  constructor <;> (rintro (h | h | h) <;> simp [h])
theorem ck_ins {x : X} {e : El} {p : M → Bool} (h : ck x = true) : ck (insX x e p) = true := by
 unfold insX
 split
 ·rename_i hh
  rw [Bool.and_eq_true, Bool.and_eq_true, Bool.and_eq_true] at hh
  obtain ⟨_, h2, h3, h4⟩ := hh
  have h' := h
  obtain ⟨k1, k2, k3, k4, k5, k6, k7⟩ := ck_parts h
  have T := tre_of k6 k7
  have hn : ∀ y ∈ x.el, kE y ≠ kE e := by
   cases hp : pl x.el (kE e) with
   | none => exact pl_none.1 hp
   | some j => rw [hp] at h4; cases h4
  have T2 := tre_ins T (ie_nz h2) hn (by
   unfold tk at h3
   rw [Bool.or_eq_true, decide_eq_true_iff] at h3
   rcases h3 with h3 | h3
   ·exact Or.inl h3
   ·split at h3
    ·rename_i a ha
     exact Or.inr ⟨a, List.mem_of_find?_eq_some ha, by simpa using List.find?_some ha⟩
    ·cases h3)
  unfold ck
  simp only [Bool.and_eq_true, decide_eq_true_eq]
  refine ⟨k1, k2, by omega, ce_of (fun y hy => ?_) T2.up, cr_of T2⟩
  rcases ins_mem.1 hy with rfl | hy
  ·exact h2
  ·exact ce_ie k6 y hy
 ·exact h
theorem tre_ck {x : X} (h : ck x = true) : Tre x.el := tre_of (ck_parts h).2.2.2.2.2.1 (ck_parts h).2.2.2.2.2.2
end Go.Proofs.YtjbbmcommnhgeaaGreat
namespace Go.Proofs.YtjbbmcommnhgeaaGreat
open Go.RowKit
namespace Ct
theorem ck_am {x : X} (hc : ck x = true) {l : List A} (hl : ca l = true) : ck { x with am := l } = true := by
 unfold ck at hc ⊢
 simp only [Bool.and_eq_true, decide_eq_true_eq] at hc ⊢
 exact ⟨hc.1, hc.2.1, hc.2.2.1, hl⟩
theorem ck_do {x : X} {a : A} (hc : ck x = true) : ck (doX x a) = true ∧ (doX x a).k = x.k := by
 unfold doX
 split
 ·rename_i h
  simp only [Bool.and_eq_true, Bool.not_eq_true'] at h
  exact ⟨ck_am hc (insF_ca (ck_parts hc).2.2.2.2.2 h.2.1 h.2.2), rfl⟩
 ·exact ⟨hc, rfl⟩
end Ct
namespace Rg
theorem ck_do {x : X} {a : Wt} {v : List Int} (hc : ck x = true) : ck (doX x a v) = true ∧ (doX x a v).k = x.k := by
 unfold doX
 split
 ·rename_i h
  simp only [Bool.and_eq_true, Bool.not_eq_true'] at h
  exact ⟨ck_one hc h.2.1 h.2.2, rfl⟩
 ·exact ⟨hc, rfl⟩
end Rg
namespace Os
theorem k_add (x : X) (m : M) (s : ByteArray) : (addX x m s).k = x.k := by
 unfold addX
 split <;> rfl
theorem k_wo (x : X) (i : Int) (G : Mb → Bool) (p : M → Bool) : (woX x i G p).k = x.k := by
 unfold woX
 split <;> rfl
end Os
theorem k_go (x : X) (m : M) (f : M → Bool) : (goX x m f).k = x.k := by
 unfold goX
 split <;> rfl
theorem k_ins (x : X) (e : El) (p : M → Bool) : (insX x e p).k = x.k := by
 unfold insX
 split <;> rfl
theorem ck_gox {x : X} {m : M} {f : M → Bool} (h : ck x = true) : ck (goX x m f) = true := by
 cases e : im m.i
 ·unfold goX
  rw [if_neg (by rw [e]; simp)]
  exact h
 ·exact ck_go h e
theorem by_ck {P : X → Prop} {x : X} (h : ckc x = true) (h1 : ∀ b am wr mb el, Ct.ck ⟨1, b, am, wr, mb, el⟩ = true → P ⟨1, b, am, wr, mb, el⟩) (h2 : ∀ b am wr mb el, Rg.ck ⟨2, b, am, wr, mb, el⟩ = true → P ⟨2, b, am, wr, mb, el⟩) (h3 : ∀ b am wr mb el, Rg.ck ⟨3, b, am, wr, mb, el⟩ = true → P ⟨3, b, am, wr, mb, el⟩)
  (h4 : ∀ b am wr mb el, Os.ck ⟨4, b, am, wr, mb, el⟩ = true → P ⟨4, b, am, wr, mb, el⟩) (h5 : ∀ b am wr mb el, ck ⟨5, b, am, wr, mb, el⟩ = true → P ⟨5, b, am, wr, mb, el⟩) : P x := by
 obtain ⟨k, b, am, wr, mb, el⟩ := x
 rcases kinds k with rfl | rfl | rfl | rfl | rfl | e
 ·exact h1 b am wr mb el h
 ·exact h2 b am wr mb el h
 ·exact h3 b am wr mb el h
 ·exact h4 b am wr mb el h
 ·exact h5 b am wr mb el h
 ·rw [show ckc ⟨k, b, am, wr, mb, el⟩ = false from cse0 _ _ _ _ _ e] at h
  cases h
theorem of1 {x : X} (h : x.k = 1) : ckc x = Ct.ck x := by unfold ckc; rw [h]; rfl
theorem of2 {x : X} (h : x.k = 2) : ckc x = Rg.ck x := by unfold ckc; rw [h]; rfl
theorem of3 {x : X} (h : x.k = 3) : ckc x = Rg.ck x := by unfold ckc; rw [h]; rfl
theorem of4 {x : X} (h : x.k = 4) : ckc x = Os.ck x := by unfold ckc; rw [h]; rfl
theorem of5 {x : X} (h : x.k = 5) : ckc x = ck x := by unfold ckc; rw [h]; rfl
theorem ck_doc {x : X} {o : O} {q u : Int} {v : List Int} {t i : Int} (h : ckc x = true) : ckc (doc x o q u v t i) = true ∧ (doc x o q u v t i).k = x.k := by
 refine by_ck (P := fun x => ckc (doc x o q u v t i) = true ∧ (doc x o q u v t i).k = x.k) h ?_ ?_ ?_ ?_ ?_
 ·intro b am wr mb el hc
  have H : Ct.ck (doc ⟨1, b, am, wr, mb, el⟩ o q u v t i) = true ∧ (doc ⟨1, b, am, wr, mb, el⟩ o q u v t i).k = 1 := by
   simp only [doc, cse1]
   split
   ·exact Ct.ck_do hc
   ·exact ⟨hc, rfl⟩
  exact ⟨by rw [of1 H.2]; exact H.1, H.2⟩
 ·intro b am wr mb el hc
  have H : Rg.ck (doc ⟨2, b, am, wr, mb, el⟩ o q u v t i) = true ∧ (doc ⟨2, b, am, wr, mb, el⟩ o q u v t i).k = 2 := by
   simp only [doc, cse2]
   split
   ·exact Rg.ck_do hc
   ·exact ⟨hc, rfl⟩
  exact ⟨by rw [of2 H.2]; exact H.1, H.2⟩
 ·intro b am wr mb el hc
  have H : Rg.ck (doc ⟨3, b, am, wr, mb, el⟩ o q u v t i) = true ∧ (doc ⟨3, b, am, wr, mb, el⟩ o q u v t i).k = 3 := by
   simp only [doc, cse3]
   split
   ·exact Rg.ck_do hc
   ·exact ⟨hc, rfl⟩
  exact ⟨by rw [of3 H.2]; exact H.1, H.2⟩
 ·intro b am wr mb el hc
  have H : Os.ck (doc ⟨4, b, am, wr, mb, el⟩ o q u v t i) = true ∧ (doc ⟨4, b, am, wr, mb, el⟩ o q u v t i).k = 4 := by
   simp only [doc, cse4]
   split
   ·exact ⟨Os.ck_addX hc _ _, Os.k_add _ _ _⟩
   ·split
    ·exact ⟨Os.ck_woX hc _ _ _, Os.k_wo _ _ _ _⟩
    ·exact ⟨hc, rfl⟩
  exact ⟨by rw [of4 H.2]; exact H.1, H.2⟩
 ·intro b am wr mb el hc
  have H : ck (doc ⟨5, b, am, wr, mb, el⟩ o q u v t i) = true ∧ (doc ⟨5, b, am, wr, mb, el⟩ o q u v t i).k = 5 := by
   simp only [doc, cse5]
   split
   ·exact ⟨ck_ins hc, k_ins _ _ _⟩
   ·split
    ·exact ⟨ck_gox hc, k_go _ _ _⟩
    ·exact ⟨hc, rfl⟩
  exact ⟨by rw [of5 H.2]; exact H.1, H.2⟩
end Go.Proofs.YtjbbmcommnhgeaaGreat
namespace Go.Proofs.YtjbbmcommnhgeaaGreat
open Go.RowKit
def nt (r : M) (p s i : Int) : Bool := !(decide (p = r.p) && decide (s = r.s) && decide (i = r.i))
def gG (x : X) (b : Int → Int → Int → Bool) (j : Nat) : Bool := match x.el[j]? with
 | some y => (List.range y.gone.length).all (gW y.gone b)
 | none => true
theorem gG_at {x : X} {b : Int → Int → Int → Bool} {j : Nat} (h : j < x.el.length) : gG x b j = (List.range x.el[j].gone.length).all (gW x.el[j].gone b) := by simp [gG, h]
structure Away (x : X) (r : M) : Prop where
 a : ∀ y ∈ x.am, nt r y.p y.s y.i = true
 t : ∀ y ∈ x.wr, nt r y.p y.s y.i = true
 m : ∀ y ∈ x.mb, ∀ z ∈ y.ms, nt r z.p z.s z.i = true
 e : ∀ y ∈ x.el, nt r y.p y.s y.i = true
 g : ∀ y ∈ x.el, ∀ z ∈ y.gone, nt r z.p z.s z.i = true
def TherePost (x : X) (r : M) (w : World) (e : Ending) (w' : World) : Prop := ∃ z, e = .returned (.bool z) ∧ (z = false → Away x r) ∧ Below w.heap.size w w'
theorem one_more' {n : Nat} {f : Nat → Bool} {k : Nat} (H : Hid (∀ j, j < n → j < k → f j = true)) (hy : f k = true) : Hid (∀ j, j < n → j < k + 1 → f j = true) := fun j h1 h2 => by
 rcases Nat.lt_or_ge j k with h3 | h3
 ·exact H.out j h1 h3
 ·obtain rfl : j = k := by omega
  exact hy
theorem there_any' (x : X) (va vw vm ve : Value) (r : M) (w : World) (h : Four w x va vw vm ve) (hs : Sm x) : Calls Tryz.prog 28 #[CV x.k x.b va vw vm ve, MV r.p r.s r.i] w (TherePost x r w) := by
 obtain ⟨pa, ca', pw, cw, pm, cm, pe, ce', rfl, rfl, rfl, rfl⟩ := h.slices
 have HP : Hid (∀ e w', TherePost x r w e w' ↔ ∃ z, e = .returned (.bool z) ∧ (z = false → Away x r) ∧ Below w.heap.size w w') := fun _ _ => Iff.rfl
 generalize TherePost x r w = Q at HP ⊢
 obtain ⟨R0, R1, hb0⟩ := two_rows w (cvc x.k x.b (.slice pa x.am.length ca') (.slice pw x.wr.length cw) (.slice pm x.mb.length cm) (.slice pe x.el.length ce')) 27 #[.int .i64 r.p, .int .i64 r.s, .int .i64 r.i] 50
 generalize hW : (w.alloc (.cells (cvc x.k x.b (.slice pa x.am.length ca') (.slice pw x.wr.length cw) (.slice pm x.mb.length cm) (.slice pe x.el.length ce')) 27)).alloc (.cells #[.int .i64 r.p, .int .i64 r.s, .int .i64 r.i] 50) = w0 at R0 R1 hb0
 have HF : Hid (Four w0 x (.slice pa x.am.length ca') (.slice pw x.wr.length cw) (.slice pm x.mb.length cm) (.slice pe x.el.length ce')) := h.later hb0
 obtain ⟨l1, l2, l3, l4, l5, l6⟩ := hs
 clear h
 go_enter Tryz.func28, Tryz.ntmps28
 go_wp2_with (first | rw [hW])
 clear hW
 have hb := Below.refl w0.heap.size w0
 go_loopw [5] (fun vi wr => ∃ k : Nat, vi = .int .i64 k ∧ k ≤ x.am.length ∧ Hid (∀ j, j < x.am.length → j < k → gA x (nt r) j = true) ∧ Below w0.heap.size w0 wr) (fun vi _ => x.am.length - (intOf vi).toNat)
 case atStart => exact ⟨0, rfl, by omega, (show ∀ j, j < _ → j < 0 → _ from fun j _ h => absurd h (by omega)), hb⟩
 case round =>
  clear hb
  obtain ⟨k, rfl, hk, HK, hb⟩ := hrel
  have cF : wr.cell? ⟨w.heap.size, 2, none⟩ = some (.slice pa x.am.length ca') := (R0.later hb).cell 2
  by_cases hlt : k < x.am.length
  ·have hlt' : (k : Int) < (x.am.length : Int) := by omega
   obtain ⟨g, o, rfl, hd⟩ := HF.out.a.at (by omega)
   obtain ⟨e, HX⟩ := hid_ex x.am[k]
   have d := mk3 (range_sub (range_later hd hb) (k * 4) fun j u hu => rows_at A.len x.am k hlt j u hu)
   rw [HX.out] at d
   have HG : Hid (gA x (nt r) k = nt r e.p e.s e.i) := by show _ = _; rw [gA_at hlt, HX.out]
   replace d : wr.rangeAt g (o + k * 4) [Value.int .i64 e.p, .int .i64 e.s, .int .i64 e.i] := d
   generalize e.p = mp at d HG
   generalize e.s = ms at d HG
   generalize e.i = mi at d HG
   clear hd HX
   have E := fun w => eq_mark w mp ms mi r.p r.s r.i
   obtain ⟨y, HY⟩ := hid_ex (decide (mp = r.p) && decide (ms = r.s) && decide (mi = r.i))
   rw [HY.out] at E
   go_wp2_with fail
   cases y
   ·have hG : gA x (nt r) k = true := by rw [HG.out]; unfold nt; rw [HY.out]; rfl
    have HG2 : Hid _ := hG
    clear hG
    have R1w := R1.later hb
    refine Calm.region (by kernel_rfl) (by kernel_rfl) (fun w' => w'.cell? ⟨w.heap.size, 2, none⟩ = some (.slice (some ⟨g, o, none⟩) x.am.length ca') ∧ w'.rangeAt g (o + k * 4) [Value.int .i64 mp, .int .i64 ms, .int .i64 mi] ∧ w'.rangeAt (w.heap.size + 1) 0 [Value.int .i64 r.p, .int .i64 r.s, .int .i64 r.i] ∧ Below w0.heap.size w0 w') ⟨cF, d, Rw.whole (cs := [Value.int .i64 r.p, .int .i64 r.s, .int .i64 r.i]) R1w, hb.drew⟩ ?_
    all_goals refine Calm.sp ?_
    all_goals refine Calm.ce (v := .slice (some ⟨g, o, none⟩) x.am.length ca') (ad := ⟨w.heap.size, 2, none⟩) (fun _ h => h.1) ?_
    iterate 3 (all_goals refine Calm.sp ?_)
    all_goals refine Calm.lm (zm3 mp ms mi) (fun _ h => h.2.1) Tryz.underlying50 ?_
    all_goals refine Calm.lm (zm3 r.p r.s r.i) (fun _ h => h.2.2.1) Tryz.underlying50 ?_
    all_goals refine Calm.sp ?_
    rintro w9 ⟨_, _, _, hb9⟩
    go_wp2_with fail
    go_roundw
    case rel => exact ⟨k + 1, by simp, by omega, one_more' HK HG2.out, hb9⟩
    case measure => simp [intOf]; omega
   ·clear HG
    have R1w := R1.later hb
    refine Calm.region (by kernel_rfl) (by kernel_rfl) (fun w' => w'.cell? ⟨w.heap.size, 2, none⟩ = some (.slice (some ⟨g, o, none⟩) x.am.length ca') ∧ w'.rangeAt g (o + k * 4) [Value.int .i64 mp, .int .i64 ms, .int .i64 mi] ∧ w'.rangeAt (w.heap.size + 1) 0 [Value.int .i64 r.p, .int .i64 r.s, .int .i64 r.i] ∧ Below w0.heap.size w0 w') ⟨cF, d, Rw.whole (cs := [Value.int .i64 r.p, .int .i64 r.s, .int .i64 r.i]) R1w, hb.drew⟩ ?_
    all_goals refine Calm.sp ?_
    all_goals refine Calm.ce (v := .slice (some ⟨g, o, none⟩) x.am.length ca') (ad := ⟨w.heap.size, 2, none⟩) (fun _ h => h.1) ?_
    iterate 3 (all_goals refine Calm.sp ?_)
    all_goals refine Calm.lm (zm3 mp ms mi) (fun _ h => h.2.1) Tryz.underlying50 ?_
    all_goals refine Calm.lm (zm3 r.p r.s r.i) (fun _ h => h.2.2.1) Tryz.underlying50 ?_
    all_goals refine Calm.sp ?_
    rintro w9 ⟨_, _, _, hb9⟩
    go_wp2_with fail
    show Q (.returned (.bool true)) w9
    rw [HP.out]
    exact ⟨_, rfl, fun h => (by cases h), below_on hb0 hb9⟩
  ·have P0 : Hid (∀ j, j < x.am.length → gA x (nt r) j = true) := fun j hj => HK.out j hj (by omega)
   clear HK
   go_wp2_with fail
   clear cF hlt hk
   go_loopw [6] (fun vi wr => ∃ k : Nat, vi = .int .i64 k ∧ k ≤ x.wr.length ∧ Hid (∀ j, j < x.am.length → gA x (nt r) j = true) ∧ Hid (∀ j, j < x.wr.length → j < k → gT x (nt r) j = true) ∧ Below w0.heap.size w0 wr) (fun vi _ => x.wr.length - (intOf vi).toNat)
   case atStart => exact ⟨0, rfl, by omega, P0, (show ∀ j, j < _ → j < 0 → _ from fun j _ h => absurd h (by omega)), hb⟩
   case round =>
    clear hb P0
    obtain ⟨k, rfl, hk, P0, HK, hb⟩ := hrel
    have cF : wr.cell? ⟨w.heap.size, 3, none⟩ = some (.slice pw x.wr.length cw) := (R0.later hb).cell 3
    by_cases hlt : k < x.wr.length
    ·have hlt' : (k : Int) < (x.wr.length : Int) := by omega
     obtain ⟨g, o, rfl, hd⟩ := HF.out.t.at (by omega)
     obtain ⟨e, HX⟩ := hid_ex x.wr[k]
     have d := mk3 (range_sub (range_later hd hb) (k * 5) fun j u hu => rows_at Wt.len x.wr k hlt j u hu)
     rw [HX.out] at d
     have HG : Hid (gT x (nt r) k = nt r e.p e.s e.i) := by show _ = _; rw [gT_at hlt, HX.out]
     replace d : wr.rangeAt g (o + k * 5) [Value.int .i64 e.p, .int .i64 e.s, .int .i64 e.i] := d
     generalize e.p = mp at d HG
     generalize e.s = ms at d HG
     generalize e.i = mi at d HG
     clear hd HX
     have E := fun w => eq_mark w mp ms mi r.p r.s r.i
     obtain ⟨y, HY⟩ := hid_ex (decide (mp = r.p) && decide (ms = r.s) && decide (mi = r.i))
     rw [HY.out] at E
     go_wp2_with fail
     cases y
     ·have hG : gT x (nt r) k = true := by rw [HG.out]; unfold nt; rw [HY.out]; rfl
      have HG2 : Hid _ := hG
      clear hG
      have R1w := R1.later hb
      refine Calm.region (by kernel_rfl) (by kernel_rfl) (fun w' => w'.cell? ⟨w.heap.size, 3, none⟩ = some (.slice (some ⟨g, o, none⟩) x.wr.length cw) ∧ w'.rangeAt g (o + k * 5) [Value.int .i64 mp, .int .i64 ms, .int .i64 mi] ∧ w'.rangeAt (w.heap.size + 1) 0 [Value.int .i64 r.p, .int .i64 r.s, .int .i64 r.i] ∧ Below w0.heap.size w0 w') ⟨cF, d, Rw.whole (cs := [Value.int .i64 r.p, .int .i64 r.s, .int .i64 r.i]) R1w, hb.drew⟩ ?_
      all_goals refine Calm.sp ?_
      all_goals refine Calm.ce (v := .slice (some ⟨g, o, none⟩) x.wr.length cw) (ad := ⟨w.heap.size, 3, none⟩) (fun _ h => h.1) ?_
      iterate 3 (all_goals refine Calm.sp ?_)
      all_goals refine Calm.lm (zm3 mp ms mi) (fun _ h => h.2.1) Tryz.underlying50 ?_
      all_goals refine Calm.lm (zm3 r.p r.s r.i) (fun _ h => h.2.2.1) Tryz.underlying50 ?_
      all_goals refine Calm.sp ?_
      rintro w9 ⟨_, _, _, hb9⟩
      go_wp2_with fail
      go_roundw
      case rel => exact ⟨k + 1, by simp, by omega, P0, one_more' HK HG2.out, hb9⟩
      case measure => simp [intOf]; omega
     ·clear HG
      have R1w := R1.later hb
      refine Calm.region (by kernel_rfl) (by kernel_rfl) (fun w' => w'.cell? ⟨w.heap.size, 3, none⟩ = some (.slice (some ⟨g, o, none⟩) x.wr.length cw) ∧ w'.rangeAt g (o + k * 5) [Value.int .i64 mp, .int .i64 ms, .int .i64 mi] ∧ w'.rangeAt (w.heap.size + 1) 0 [Value.int .i64 r.p, .int .i64 r.s, .int .i64 r.i] ∧ Below w0.heap.size w0 w') ⟨cF, d, Rw.whole (cs := [Value.int .i64 r.p, .int .i64 r.s, .int .i64 r.i]) R1w, hb.drew⟩ ?_
      all_goals refine Calm.sp ?_
      all_goals refine Calm.ce (v := .slice (some ⟨g, o, none⟩) x.wr.length cw) (ad := ⟨w.heap.size, 3, none⟩) (fun _ h => h.1) ?_
      iterate 3 (all_goals refine Calm.sp ?_)
      all_goals refine Calm.lm (zm3 mp ms mi) (fun _ h => h.2.1) Tryz.underlying50 ?_
      all_goals refine Calm.lm (zm3 r.p r.s r.i) (fun _ h => h.2.2.1) Tryz.underlying50 ?_
      all_goals refine Calm.sp ?_
      rintro w9 ⟨_, _, _, hb9⟩
      go_wp2_with fail
      show Q (.returned (.bool true)) w9
      rw [HP.out]
      exact ⟨_, rfl, fun h => (by cases h), below_on hb0 hb9⟩
    ·have P1 : Hid (∀ j, j < x.wr.length → gT x (nt r) j = true) := fun j hj => HK.out j hj (by omega)
     clear HK
     go_wp2_with fail
     clear cF hlt hk
     go_loopw [7, 8] (fun vi _ wr => ∃ k : Nat, vi = .int .i64 k ∧ k ≤ x.mb.length ∧ Hid (∀ j, j < x.am.length → gA x (nt r) j = true) ∧ Hid (∀ j, j < x.wr.length → gT x (nt r) j = true) ∧ Hid (∀ j, j < x.mb.length → j < k → gM x (nt r) j = true) ∧ Below w0.heap.size w0 wr) (fun vi _ _ => x.mb.length - (intOf vi).toNat)
     case atStart => exact ⟨0, rfl, by omega, P0, P1, (show ∀ j, j < _ → j < 0 → _ from fun j _ h => absurd h (by omega)), hb⟩
     case round =>
      clear hb P0 P1
      obtain ⟨k, rfl, hk, P0, P1, HK, hb⟩ := hrel
      have cF : wr.cell? ⟨w.heap.size, 4, none⟩ = some (.slice pm x.mb.length cm) := (R0.later hb).cell 4
      by_cases hlt : k < x.mb.length
      ·have hlt' : (k : Int) < (x.mb.length : Int) := by omega
       obtain ⟨ys, hys, hA, hyM⟩ := HF.out.m
       obtain ⟨g, o, rfl, hd⟩ := hA.at (by omega)
       have hyl : ys.length = x.mb.length := by rw [← hys, List.length_map]
       obtain ⟨e, HX⟩ := hid_ex (ys[k]'(by omega))
       have d := range_sub hd (k * 3) fun j u hu => rows_at Mb.len ys k (by omega) j u hu
       have hm := hyM (ys[k]'(by omega)) (List.getElem_mem _)
       have e0 : x.mb[k] = (ys[k]'(by omega)).1 := by simp only [← hys, List.getElem_map]
       have hle := l5 x.mb[k] (List.getElem_mem _)
       rw [e0, HX.out] at hle
       have HG : Hid (gM x (nt r) k = (List.range e.1.ms.length).all (gW e.1.ms (nt r))) := by show _ = _; rw [gM_at hlt, e0, HX.out]
       rw [HX.out] at d hm
       obtain ⟨y, yv⟩ := e
       replace hm : MHas w0 yv y.ms := hm
       obtain ⟨py, cy, rfl⟩ := hm.slice
       have HM : Hid (MHas w0 (.slice py y.ms.length cy) y.ms) := hm
       have dM : w0.cell? ⟨g, o + k * 3 + 2, none⟩ = some (.slice py y.ms.length cy) := d 2 _ rfl
       replace HG : Hid (gM x (nt r) k = (List.range y.ms.length).all (gW y.ms (nt r))) := HG
       generalize y.ms = L at HG HM dM hle
       clear hd HX hys hA hyl d hm e0 hyM
       go_wp2_with fail
       clear cF
       go_loopw [8] (fun vj ws => ∃ n : Nat, vj = .int .i64 n ∧ n ≤ L.length ∧ Hid (∀ j, j < L.length → j < n → gW L (nt r) j = true) ∧ Below w0.heap.size w0 ws) (fun vj _ => L.length - (intOf vj).toNat)
       case atStart => exact ⟨0, rfl, by omega, (show ∀ j, j < _ → j < 0 → _ from fun j _ h => absurd h (by omega)), hb⟩
       case round =>
        clear hb
        obtain ⟨n, rfl, hn, HN, hb⟩ := hrel
        have cF : wr.cell? ⟨w.heap.size, 4, none⟩ = some (.slice (some ⟨g, o, none⟩) x.mb.length cm) := (R0.later hb).cell 4
        have cM := cell_later hb dM
        by_cases hnt : n < L.length
        ·have hnt' : (n : Int) < (L.length : Int) := by omega
         obtain ⟨g2, o2, rfl, hd⟩ := HM.out.at (by omega)
         obtain ⟨e, HX⟩ := hid_ex L[n]
         have d := range_sub (range_later hd hb) (n * 3) fun j u hu => rows_at M.len L n hnt j u hu
         rw [HX.out] at d
         have HG2 : Hid (gW L (nt r) n = nt r e.p e.s e.i) := by show _ = _; rw [gW_at hnt, HX.out]
         replace d : wr.rangeAt g2 (o2 + n * 3) [Value.int .i64 e.p, .int .i64 e.s, .int .i64 e.i] := d
         generalize e.p = mp at d HG2
         generalize e.s = ms at d HG2
         generalize e.i = mi at d HG2
         clear hd HX
         have E := fun w => eq_mark w mp ms mi r.p r.s r.i
         obtain ⟨y, HY⟩ := hid_ex (decide (mp = r.p) && decide (ms = r.s) && decide (mi = r.i))
         rw [HY.out] at E
         go_wp2_with fail
         cases y
         ·have hG : gW L (nt r) n = true := by rw [HG2.out]; unfold nt; rw [HY.out]; rfl
          have HG3 : Hid _ := hG
          clear hG
          have R1w := R1.later hb
          refine Calm.region (by kernel_rfl) (by kernel_rfl) (fun w' => w'.cell? ⟨w.heap.size, 4, none⟩ = some (.slice (some ⟨g, o, none⟩) x.mb.length cm) ∧ w'.cell? ⟨g, o + k * 3 + 2, none⟩ = some (.slice (some ⟨g2, o2, none⟩) L.length cy) ∧ w'.rangeAt g2 (o2 + n * 3) [Value.int .i64 mp, .int .i64 ms, .int .i64 mi] ∧ w'.rangeAt (w.heap.size + 1) 0 [Value.int .i64 r.p, .int .i64 r.s, .int .i64 r.i] ∧ Below w0.heap.size w0 w') ⟨cF, cM, d, Rw.whole (cs := [Value.int .i64 r.p, .int .i64 r.s, .int .i64 r.i]) R1w, hb.drew⟩ ?_
          all_goals refine Calm.sp ?_
          all_goals refine Calm.ce (v := .slice (some ⟨g, o, none⟩) x.mb.length cm) (ad := ⟨w.heap.size, 4, none⟩) (fun _ h => h.1) ?_
          iterate 3 (all_goals refine Calm.sp ?_)
          all_goals refine Calm.ce (v := .slice (some ⟨g2, o2, none⟩) L.length cy) (ad := ⟨g, o + k * 3 + 2, none⟩) (fun _ h => h.2.1) ?_
          iterate 2 (all_goals refine Calm.sp ?_)
          all_goals refine Calm.lm (zm3 mp ms mi) (fun _ h => h.2.2.1) Tryz.underlying50 ?_
          all_goals refine Calm.lm (zm3 r.p r.s r.i) (fun _ h => h.2.2.2.1) Tryz.underlying50 ?_
          all_goals refine Calm.sp ?_
          rintro w9 ⟨_, _, _, _, hb9⟩
          go_wp2_with fail
          go_roundw
          case rel => exact ⟨n + 1, by simp, by omega, one_more' HN HG3.out, hb9⟩
          case measure => simp [intOf]; omega
         ·clear HG2
          have R1w := R1.later hb
          refine Calm.region (by kernel_rfl) (by kernel_rfl) (fun w' => w'.cell? ⟨w.heap.size, 4, none⟩ = some (.slice (some ⟨g, o, none⟩) x.mb.length cm) ∧ w'.cell? ⟨g, o + k * 3 + 2, none⟩ = some (.slice (some ⟨g2, o2, none⟩) L.length cy) ∧ w'.rangeAt g2 (o2 + n * 3) [Value.int .i64 mp, .int .i64 ms, .int .i64 mi] ∧ w'.rangeAt (w.heap.size + 1) 0 [Value.int .i64 r.p, .int .i64 r.s, .int .i64 r.i] ∧ Below w0.heap.size w0 w') ⟨cF, cM, d, Rw.whole (cs := [Value.int .i64 r.p, .int .i64 r.s, .int .i64 r.i]) R1w, hb.drew⟩ ?_
          all_goals refine Calm.sp ?_
          all_goals refine Calm.ce (v := .slice (some ⟨g, o, none⟩) x.mb.length cm) (ad := ⟨w.heap.size, 4, none⟩) (fun _ h => h.1) ?_
          iterate 3 (all_goals refine Calm.sp ?_)
          all_goals refine Calm.ce (v := .slice (some ⟨g2, o2, none⟩) L.length cy) (ad := ⟨g, o + k * 3 + 2, none⟩) (fun _ h => h.2.1) ?_
          iterate 2 (all_goals refine Calm.sp ?_)
          all_goals refine Calm.lm (zm3 mp ms mi) (fun _ h => h.2.2.1) Tryz.underlying50 ?_
          all_goals refine Calm.lm (zm3 r.p r.s r.i) (fun _ h => h.2.2.2.1) Tryz.underlying50 ?_
          all_goals refine Calm.sp ?_
          rintro w9 ⟨_, _, _, _, hb9⟩
          go_wp2_with fail
          show Q (.returned (.bool true)) w9
          rw [HP.out]
          exact ⟨_, rfl, fun h => (by cases h), below_on hb0 hb9⟩
        ·have HE : Hid (gM x (nt r) k = true) := by
          show _ = _
          rw [HG.out, List.all_eq_true]
          intro j hj
          have hj2 : j < L.length := by simpa using hj
          exact HN.out j hj2 (by omega)
         go_wp2_with fail
         go_roundw
         case rel => exact ⟨k + 1, by simp, by omega, P0, P1, one_more' HK HE.out, hb⟩
         case measure => simp [intOf]; omega
      ·have P2 : Hid (∀ j, j < x.mb.length → gM x (nt r) j = true) := fun j hj => HK.out j hj (by omega)
       clear HK
       go_wp2_with fail
       clear cF hlt hk
       go_loopw [9, 10] (fun vi _ wr => ∃ k : Nat, vi = .int .i64 k ∧ k ≤ x.el.length ∧ Hid (∀ j, j < x.am.length → gA x (nt r) j = true) ∧ Hid (∀ j, j < x.wr.length → gT x (nt r) j = true) ∧ Hid (∀ j, j < x.mb.length → gM x (nt r) j = true) ∧ Hid (∀ j, j < x.el.length → j < k → gY x (nt r) j = true) ∧ Hid (∀ j, j < x.el.length → j < k → gG x (nt r) j = true) ∧ Below w0.heap.size w0 wr) (fun vi _ _ => x.el.length - (intOf vi).toNat)
       case atStart => exact ⟨0, rfl, by omega, P0, P1, P2, (show ∀ j, j < _ → j < 0 → _ from fun j _ h => absurd h (by omega)), (show ∀ j, j < _ → j < 0 → _ from fun j _ h => absurd h (by omega)), hb⟩
       case round =>
        clear hb P0 P1 P2
        obtain ⟨k, rfl, hk, P0, P1, P2, HK, HK2, hb⟩ := hrel
        have cF : wr.cell? ⟨w.heap.size, 5, none⟩ = some (.slice pe x.el.length ce') := (R0.later hb).cell 5
        by_cases hlt : k < x.el.length
        ·have hlt' : (k : Int) < (x.el.length : Int) := by omega
         obtain ⟨ys, hys, hA, hyM⟩ := HF.out.e
         obtain ⟨g, o, rfl, hd⟩ := hA.at (by omega)
         have hyl : ys.length = x.el.length := by rw [← hys, List.length_map]
         obtain ⟨e, HX⟩ := hid_ex (ys[k]'(by omega))
         have d0 := range_sub hd (k * 9) fun j u hu => rows_at El.len ys k (by omega) j u hu
         have hm := hyM (ys[k]'(by omega)) (List.getElem_mem _)
         have e0 : x.el[k] = (ys[k]'(by omega)).1 := by simp only [← hys, List.getElem_map]
         have hle := l6 x.el[k] (List.getElem_mem _)
         rw [e0, HX.out] at hle
         have HG1 : Hid (gY x (nt r) k = nt r e.1.p e.1.s e.1.i) := by show _ = _; rw [gY_at hlt, e0, HX.out]
         have HG : Hid (gG x (nt r) k = (List.range e.1.gone.length).all (gW e.1.gone (nt r))) := by show _ = _; rw [gG_at hlt, e0, HX.out]
         rw [HX.out] at d0 hm
         obtain ⟨y, yv⟩ := e
         replace hm : MHas w0 yv y.gone := hm
         obtain ⟨py, cy, rfl⟩ := hm.slice
         have HM : Hid (MHas w0 (.slice py y.gone.length cy) y.gone) := hm
         have dM : w0.cell? ⟨g, o + k * 9 + 8, none⟩ = some (.slice py y.gone.length cy) := d0 8 _ rfl
         have d : wr.rangeAt g (o + k * 9) [Value.int .i64 y.p, .int .i64 y.s, .int .i64 y.i] := mk3 (range_later d0 hb)
         replace HG : Hid (gG x (nt r) k = (List.range y.gone.length).all (gW y.gone (nt r))) := HG
         replace HG1 : Hid (gY x (nt r) k = nt r y.p y.s y.i) := HG1
         generalize y.gone = L at HG HM dM hle
         generalize y.p = mp at d HG1
         generalize y.s = ms at d HG1
         generalize y.i = mi at d HG1
         clear hd HX hys hA hyl d0 hm e0 hyM
         have E := fun w => eq_mark w mp ms mi r.p r.s r.i
         obtain ⟨y, HY⟩ := hid_ex (decide (mp = r.p) && decide (ms = r.s) && decide (mi = r.i))
         rw [HY.out] at E
         go_wp2_with fail
         cases y
         ·have hG : gY x (nt r) k = true := by rw [HG1.out]; unfold nt; rw [HY.out]; rfl
          have HG3 : Hid _ := hG
          clear hG
          have R1w := R1.later hb
          refine Calm.region (by kernel_rfl) (by kernel_rfl) (fun w' => w'.cell? ⟨w.heap.size, 5, none⟩ = some (.slice (some ⟨g, o, none⟩) x.el.length ce') ∧ w'.rangeAt g (o + k * 9) [Value.int .i64 mp, .int .i64 ms, .int .i64 mi] ∧ w'.rangeAt (w.heap.size + 1) 0 [Value.int .i64 r.p, .int .i64 r.s, .int .i64 r.i] ∧ Below w0.heap.size w0 w') ⟨cF, d, Rw.whole (cs := [Value.int .i64 r.p, .int .i64 r.s, .int .i64 r.i]) R1w, hb.drew⟩ ?_
          all_goals refine Calm.sp ?_
          all_goals refine Calm.ce (v := .slice (some ⟨g, o, none⟩) x.el.length ce') (ad := ⟨w.heap.size, 5, none⟩) (fun _ h => h.1) ?_
          iterate 3 (all_goals refine Calm.sp ?_)
          all_goals refine Calm.lm (zm3 mp ms mi) (fun _ h => h.2.1) Tryz.underlying50 ?_
          all_goals refine Calm.lm (zm3 r.p r.s r.i) (fun _ h => h.2.2.1) Tryz.underlying50 ?_
          all_goals refine Calm.sp ?_
          rintro w9 ⟨_, _, _, hb9⟩
          have cF9 := cell_later (below_on hb (Below.refl _ _)) (R0.cell 5)
          replace hb := hb9
          clear hb9 cF9 cF d E HY
          have cF : w9.cell? ⟨w.heap.size, 5, none⟩ = some (.slice (some ⟨g, o, none⟩) x.el.length ce') := (R0.later hb).cell 5
          have cM9 := cell_later hb dM
          go_wp2_with fail
          clear cF cM9
          go_loopw [10] (fun vj ws => ∃ n : Nat, vj = .int .i64 n ∧ n ≤ L.length ∧ Hid (∀ j, j < L.length → j < n → gW L (nt r) j = true) ∧ Below w0.heap.size w0 ws) (fun vj _ => L.length - (intOf vj).toNat)
          case atStart => exact ⟨0, rfl, by omega, (show ∀ j, j < _ → j < 0 → _ from fun j _ h => absurd h (by omega)), hb⟩
          case round =>
           clear hb
           obtain ⟨n, rfl, hn, HN, hb⟩ := hrel
           have cF : wr.cell? ⟨w.heap.size, 5, none⟩ = some (.slice (some ⟨g, o, none⟩) x.el.length ce') := (R0.later hb).cell 5
           have cM := cell_later hb dM
           by_cases hnt : n < L.length
           ·have hnt' : (n : Int) < (L.length : Int) := by omega
            obtain ⟨g2, o2, rfl, hd⟩ := HM.out.at (by omega)
            obtain ⟨e, HX⟩ := hid_ex L[n]
            have d := range_sub (range_later hd hb) (n * 3) fun j u hu => rows_at M.len L n hnt j u hu
            rw [HX.out] at d
            have HG2 : Hid (gW L (nt r) n = nt r e.p e.s e.i) := by show _ = _; rw [gW_at hnt, HX.out]
            replace d : wr.rangeAt g2 (o2 + n * 3) [Value.int .i64 e.p, .int .i64 e.s, .int .i64 e.i] := d
            generalize e.p = mp at d HG2
            generalize e.s = ms at d HG2
            generalize e.i = mi at d HG2
            clear hd HX
            have E := fun w => eq_mark w mp ms mi r.p r.s r.i
            obtain ⟨y, HY⟩ := hid_ex (decide (mp = r.p) && decide (ms = r.s) && decide (mi = r.i))
            rw [HY.out] at E
            go_wp2_with fail
            cases y
            ·have hG : gW L (nt r) n = true := by rw [HG2.out]; unfold nt; rw [HY.out]; rfl
             have HG3 : Hid _ := hG
             clear hG
             have R1w := R1.later hb
             refine Calm.region (by kernel_rfl) (by kernel_rfl) (fun w' => w'.cell? ⟨w.heap.size, 5, none⟩ = some (.slice (some ⟨g, o, none⟩) x.el.length ce') ∧ w'.cell? ⟨g, o + k * 9 + 8, none⟩ = some (.slice (some ⟨g2, o2, none⟩) L.length cy) ∧ w'.rangeAt g2 (o2 + n * 3) [Value.int .i64 mp, .int .i64 ms, .int .i64 mi] ∧ w'.rangeAt (w.heap.size + 1) 0 [Value.int .i64 r.p, .int .i64 r.s, .int .i64 r.i] ∧ Below w0.heap.size w0 w') ⟨cF, cM, d, Rw.whole (cs := [Value.int .i64 r.p, .int .i64 r.s, .int .i64 r.i]) R1w, hb.drew⟩ ?_
             all_goals refine Calm.sp ?_
             all_goals refine Calm.ce (v := .slice (some ⟨g, o, none⟩) x.el.length ce') (ad := ⟨w.heap.size, 5, none⟩) (fun _ h => h.1) ?_
             iterate 3 (all_goals refine Calm.sp ?_)
             all_goals refine Calm.ce (v := .slice (some ⟨g2, o2, none⟩) L.length cy) (ad := ⟨g, o + k * 9 + 8, none⟩) (fun _ h => h.2.1) ?_
             iterate 2 (all_goals refine Calm.sp ?_)
             all_goals refine Calm.lm (zm3 mp ms mi) (fun _ h => h.2.2.1) Tryz.underlying50 ?_
             all_goals refine Calm.lm (zm3 r.p r.s r.i) (fun _ h => h.2.2.2.1) Tryz.underlying50 ?_
             all_goals refine Calm.sp ?_
             rintro w9 ⟨_, _, _, _, hb9⟩
             go_wp2_with fail
             go_roundw
             case rel => exact ⟨n + 1, by simp, by omega, one_more' HN HG3.out, hb9⟩
             case measure => simp [intOf]; omega
            ·clear HG2
             have R1w := R1.later hb
             refine Calm.region (by kernel_rfl) (by kernel_rfl) (fun w' => w'.cell? ⟨w.heap.size, 5, none⟩ = some (.slice (some ⟨g, o, none⟩) x.el.length ce') ∧ w'.cell? ⟨g, o + k * 9 + 8, none⟩ = some (.slice (some ⟨g2, o2, none⟩) L.length cy) ∧ w'.rangeAt g2 (o2 + n * 3) [Value.int .i64 mp, .int .i64 ms, .int .i64 mi] ∧ w'.rangeAt (w.heap.size + 1) 0 [Value.int .i64 r.p, .int .i64 r.s, .int .i64 r.i] ∧ Below w0.heap.size w0 w') ⟨cF, cM, d, Rw.whole (cs := [Value.int .i64 r.p, .int .i64 r.s, .int .i64 r.i]) R1w, hb.drew⟩ ?_
             all_goals refine Calm.sp ?_
             all_goals refine Calm.ce (v := .slice (some ⟨g, o, none⟩) x.el.length ce') (ad := ⟨w.heap.size, 5, none⟩) (fun _ h => h.1) ?_
             iterate 3 (all_goals refine Calm.sp ?_)
             all_goals refine Calm.ce (v := .slice (some ⟨g2, o2, none⟩) L.length cy) (ad := ⟨g, o + k * 9 + 8, none⟩) (fun _ h => h.2.1) ?_
             iterate 2 (all_goals refine Calm.sp ?_)
             all_goals refine Calm.lm (zm3 mp ms mi) (fun _ h => h.2.2.1) Tryz.underlying50 ?_
             all_goals refine Calm.lm (zm3 r.p r.s r.i) (fun _ h => h.2.2.2.1) Tryz.underlying50 ?_
             all_goals refine Calm.sp ?_
             rintro w9 ⟨_, _, _, _, hb9⟩
             go_wp2_with fail
             show Q (.returned (.bool true)) w9
             rw [HP.out]
             exact ⟨_, rfl, fun h => (by cases h), below_on hb0 hb9⟩
           ·have HE : Hid (gG x (nt r) k = true) := by
             show _ = _
             rw [HG.out, List.all_eq_true]
             intro j hj
             have hj2 : j < L.length := by simpa using hj
             exact HN.out j hj2 (by omega)
            go_wp2_with fail
            go_roundw
            case rel => exact ⟨k + 1, by simp, by omega, P0, P1, P2, one_more' HK HG3.out, one_more' HK2 HE.out, hb⟩
            case measure => simp [intOf]; omega
         ·clear HG HG1
          have R1w := R1.later hb
          refine Calm.region (by kernel_rfl) (by kernel_rfl) (fun w' => w'.cell? ⟨w.heap.size, 5, none⟩ = some (.slice (some ⟨g, o, none⟩) x.el.length ce') ∧ w'.rangeAt g (o + k * 9) [Value.int .i64 mp, .int .i64 ms, .int .i64 mi] ∧ w'.rangeAt (w.heap.size + 1) 0 [Value.int .i64 r.p, .int .i64 r.s, .int .i64 r.i] ∧ Below w0.heap.size w0 w') ⟨cF, d, Rw.whole (cs := [Value.int .i64 r.p, .int .i64 r.s, .int .i64 r.i]) R1w, hb.drew⟩ ?_
          all_goals refine Calm.sp ?_
          all_goals refine Calm.ce (v := .slice (some ⟨g, o, none⟩) x.el.length ce') (ad := ⟨w.heap.size, 5, none⟩) (fun _ h => h.1) ?_
          iterate 3 (all_goals refine Calm.sp ?_)
          all_goals refine Calm.lm (zm3 mp ms mi) (fun _ h => h.2.1) Tryz.underlying50 ?_
          all_goals refine Calm.lm (zm3 r.p r.s r.i) (fun _ h => h.2.2.1) Tryz.underlying50 ?_
          all_goals refine Calm.sp ?_
          rintro w9 ⟨_, _, _, hb9⟩
          go_wp2_with fail
          show Q (.returned (.bool true)) w9
          rw [HP.out]
          exact ⟨_, rfl, fun h => (by cases h), below_on hb0 hb9⟩
        ·have P3 : Hid (∀ j, j < x.el.length → gY x (nt r) j = true) := fun j hj => HK.out j hj (by omega)
         have P4 : Hid (∀ j, j < x.el.length → gG x (nt r) j = true) := fun j hj => HK2.out j hj (by omega)
         clear HK HK2
         go_wp2_with fail
         show Q (.returned (.bool false)) wr
         rw [HP.out]
         refine ⟨_, rfl, fun _ => ⟨fun y hy => ?_, fun y hy => ?_, fun y hy z hz => ?_, fun y hy => ?_, fun y hy z hz => ?_⟩, below_on hb0 hb⟩
         ·obtain ⟨j, hj, rfl⟩ := List.mem_iff_getElem.1 hy
          rw [← gA_at (b := (nt r)) hj]; exact P0.out j hj
         ·obtain ⟨j, hj, rfl⟩ := List.mem_iff_getElem.1 hy
          rw [← gT_at (b := (nt r)) hj]; exact P1.out j hj
         ·obtain ⟨j, hj, rfl⟩ := List.mem_iff_getElem.1 hy
          obtain ⟨i, hi, rfl⟩ := List.mem_iff_getElem.1 hz
          have := P2.out j hj
          rw [gM_at hj] at this
          rw [← gW_at (b := (nt r)) hi]
          exact List.all_eq_true.1 this i (by simpa using hi)
         ·obtain ⟨j, hj, rfl⟩ := List.mem_iff_getElem.1 hy
          rw [← gY_at (b := (nt r)) hj]; exact P3.out j hj
         ·obtain ⟨j, hj, rfl⟩ := List.mem_iff_getElem.1 hy
          obtain ⟨i, hi, rfl⟩ := List.mem_iff_getElem.1 hz
          have := P4.out j hj
          rw [gG_at hj] at this
          rw [← gW_at (b := (nt r)) hi]
          exact List.all_eq_true.1 this i (by simpa using hi)
end Go.Proofs.YtjbbmcommnhgeaaGreat
