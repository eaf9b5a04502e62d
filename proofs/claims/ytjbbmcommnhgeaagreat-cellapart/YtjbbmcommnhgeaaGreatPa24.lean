import Derived.Test.YtjbbmcommnhgeaaGreatPa23
set_option maxRecDepth 100000
set_option maxHeartbeats 8000000
namespace Go.Proofs.YtjbbmcommnhgeaaGreat
open Go.RowKit
theorem find_filter {α : Type} (p q : α → Bool) (l : List α) : (l.filter p).find? q = l.find? (fun a => p a && q a) := by
 induction l with
 | nil => rfl
 | cons a l ih =>
  rw [List.filter_cons, List.find?_cons]
  cases h : p a
  ·simp
  ·simp only [if_true, Bool.true_and, List.find?_cons, ih]
theorem mk_sy {a b : M} (h : mk a b = false) : mk b a = false := by
 unfold mk at h ⊢
 rw [decide_eq_decide.2 (eq_comm (a := b.p)), decide_eq_decide.2 (eq_comm (a := b.s)), decide_eq_decide.2 (eq_comm (a := b.i))]
 exact h
theorem has_wth {l : List M} {m n : M} (h : mk m n = false) : has n (wth l m) = has n l := by
 unfold wth
 split
 ·rfl
 ·exact has_insF h l
theorem wth_comm {l : List M} {m n : M} (h : mk m n = false) : wth (wth l m) n = wth (wth l n) m := by
 have h1 := has_wth (l := l) h
 have h2 := has_wth (l := l) (mk_sy h)
 cases e1 : has m l
 ·cases e2 : has n l
  ·have a1 : wth l m = insF m l := by unfold wth; rw [e1]; rfl
   have a2 : wth l n = insF n l := by unfold wth; rw [e2]; rfl
   rw [e2] at h1
   rw [e1] at h2
   rw [show wth (wth l m) n = insF n (wth l m) by rw [wth, h1]; rfl, show wth (wth l n) m = insF m (wth l n) by rw [wth, h2]; rfl, a1, a2]
   exact insF_comm (mk_sy h) l
  ·rw [e2] at h1
   rw [show wth (wth l m) n = wth l m by rw [wth, h1]; rfl, show wth l n = l by unfold wth; rw [e2]; rfl]
 ·rw [e1] at h2
  rw [show wth (wth l n) m = wth l n by rw [wth, h2]; rfl, show wth l m = l by unfold wth; rw [e1]; rfl]
theorem filter_insM {a : M} {f : M → Bool} (h : f a = true) (l : List M) : (insF a l).filter f = insF a (l.filter f) := by
 unfold insF
 rw [List.filter_append, List.filter_cons_of_pos h, List.filter_filter, List.filter_filter, List.filter_filter, List.filter_filter]
 congr 1
 ·congr 1
  funext y
  exact Bool.and_comm _ _
 ·congr 2
  funext y
  exact Bool.and_comm _ _
theorem has_filter {l : List M} {m : M} {f : M → Bool} (h : f m = true) : has m (l.filter f) = has m l := by
 cases e : has m l
 ·exact has_false.2 fun y hy => has_false.1 e y (List.mem_filter.1 hy).1
 ·unfold has at e ⊢
  rw [List.any_eq_true] at e ⊢
  obtain ⟨y, hy, hm⟩ := e
  exact ⟨y, List.mem_filter.2 ⟨hy, by rw [mk_eq hm]; exact h⟩, hm⟩
theorem filter_wth {l : List M} {m : M} {f : M → Bool} (h : f m = true) : (wth l m).filter f = wth (l.filter f) m := by
 have h1 := has_filter (l := l) h
 cases e : has m l
 ·rw [e] at h1
  rw [show wth l m = insF m l by unfold wth; rw [e]; rfl, show wth (l.filter f) m = insF m (l.filter f) by rw [wth, h1]; rfl]
  exact filter_insM h l
 ·rw [e] at h1
  rw [show wth l m = l by unfold wth; rw [e]; rfl, show wth (l.filter f) m = l.filter f by rw [wth, h1]; rfl]
theorem any_wth {l : List M} {m : M} {p : M → Bool} (h : p m = false) : (wth l m).any p = l.any p := by
 unfold wth
 split
 ·rfl
 ·rw [Bool.eq_iff_iff, List.any_eq_true, List.any_eq_true]
  constructor
  ·rintro ⟨y, hy, hp⟩
   rcases (insF_mem m l y).1 hy with rfl | k
   ·rw [h] at hp
    cases hp
   ·exact ⟨y, k, hp⟩
  ·rintro ⟨y, hy, hp⟩
   exact ⟨y, (insF_mem m l y).2 (.inr hy), hp⟩
namespace Ct
theorem do_comm {x : X} {a b : A} (hc : ck x = true) (h : mk a b = false) (ha : has a x.am = false) (hb : has b x.am = false) : doX (doX x a) b = doX (doX x b) a := by
 have h' : mk b a = false := by
  unfold mk at h ⊢
  rw [decide_eq_decide.2 (eq_comm (a := b.p)), decide_eq_decide.2 (eq_comm (a := b.s)), decide_eq_decide.2 (eq_comm (a := b.i))]
  exact h
 cases ea : ia a.i a.n
 ·have e : ∀ y, doX y a = y := fun y => by unfold doX; rw [ea]; simp
  rw [e, e]
 ·cases eb : ia b.i b.n
  ·have e : ∀ y, doX y b = y := fun y => by unfold doX; rw [eb]; simp
   rw [e, e]
  ·have c0 := (ck_parts hc).2.2.2.2.2
   have e1 : doX x a = { x with am := insF a x.am } := by unfold doX; rw [hc, ea, ha]; rfl
   have e2 : doX x b = { x with am := insF b x.am } := by unfold doX; rw [hc, eb, hb]; rfl
   have c1 := ck_am hc (insF_ca c0 ea ha)
   have c2 := ck_am hc (insF_ca c0 eb hb)
   have b1 : has b (insF a x.am) = false := by rw [has_insF h]; exact hb
   have b2 : has a (insF b x.am) = false := by rw [has_insF h']; exact ha
   have f1 : doX { x with am := insF a x.am } b = { x with am := insF b (insF a x.am) } := by unfold doX; rw [c1, eb, show has b ({ x with am := insF a x.am } : X).am = false from b1]; rfl
   have f2 : doX { x with am := insF b x.am } a = { x with am := insF a (insF b x.am) } := by unfold doX; rw [c2, ea, show has a ({ x with am := insF b x.am } : X).am = false from b2]; rfl
   rw [e1, e2, f1, f2, insF_comm h]
end Ct
namespace Rg
theorem do_comm {x : X} {a b : Wt} {v u : List Int} (hc : ck x = true) (h : mk a b = false) (ha : has a x.wr = false) (hb : has b x.wr = false) (h1 : bf a.p a.s a.i b.p b.s u b.i = false) (h2 : bf b.p b.s b.i a.p a.s v a.i = false) : doX (doX x a v) b u = doX (doX x b u) a v := by
 have h' : mk b a = false := by
  unfold mk at h ⊢
  rw [decide_eq_decide.2 (eq_comm (a := b.p)), decide_eq_decide.2 (eq_comm (a := b.s)), decide_eq_decide.2 (eq_comm (a := b.i))]
  exact h
 cases ea : iw a.i a.x
 ·have e : ∀ y, doX y a v = y := fun y => by unfold doX; rw [ea]; simp
  rw [e, e]
 ·cases eb : iw b.i b.x
  ·have e : ∀ y, doX y b u = y := fun y => by unfold doX; rw [eb]; simp
   rw [e, e]
  ·rw [do_one hc ea ha, do_one hc eb hb, do_one (ck_one hc ea ha) eb (has_one h hb), do_one (ck_one hc eb hb) ea (has_one h' ha)]
   exact one_comm h h1 h2
end Rg
namespace Os
theorem look_of {l : List Mb} (h : upm l) {y : Mb} (hy : y ∈ l) : look l (tx y) = some y := by
 induction l with
 | nil => cases hy
 | cons a l ih =>
  have hp := List.pairwise_cons.1 h
  unfold look
  rw [List.find?_cons]
  rcases List.mem_cons.1 hy with rfl | k
  ·simp
  ·have : tx a ≠ tx y := fun e => Bs.irr (tx y) (by have := hp.1 y k; rw [e] at this; exact this)
   simp only [this, decide_false]
   exact ih hp.2 k
theorem up_ext {a b : List Mb} (ha : upm a) (hb : upm b) (h : ∀ s, look a s = look b s) : a = b := by
 induction a generalizing b with
 | nil =>
  cases b with
  | nil => rfl
  | cons y b =>
   have := h (tx y)
   rw [look_of hb (List.mem_cons_self ..)] at this
   cases this
 | cons x a ih =>
  cases b with
  | nil =>
   have := h (tx x)
   rw [look_of ha (List.mem_cons_self ..)] at this
   cases this
  | cons y b =>
   have pa := List.pairwise_cons.1 ha
   have pb := List.pairwise_cons.1 hb
   have hx : x ∈ y :: b := by
    have := h (tx x)
    rw [look_of ha (List.mem_cons_self ..)] at this
    exact (look_mem this.symm).1
   have hy : y ∈ x :: a := by
    have := h (tx y)
    rw [look_of hb (List.mem_cons_self ..)] at this
    exact (look_mem this).1
   have e : x = y := by
    rcases List.mem_cons.1 hx with k | k
    ·exact k
    ·rcases List.mem_cons.1 hy with k2 | k2
     ·exact k2.symm
     ·exact absurd (Bs.trans (pa.1 y k2) (pb.1 x k)) (Bs.irr _)
   subst e
   congr 1
   refine ih pa.2 pb.2 fun s => ?_
   have hs := h s
   unfold look at hs ⊢
   rw [List.find?_cons, List.find?_cons] at hs
   by_cases es : tx x = s
   ·have n1 : a.find? (fun y => decide (tx y = s)) = none := List.find?_eq_none.2 fun y hy => by
     have := pa.1 y hy
     intro hd
     rw [decide_eq_true_eq] at hd
     rw [es, hd] at this
     exact Bs.irr _ this
    have n2 : b.find? (fun y => decide (tx y = s)) = none := List.find?_eq_none.2 fun y hy => by
     have := pb.1 y hy
     intro hd
     rw [decide_eq_true_eq] at hd
     rw [es, hd] at this
     exact Bs.irr _ this
    rw [n1, n2]
   ·simpa [es] using hs
theorem look_putL (y : Mb) (l : List Mb) (s : Bs) : look (putL y l) s = if tx y = s then some y else look l s := by
 unfold look putL
 rw [List.find?_append, List.find?_cons, find_filter, find_filter]
 by_cases e : tx y = s
 ·rw [List.find?_eq_none.2 (fun a _ => by
   rw [Bool.and_eq_true, decide_eq_true_eq, decide_eq_true_eq]
   rintro ⟨h1, h2⟩
   rw [h2, ← e] at h1
   exact Bs.irr _ h1)]
  simp [e]
 ·simp only [e, decide_false, if_false]
  by_cases h : s < tx y
  ·have e1 : (fun a : Mb => decide (tx a < tx y) && decide (tx a = s)) = fun a => decide (tx a = s) := by
    funext a
    by_cases k : tx a = s
    ·simp [k, h]
    ·simp [k]
   have e2 : l.find? (fun a => decide (tx y < tx a) && decide (tx a = s)) = none := List.find?_eq_none.2 fun a _ => by
    rw [Bool.and_eq_true, decide_eq_true_eq, decide_eq_true_eq]
    rintro ⟨h1, h2⟩
    rw [h2] at h1
    exact Bs.irr _ (Bs.trans h h1)
   rw [e1, e2]
   simp
  ·have h' : tx y < s := Bs.tri h (fun k => e k.symm)
   have e1 : (fun a : Mb => decide (tx y < tx a) && decide (tx a = s)) = fun a => decide (tx a = s) := by
    funext a
    by_cases k : tx a = s
    ·simp [k, h']
    ·simp [k]
   have e2 : l.find? (fun a => decide (tx a < tx y) && decide (tx a = s)) = none := List.find?_eq_none.2 fun a _ => by
    rw [Bool.and_eq_true, decide_eq_true_eq, decide_eq_true_eq]
    rintro ⟨h1, h2⟩
    rw [h2] at h1
    exact h h1
   rw [e1, e2]
   simp
theorem look_wo {l : List Mb} (h : upm l) (G : Mb → Bool) (p : M → Bool) (s : Bs) : look (wo G p l) s = (look l s).bind (fun y => if G y = true then dm p y else some y) := by
 induction l with
 | nil => rfl
 | cons y l ih =>
  have hp := List.pairwise_cons.1 h
  have ih := ih hp.2
  have e0 : look (y :: l) s = if tx y = s then some y else look l s := by
   unfold look
   rw [List.find?_cons]
   by_cases k : tx y = s <;> simp [k]
  rw [e0]
  cases e : (if G y = true then dm p y else some y) with
  | none =>
   have e1 : wo G p (y :: l) = wo G p l := by unfold wo; rw [List.filterMap_cons, e]
   rw [e1]
   split
   ·rename_i k
    rw [ih, Option.bind_some, e]
    rw [show look l s = none from List.find?_eq_none.2 fun a ha => by
     rw [decide_eq_true_eq]
     intro hd
     have := hp.1 a ha
     rw [k, hd] at this
     exact Bs.irr _ this]
    rfl
   ·exact ih
  | some z =>
   have e1 : wo G p (y :: l) = z :: wo G p l := by unfold wo; rw [List.filterMap_cons, e]
   have hz : tx z = tx y := by unfold tx; rw [wo_tx e]
   have e2 : look (z :: wo G p l) s = if tx z = s then some z else look (wo G p l) s := by
    unfold look
    rw [List.find?_cons]
    by_cases k : tx z = s <;> simp [k]
   rw [e1, e2, hz]
   split
   ·rw [Option.bind_some, e]
   ·exact ih
theorem add_comm {l : List Mb} (h : upm l) {s t : ByteArray} {m n : M} (hm : mk m n = false) : addL (addL l s m) t n = addL (addL l t n) s m := by
 refine up_ext (putL_upm (putL_upm h _) _) (putL_upm (putL_upm h _) _) fun w => ?_
 have L : ∀ (l : List Mb) (s : ByteArray) (m : M) (w : Bs), look (addL l s m) w = if bs s = w then some (addY l s m) else look l w := fun l s m w => look_putL _ _ _
 by_cases e : s = t
 ·subst e
  have a : ∀ m n, addY (addL l s m) s n = ⟨s, ((look l (bs s)).map (·.b)).getD false, wth (wth (((look l (bs s)).map (·.ms)).getD []) m) n⟩ := fun m n => by
   unfold addY
   rw [L l s m (bs s), if_pos rfl]
   rfl
  rw [L (addL l s m) s n w, L (addL l s n) s m w, a, a, wth_comm hm, L l s m w, L l s n w]
  split <;> rfl
 ·have ne : bs s ≠ bs t := fun k => e (bs_inj k)
  rw [L (addL l s m) t n w, L (addL l t n) s m w, L l s m w, L l t n w]
  have a1 : addY (addL l s m) t n = addY l t n := by unfold addY; rw [L l s m, if_neg ne]
  have a2 : addY (addL l t n) s m = addY l s m := by unfold addY; rw [L l t n, if_neg ne.symm]
  rw [a1, a2]
  by_cases k1 : bs t = w
  ·rw [if_pos k1, if_neg (fun k => ne (k.trans k1.symm)), if_pos k1]
  ·rw [if_neg k1, if_neg k1]
theorem add_wo {l : List Mb} (h : upm l) {s t : ByteArray} {m : M} {p : M → Bool} (hp : p m = false) : wo (fun y => decide (tx y = bs t)) p (addL l s m) = addL (wo (fun y => decide (tx y = bs t)) p l) s m := by
 refine up_ext (wo_upm (putL_upm h _) _ _) (putL_upm (wo_upm h _ _) _) fun w => ?_
 have L : ∀ (l : List Mb) (s : ByteArray) (m : M) (w : Bs), look (addL l s m) w = if bs s = w then some (addY l s m) else look l w := fun l s m w => look_putL _ _ _
 rw [look_wo (show upm (addL l s m) from putL_upm h _), L l s m w, L _ s m w]
 split
 ·rename_i e
  subst e
  rw [Option.bind_some]
  have hpm : (fun m => !p m) m = true := by simp [hp]
  have g : ∀ b (ms : List M), dm p ⟨s, b, wth ms m⟩ = some ⟨s, false, wth (ms.filter (fun m => !p m)) m⟩ := fun b ms => by
   unfold dm
   simp only
   rw [filter_wth hpm, if_neg (by have := wth_ne (ms.filter (fun m => !p m)) m; omega)]
  by_cases k : bs s = bs t
  ·rw [if_pos (by exact decide_eq_true k)]
   unfold addY
   rw [g, look_wo h]
   cases e1 : look l (bs s) with
   | none => rfl
   | some y =>
    have ty := (look_mem e1).2
    simp only [Option.bind_some, Option.map_some, Option.getD_some]
    rw [if_pos (decide_eq_true (ty.trans k))]
    unfold dm
    split
    ·rename_i hl
     rw [List.eq_nil_of_length_eq_zero hl]
     rfl
    ·rfl
  ·rw [if_neg (by rw [decide_eq_true_eq]; exact k)]
   unfold addY
   rw [look_wo h]
   cases e1 : look l (bs s) with
   | none => rfl
   | some y =>
    have ty := (look_mem e1).2
    simp only [Option.bind_some]
    rw [if_neg (by rw [decide_eq_true_eq, ty]; exact k)]
 ·rw [look_wo h]
theorem dm_comm (p q : M → Bool) (y : Mb) : (dm p y).bind (dm q) = (dm q y).bind (dm p) := by
 have c : (y.ms.filter (fun m => !p m)).filter (fun m => !q m) = (y.ms.filter (fun m => !q m)).filter (fun m => !p m) := by
  rw [List.filter_filter, List.filter_filter]
  congr 1
  funext m
  exact Bool.and_comm _ _
 unfold dm
 by_cases h1 : (y.ms.filter (fun m => !p m)).length = 0
 ·rw [if_pos h1]
  have e := List.eq_nil_of_length_eq_zero h1
  by_cases h2 : (y.ms.filter (fun m => !q m)).length = 0
  ·rw [if_pos h2]
   rfl
  ·rw [if_neg h2]
   simp only [Option.bind_none, Option.bind_some]
   rw [← c, e]
   rfl
 ·rw [if_neg h1]
  by_cases h2 : (y.ms.filter (fun m => !q m)).length = 0
  ·rw [if_pos h2]
   have e := List.eq_nil_of_length_eq_zero h2
   simp only [Option.bind_none, Option.bind_some]
   rw [c, e]
   rfl
  ·rw [if_neg h2]
   simp only [Option.bind_some]
   rw [c]
theorem wo_comm {l : List Mb} (h : upm l) (a b : Bs) (p q : M → Bool) : wo (fun y => decide (tx y = a)) p (wo (fun y => decide (tx y = b)) q l) = wo (fun y => decide (tx y = b)) q (wo (fun y => decide (tx y = a)) p l) := by
 refine up_ext (wo_upm (wo_upm h _ _) _ _) (wo_upm (wo_upm h _ _) _ _) fun w => ?_
 rw [look_wo (wo_upm h _ _), look_wo h, look_wo (wo_upm h _ _), look_wo h]
 cases e : look l w with
 | none => rfl
 | some y =>
  rw [Option.bind_some, Option.bind_some]
  have T : ∀ {p : M → Bool} {z : Mb}, dm p y = some z → tx z = tx y := fun hz => by unfold tx; rw [dm_tx hz]
  by_cases ha : tx y = a
  ·by_cases hb : tx y = b
   ·rw [if_pos (decide_eq_true hb), if_pos (decide_eq_true ha)]
    have := dm_comm q p y
    cases e1 : dm q y with
    | none =>
     rw [e1] at this
     cases e2 : dm p y with
     | none => rfl
     | some z =>
      rw [e2] at this
      rw [Option.bind_some, Option.bind_none, if_pos (decide_eq_true ((T e2).trans hb))]
      exact this
    | some z1 =>
     rw [e1] at this
     rw [Option.bind_some, if_pos (decide_eq_true ((T e1).trans ha))]
     cases e2 : dm p y with
     | none =>
      rw [e2] at this
      exact this
     | some z =>
      rw [e2] at this
      rw [Option.bind_some, if_pos (decide_eq_true ((T e2).trans hb))]
      exact this
   ·rw [if_neg (by rw [decide_eq_true_eq]; exact hb), if_pos (decide_eq_true ha), Option.bind_some, if_pos (decide_eq_true ha)]
    cases e2 : dm p y with
    | none => rfl
    | some z => rw [Option.bind_some, if_neg (by rw [decide_eq_true_eq, T e2]; exact hb)]
  ·rw [if_neg (c := decide (tx y = a) = true) (by rw [decide_eq_true_eq]; exact ha), Option.bind_some]
   by_cases hb : tx y = b
   ·rw [if_pos (decide_eq_true hb)]
    cases e2 : dm q y with
    | none => rfl
    | some z => rw [Option.bind_some, if_neg (by rw [decide_eq_true_eq, T e2]; exact ha)]
   ·rw [if_neg (by rw [decide_eq_true_eq]; exact hb), Option.bind_some, if_neg (by rw [decide_eq_true_eq]; exact ha)]
theorem up_of {x : X} (h : ck x = true) : upm x.mb := ck_upm h
theorem addX_or (m : M) (s : ByteArray) : ((im m.i && decide (s.size ≤ 64)) = true ∧ (∀ y, ck y = true → addX y m s = { y with mb := addL y.mb s m })) ∨ (∀ y, addX y m s = y) := by
 cases e : (im m.i && decide (s.size ≤ 64))
 ·exact .inr fun y => by unfold addX; rw [e]; simp
 ·exact .inl ⟨rfl, fun y hy => by unfold addX; rw [e, hy]; rfl⟩
theorem addX_comm {x : X} (hc : ck x = true) {s t : ByteArray} {m n : M} (hm : mk m n = false) : addX (addX x m s) n t = addX (addX x n t) m s := by
 rcases addX_or m s with ⟨_, h1⟩ | h1
 ·rcases addX_or n t with ⟨_, h2⟩ | h2
  ·have c1 := ck_addX hc m s
   have c2 := ck_addX hc n t
   rw [h2 _ c1, h1 _ c2, h1 _ hc, h2 _ hc]
   show X.mk _ _ _ _ (addL (addL x.mb s m) t n) _ = X.mk _ _ _ _ (addL (addL x.mb t n) s m) _
   rw [add_comm (up_of hc) hm]
  ·rw [h2, h2]
 ·rw [h1, h1]
theorem add_del {x : X} (hc : ck x = true) {s t : ByteArray} {m : M} {q u : Int} {v : List Int} (hp : bfP q u v 1 m = false) : delX (addX x m s) q u v 1 t = addX (delX x q u v 1 t) m s := by
 have hd : ∀ y, ck y = true → delX y q u v 1 t = { y with mb := wo (fun z => decide (tx z = bs t)) (bfP q u v 1) y.mb } := fun y hy => woX_ck hy rfl _ _
 rcases addX_or m s with ⟨_, h1⟩ | h1
 ·have c1 := ck_addX hc m s
  have c2 : ck (delX x q u v 1 t) = true := ck_woX hc _ _ _
  rw [hd _ c1, h1 _ c2, h1 _ hc, hd _ hc]
  show X.mk _ _ _ _ (wo _ _ (addL x.mb s m)) _ = X.mk _ _ _ _ (addL (wo _ _ x.mb) s m) _
  rw [add_wo (up_of hc) hp]
 ·rw [h1, h1]
theorem del_del {x : X} (hc : ck x = true) {s t : ByteArray} {q u q' u' : Int} {v v' : List Int} : delX (delX x q u v 1 s) q' u' v' 1 t = delX (delX x q' u' v' 1 t) q u v 1 s := by
 have hd : ∀ q u v (t : ByteArray) y, ck y = true → delX y q u v 1 t = { y with mb := wo (fun z => decide (tx z = bs t)) (bfP q u v 1) y.mb } := fun q u v t y hy => woX_ck hy rfl _ _
 have c1 : ck (delX x q u v 1 s) = true := ck_woX hc _ _ _
 have c2 : ck (delX x q' u' v' 1 t) = true := ck_woX hc _ _ _
 rw [hd q' u' v' t _ c1, hd q u v s _ c2, hd q u v s _ hc, hd q' u' v' t _ hc]
 show X.mk _ _ _ _ (wo _ _ (wo _ _ x.mb)) _ = X.mk _ _ _ _ (wo _ _ (wo _ _ x.mb)) _
 rw [wo_comm (up_of hc)]
end Os
theorem find_insE {e : El} {r : K} (h : kE e ≠ r) (l : List El) : (insE e l).find? (fun y => decide (kE y = r)) = l.find? (fun y => decide (kE y = r)) := by
 unfold insE
 rw [List.find?_append, List.find?_cons, find_filter, find_filter]
 simp only [h, decide_false]
 cases k : kl r (kE e)
 ·have e1 : l.find? (fun a => kl (kE a) (kE e) && decide (kE a = r)) = none := List.find?_eq_none.2 fun a _ => by
   rw [Bool.and_eq_true, decide_eq_true_eq]
   rintro ⟨h1, h2⟩
   rw [h2, k] at h1
   cases h1
  have e2 : (fun a : El => !kl (kE a) (kE e) && decide (kE a = r)) = fun a => decide (kE a = r) := by
   funext a
   by_cases q : kE a = r
   ·simp [q, k]
   ·simp [q]
  rw [e1, e2]
  simp
 ·have e1 : l.find? (fun a => !kl (kE a) (kE e) && decide (kE a = r)) = none := List.find?_eq_none.2 fun a _ => by
   rw [Bool.and_eq_true, decide_eq_true_eq]
   rintro ⟨h1, h2⟩
   rw [h2, k] at h1
   cases h1
  have e2 : (fun a : El => kl (kE a) (kE e) && decide (kE a = r)) = fun a => decide (kE a = r) := by
   funext a
   by_cases q : kE a = r
   ·simp [q, k]
   ·simp [q]
  rw [e1, e2]
  simp
theorem tk_ins {e : El} {r : K} {p : M → Bool} (h : kE e ≠ r) (l : List El) : tk (insE e l) r p = tk l r p := by
 unfold tk
 rw [find_insE h]
theorem tk_gE {l : List El} {f : M → Bool} {m : M} {r : K} {p : M → Bool} (hp : p m = false) : tk (l.map (gE f m)) r p = tk l r p := by
 unfold tk
 rw [List.find?_map]
 have e : ((fun e => decide (kE e = r)) ∘ gE f m) = fun e => decide (kE e = r) := by
  funext y
  show decide (kE (gE f m y) = r) = _
  rw [gE_k]
 rw [e]
 cases l.find? (fun e => decide (kE e = r)) with
 | none => rfl
 | some y =>
  simp only [Option.map_some]
  congr 2
  unfold gE
  split
  ·exact any_wth hp
  ·rfl
theorem insX_or {x : X} (e : El) (p : M → Bool) (hn : ∀ y ∈ x.el, kE y ≠ kE e) : ((ie e && tk x.el (rE e) p) = true ∧ ∀ y, ck y = true → tk y.el (rE e) p = tk x.el (rE e) p → (∀ z ∈ y.el, kE z ≠ kE e) → insX y e p = { y with el := insE e y.el }) ∨ (∀ y, tk y.el (rE e) p = tk x.el (rE e) p → insX y e p = y) := by
 have _ := hn
 cases h : (ie e && tk x.el (rE e) p)
 ·refine .inr fun y hy => ?_
  unfold insX
  rw [hy, if_neg]
  intro hc
  simp only [Bool.and_eq_true] at hc h
  rw [hc.2.1, hc.2.2.1] at h
  cases h
 ·refine .inl ⟨rfl, fun y hc hy hz => ?_⟩
  rw [Bool.and_eq_true] at h
  unfold insX
  rw [hc, hy, h.1, h.2, pl_none.2 hz]
  rfl
theorem ins_ins {x : X} {a b : El} {p q : M → Bool} (hc : ck x = true) (h : kE a ≠ kE b) (ha : ∀ y ∈ x.el, kE y ≠ kE a) (hb : ∀ y ∈ x.el, kE y ≠ kE b) (h1 : kE a ≠ rE b) (h2 : kE b ≠ rE a) : insX (insX x a p) b q = insX (insX x b q) a p := by
 have n1 : ∀ z ∈ insE a x.el, kE z ≠ kE b := fun z hz => by
  rcases ins_mem.1 hz with rfl | k
  ·exact h
  ·exact hb z k
 have n2 : ∀ z ∈ insE b x.el, kE z ≠ kE a := fun z hz => by
  rcases ins_mem.1 hz with rfl | k
  ·exact h.symm
  ·exact ha z k
 rcases insX_or a p ha with ⟨_, f1⟩ | f1
 ·rcases insX_or b q hb with ⟨_, f2⟩ | f2
  ·have c1 := ck_ins (e := a) (p := p) hc
   have c2 := ck_ins (e := b) (p := q) hc
   rw [f1 x hc rfl ha] at c1 ⊢
   rw [f2 x hc rfl hb] at c2 ⊢
   rw [f2 _ c1 (tk_ins h1 _) n1, f1 _ c2 (tk_ins h2 _) n2]
   show X.mk _ _ _ _ _ (insE b (insE a x.el)) = X.mk _ _ _ _ _ (insE a (insE b x.el))
   rw [ins_comm (tre_ck hc).up hb ha h.symm]
  ·rw [f2 x rfl, f1 x hc rfl ha]
   exact f2 _ (tk_ins h1 _)
 ·rw [f1 x rfl]
  rcases insX_or b q hb with ⟨_, f2⟩ | f2
  ·rw [f2 x hc rfl hb]
   exact (f1 _ (tk_ins h2 _)).symm
  ·rw [f2 x rfl, f1 x rfl]
theorem map_insE (g : El → El) (hg : ∀ e, kE (g e) = kE e) (e : El) (he : g e = e) (l : List El) : (insE e l).map g = insE e (l.map g) := by
 unfold insE
 rw [List.map_append, List.map_cons, he, List.filter_map, List.filter_map]
 congr 1
 ·congr 2
  funext y
  show _ = kl (kE (g y)) _
  rw [hg]
 ·congr 3
  funext y
  show _ = !kl (kE (g y)) _
  rw [hg]
theorem ins_go {x : X} {e : El} {p : M → Bool} {m : M} {f : M → Bool} (hc : ck x = true) (hn : ∀ y ∈ x.el, kE y ≠ kE e) (hm : im m.i = true) (hf : f (mE e) = false) (hp : p m = false) : goX (insX x e p) m f = insX (goX x m f) e p := by
 have ge : gE f m e = e := by unfold gE; rw [hf]; rfl
 have G : ∀ y, ck y = true → goX y m f = { y with el := y.el.map (gE f m) } := fun y hy => by unfold goX; rw [hy, hm]; rfl
 have cg := ck_go (f := f) hc hm
 have n1 : ∀ z ∈ (goX x m f).el, kE z ≠ kE e := fun z hz => by
  rw [G x hc] at hz
  obtain ⟨y, hy, rfl⟩ := List.mem_map.1 hz
  rw [gE_k]
  exact hn y hy
 have tg : tk (goX x m f).el (rE e) p = tk x.el (rE e) p := by rw [G x hc]; exact tk_gE hp
 rcases insX_or e p hn with ⟨_, f1⟩ | f1
 ·have c1 := ck_ins (e := e) (p := p) hc
  rw [f1 _ cg tg n1]
  rw [f1 x hc rfl hn] at c1 ⊢
  rw [G _ c1, G x hc]
  show X.mk _ _ _ _ _ ((insE e x.el).map _) = X.mk _ _ _ _ _ (insE e (x.el.map _))
  rw [map_insE _ (gE_k f m) e ge]
 ·rw [f1 x rfl, f1 _ tg]
theorem go_go {x : X} {m n : M} {f g : M → Bool} (hc : ck x = true) (hm : im m.i = true) (hn : im n.i = true) (h : mk m n = false) : goX (goX x m f) n g = goX (goX x n g) m f := by
 have G : ∀ (m : M) (f : M → Bool) y, im m.i = true → ck y = true → goX y m f = { y with el := y.el.map (gE f m) } := fun m f y hm hy => by unfold goX; rw [hy, hm]; rfl
 rw [G n g _ hn (ck_go hc hm), G m f _ hm (ck_go hc hn), G m f x hm hc, G n g x hn hc]
 show X.mk _ _ _ _ _ ((x.el.map _).map _) = X.mk _ _ _ _ _ ((x.el.map _).map _)
 rw [List.map_map, List.map_map]
 congr 2
 funext e
 show gE g n (gE f m e) = gE f m (gE g n e)
 cases h1 : f (mE e)
 ·cases h2 : g (mE e)
  ·have e1 : gE f m e = e := by unfold gE; rw [h1]; rfl
   have e2 : gE g n e = e := by unfold gE; rw [h2]; rfl
   rw [e1, e2, e1]
  ·have e1 : gE f m e = e := by unfold gE; rw [h1]; rfl
   have e2 : gE f m (gE g n e) = gE g n e := by rw [gE, gE_m, h1]; rfl
   rw [e1, e2]
 ·cases h2 : g (mE e)
  ·have e1 : gE g n e = e := by unfold gE; rw [h2]; rfl
   have e2 : gE g n (gE f m e) = gE f m e := by rw [gE, gE_m, h2]; rfl
   rw [e1, e2]
  ·have e1 : gE f m e = { e with gone := wth e.gone m } := by unfold gE; rw [h1]; rfl
   have e2 : gE g n e = { e with gone := wth e.gone n } := by unfold gE; rw [h2]; rfl
   have e3 : gE g n (gE f m e) = { gE f m e with gone := wth (gE f m e).gone n } := by rw [gE, gE_m, h2]; rfl
   have e4 : gE f m (gE g n e) = { gE g n e with gone := wth (gE g n e).gone m } := by rw [gE, gE_m, h1]; rfl
   rw [e3, e4, e1, e2]
   show El.mk _ _ _ _ _ _ _ _ (wth (wth e.gone m) n) = El.mk _ _ _ _ _ _ _ _ (wth (wth e.gone n) m)
   rw [wth_comm h]
end Go.Proofs.YtjbbmcommnhgeaaGreat
namespace Go.Proofs.YtjbbmcommnhgeaaGreat
open Go.RowKit
theorem doc_k (x : X) (o : O) (q u : Int) (v : List Int) (t i : Int) (k : Int) (h : x.k = k) : doc x o q u v t i = cse k
 (if (o.act == 1) = true then Ct.doX x ⟨q, u, i, o.n⟩ else x)
 (if (o.act == 3) = true then Rg.doX x ⟨q, u, i, t, o.text⟩ v else x)
 (if (o.act == 1) = true then Os.addX x ⟨q, u, i⟩ o.text else if (o.act == 2) = true then Os.delX x q u v i o.text else x)
 (if (o.act == 4) = true then insX x ⟨q, u, i, t, o.p, o.s, o.i, o.text, []⟩ (bfP q u v i) else if (o.act == 2) = true then goX x ⟨q, u, i⟩ (fun y => decide (kM y = kM ⟨o.p, o.s, o.i⟩)) else x)
 x := by
 subst h
 rfl
theorem nt_ne {r : M} {p s i : Int} (h : nt r p s i = true) : ¬ (p = r.p ∧ s = r.s ∧ i = r.i) := by
 unfold nt at h
 rintro ⟨rfl, rfl, rfl⟩
 simp at h
theorem doc_comm {x : X} {o p : O} {tp ts tt up us ut : Int} {tv uv : List Int} (hc : ckc x = true) (hd : ¬ (tp = up ∧ ts = us)) (h1 : bf tp ts 1 up us uv 1 = false) (h2 : bf up us 1 tp ts tv 1 = false)
  (r1 : ¬ (o.p = up ∧ o.s = us ∧ o.i = 1)) (r2 : ¬ (p.p = tp ∧ p.s = ts ∧ p.i = 1)) (a1 : Away x ⟨tp, ts, 1⟩) (a2 : Away x ⟨up, us, 1⟩) : doc (doc x o tp ts tv tt 1) p up us uv ut 1 = doc (doc x p up us uv ut 1) o tp ts tv tt 1 := by
 have hm : mk (⟨tp, ts, 1⟩ : M) ⟨up, us, 1⟩ = false := by
  cases e : mk (⟨tp, ts, 1⟩ : M) ⟨up, us, 1⟩
  ·rfl
  ·exact absurd ((mk_iff _ _).1 e) (fun h => hd ⟨h.1, h.2.1⟩)
 refine by_ck (P := fun x => Away x ⟨tp, ts, 1⟩ → Away x ⟨up, us, 1⟩ → doc (doc x o tp ts tv tt 1) p up us uv ut 1 = doc (doc x p up us uv ut 1) o tp ts tv tt 1) hc ?_ ?_ ?_ ?_ ?_ a1 a2
 ·intro b am wr mb el hk a1 a2
  have k1 : (doc ⟨1, b, am, wr, mb, el⟩ o tp ts tv tt 1).k = 1 := (ck_doc (x := ⟨1, b, am, wr, mb, el⟩) (o := o) (q := tp) (u := ts) (v := tv) (t := tt) (i := 1) hk).2
  have k2 : (doc ⟨1, b, am, wr, mb, el⟩ p up us uv ut 1).k = 1 := (ck_doc (x := ⟨1, b, am, wr, mb, el⟩) (o := p) (q := up) (u := us) (v := uv) (t := ut) (i := 1) hk).2
  rw [doc_k _ p up us uv ut 1 1 k1, doc_k _ o tp ts tv tt 1 1 k2, doc_k ⟨1, b, am, wr, mb, el⟩ o tp ts tv tt 1 1 rfl, doc_k ⟨1, b, am, wr, mb, el⟩ p up us uv ut 1 1 rfl]
  simp only [cse1]
  by_cases e1 : (o.act == 1) = true
  ·by_cases e2 : (p.act == 1) = true
   ·rw [if_pos e1, if_pos e2, if_pos e1, if_pos e2]
    refine Ct.do_comm hk ?_ ?_ ?_
    ·cases e : Ct.mk ⟨tp, ts, 1, o.n⟩ ⟨up, us, 1, p.n⟩
     ·rfl
     ·exact absurd ((Ct.mk_iff _ _).1 e) (fun h => hd ⟨h.1, h.2.1⟩)
    ·refine Ct.has_false.2 fun y hy => ?_
     cases e : Ct.mk y ⟨tp, ts, 1, o.n⟩
     ·rfl
     ·exact absurd ((Ct.mk_iff _ _).1 e) (nt_ne (a1.a y hy))
    ·refine Ct.has_false.2 fun y hy => ?_
     cases e : Ct.mk y ⟨up, us, 1, p.n⟩
     ·rfl
     ·exact absurd ((Ct.mk_iff _ _).1 e) (nt_ne (a2.a y hy))
   ·rw [if_neg e2, if_neg e2]
  ·rw [if_neg e1, if_neg e1]
 ·intro b am wr mb el hk a1 a2
  have k1 : (doc ⟨2, b, am, wr, mb, el⟩ o tp ts tv tt 1).k = 2 := (ck_doc (x := ⟨2, b, am, wr, mb, el⟩) (o := o) (q := tp) (u := ts) (v := tv) (t := tt) (i := 1) hk).2
  have k2 : (doc ⟨2, b, am, wr, mb, el⟩ p up us uv ut 1).k = 2 := (ck_doc (x := ⟨2, b, am, wr, mb, el⟩) (o := p) (q := up) (u := us) (v := uv) (t := ut) (i := 1) hk).2
  rw [doc_k _ p up us uv ut 1 2 k1, doc_k _ o tp ts tv tt 1 2 k2, doc_k ⟨2, b, am, wr, mb, el⟩ o tp ts tv tt 1 2 rfl, doc_k ⟨2, b, am, wr, mb, el⟩ p up us uv ut 1 2 rfl]
  simp only [cse2]
  by_cases e1 : (o.act == 3) = true
  ·by_cases e2 : (p.act == 3) = true
   ·rw [if_pos e1, if_pos e2, if_pos e1, if_pos e2]
    refine Rg.do_comm hk ?_ ?_ ?_ h1 h2
    ·cases e : Rg.mk ⟨tp, ts, 1, tt, o.text⟩ ⟨up, us, 1, ut, p.text⟩
     ·rfl
     ·exact absurd ((Rg.mk_iff _ _).1 e) (fun h => hd ⟨h.1, h.2.1⟩)
    ·refine Rg.has_false.2 fun y hy => ?_
     cases e : Rg.mk y ⟨tp, ts, 1, tt, o.text⟩
     ·rfl
     ·exact absurd ((Rg.mk_iff _ _).1 e) (nt_ne (a1.t y hy))
    ·refine Rg.has_false.2 fun y hy => ?_
     cases e : Rg.mk y ⟨up, us, 1, ut, p.text⟩
     ·rfl
     ·exact absurd ((Rg.mk_iff _ _).1 e) (nt_ne (a2.t y hy))
   ·rw [if_neg e2, if_neg e2]
  ·rw [if_neg e1, if_neg e1]
 ·intro b am wr mb el hk a1 a2
  have k1 : (doc ⟨3, b, am, wr, mb, el⟩ o tp ts tv tt 1).k = 3 := (ck_doc (x := ⟨3, b, am, wr, mb, el⟩) (o := o) (q := tp) (u := ts) (v := tv) (t := tt) (i := 1) hk).2
  have k2 : (doc ⟨3, b, am, wr, mb, el⟩ p up us uv ut 1).k = 3 := (ck_doc (x := ⟨3, b, am, wr, mb, el⟩) (o := p) (q := up) (u := us) (v := uv) (t := ut) (i := 1) hk).2
  rw [doc_k _ p up us uv ut 1 3 k1, doc_k _ o tp ts tv tt 1 3 k2, doc_k ⟨3, b, am, wr, mb, el⟩ o tp ts tv tt 1 3 rfl, doc_k ⟨3, b, am, wr, mb, el⟩ p up us uv ut 1 3 rfl]
  simp only [cse3]
  by_cases e1 : (o.act == 3) = true
  ·by_cases e2 : (p.act == 3) = true
   ·rw [if_pos e1, if_pos e2, if_pos e1, if_pos e2]
    refine Rg.do_comm hk ?_ ?_ ?_ h1 h2
    ·cases e : Rg.mk ⟨tp, ts, 1, tt, o.text⟩ ⟨up, us, 1, ut, p.text⟩
     ·rfl
     ·exact absurd ((Rg.mk_iff _ _).1 e) (fun h => hd ⟨h.1, h.2.1⟩)
    ·refine Rg.has_false.2 fun y hy => ?_
     cases e : Rg.mk y ⟨tp, ts, 1, tt, o.text⟩
     ·rfl
     ·exact absurd ((Rg.mk_iff _ _).1 e) (nt_ne (a1.t y hy))
    ·refine Rg.has_false.2 fun y hy => ?_
     cases e : Rg.mk y ⟨up, us, 1, ut, p.text⟩
     ·rfl
     ·exact absurd ((Rg.mk_iff _ _).1 e) (nt_ne (a2.t y hy))
   ·rw [if_neg e2, if_neg e2]
  ·rw [if_neg e1, if_neg e1]
 ·intro b am wr mb el hk a1 a2
  have k1 : (doc ⟨4, b, am, wr, mb, el⟩ o tp ts tv tt 1).k = 4 := (ck_doc (x := ⟨4, b, am, wr, mb, el⟩) (o := o) (q := tp) (u := ts) (v := tv) (t := tt) (i := 1) hk).2
  have k2 : (doc ⟨4, b, am, wr, mb, el⟩ p up us uv ut 1).k = 4 := (ck_doc (x := ⟨4, b, am, wr, mb, el⟩) (o := p) (q := up) (u := us) (v := uv) (t := ut) (i := 1) hk).2
  rw [doc_k _ p up us uv ut 1 4 k1, doc_k _ o tp ts tv tt 1 4 k2, doc_k ⟨4, b, am, wr, mb, el⟩ o tp ts tv tt 1 4 rfl, doc_k ⟨4, b, am, wr, mb, el⟩ p up us uv ut 1 4 rfl]
  simp only [cse4]
  by_cases e1 : (o.act == 1) = true
  ·by_cases e2 : (p.act == 1) = true
   ·rw [if_pos e1, if_pos e2, if_pos e1, if_pos e2]
    exact Os.addX_comm hk hm
   ·rw [if_pos e1, if_neg e2, if_pos e1, if_neg e2]
    by_cases e3 : (p.act == 2) = true
    ·rw [if_pos e3, if_pos e3]
     exact Os.add_del hk h1
    ·rw [if_neg e3, if_neg e3]
  ·rw [if_neg e1, if_neg e1]
   by_cases e3 : (o.act == 2) = true
   ·rw [if_pos e3, if_pos e3]
    by_cases e2 : (p.act == 1) = true
    ·rw [if_pos e2, if_pos e2]
     exact (Os.add_del hk h2).symm
    ·rw [if_neg e2, if_neg e2]
     by_cases e4 : (p.act == 2) = true
     ·rw [if_pos e4, if_pos e4]
      exact Os.del_del hk
     ·rw [if_neg e4, if_neg e4]
   ·rw [if_neg e3, if_neg e3]
 ·intro b am wr mb el hk a1 a2
  have k1 : (doc ⟨5, b, am, wr, mb, el⟩ o tp ts tv tt 1).k = 5 := (ck_doc (x := ⟨5, b, am, wr, mb, el⟩) (o := o) (q := tp) (u := ts) (v := tv) (t := tt) (i := 1) hk).2
  have k2 : (doc ⟨5, b, am, wr, mb, el⟩ p up us uv ut 1).k = 5 := (ck_doc (x := ⟨5, b, am, wr, mb, el⟩) (o := p) (q := up) (u := us) (v := uv) (t := ut) (i := 1) hk).2
  rw [doc_k _ p up us uv ut 1 5 k1, doc_k _ o tp ts tv tt 1 5 k2, doc_k ⟨5, b, am, wr, mb, el⟩ o tp ts tv tt 1 5 rfl, doc_k ⟨5, b, am, wr, mb, el⟩ p up us uv ut 1 5 rfl]
  simp only [cse5]
  have n1 : ∀ y ∈ el, kE y ≠ (tp, ts, 1) := fun y hy e => nt_ne (a1.e y hy) ⟨congrArg (·.1) e, congrArg (·.2.1) e, congrArg (·.2.2) e⟩
  have n2 : ∀ y ∈ el, kE y ≠ (up, us, 1) := fun y hy e => nt_ne (a2.e y hy) ⟨congrArg (·.1) e, congrArg (·.2.1) e, congrArg (·.2.2) e⟩
  have ne : ((tp, ts, 1) : K) ≠ (up, us, 1) := fun e => hd ⟨congrArg (·.1) e, congrArg (·.2.1) e⟩
  have q1 : ((up, us, 1) : K) ≠ (o.p, o.s, o.i) := fun e => r1 ⟨(congrArg (·.1) e).symm, (congrArg (·.2.1) e).symm, (congrArg (·.2.2) e).symm⟩
  have q2 : ((tp, ts, 1) : K) ≠ (p.p, p.s, p.i) := fun e => r2 ⟨(congrArg (·.1) e).symm, (congrArg (·.2.1) e).symm, (congrArg (·.2.2) e).symm⟩
  by_cases e1 : (o.act == 4) = true
  ·by_cases e2 : (p.act == 4) = true
   ·rw [if_pos e1, if_pos e2, if_pos e1, if_pos e2]
    exact ins_ins hk ne n1 n2 q2 q1
   ·rw [if_pos e1, if_neg e2, if_pos e1, if_neg e2]
    by_cases e3 : (p.act == 2) = true
    ·rw [if_pos e3, if_pos e3]
     exact ins_go hk n1 rfl (decide_eq_false q2) h2
    ·rw [if_neg e3, if_neg e3]
  ·rw [if_neg e1, if_neg e1]
   by_cases e3 : (o.act == 2) = true
   ·rw [if_pos e3, if_pos e3]
    by_cases e2 : (p.act == 4) = true
    ·rw [if_pos e2, if_pos e2]
     exact (ins_go (e := ⟨up, us, 1, ut, p.p, p.s, p.i, p.text, []⟩) hk n2 rfl (decide_eq_false q1) h1).symm
    ·rw [if_neg e2, if_neg e2]
     by_cases e4 : (p.act == 2) = true
     ·rw [if_pos e4, if_pos e4]
      exact go_go hk rfl rfl hm
     ·rw [if_neg e4, if_neg e4]
   ·rw [if_neg e3, if_neg e3]
end Go.Proofs.YtjbbmcommnhgeaaGreat
namespace Go.Proofs.YtjbbmcommnhgeaaGreat
open Go.RowKit Go.Sort
theorem THas.elem {w : World} {l : List Bs} {g o : Nat} (h : w.rangeAt g o (l.map encStr)) (k : Nat) (hk : k < l.length) : w.cell? ⟨g, o + k, none⟩ = some (encStr l[k]) := h k _ (by simp [hk])
end Go.Proofs.YtjbbmcommnhgeaaGreat
namespace Go.Proofs.YtjbbmcommnhgeaaGreat
open Go.RowKit
def SmPost (n : Nat) (w : World) (e : Ending) (w' : World) : Prop := ∃ b, e = .returned (.bool b) ∧ (b = true → n ≤ 40) ∧ Below w.heap.size w w'
theorem small_any (p s : Int) (v : List Int) (t : Int) (sl : Value) (l : List O) (w : World) (hv : v.length = 13) (ho : OHas w sl l) : Calls Tryz.prog 9 #[TxV p s v t sl] w (SmPost l.length w) := by
  obtain ⟨q, c, rfl, hm, hr⟩ := ho
  have hml := maxLen_lt hm
  have HR : Hid (0 < l.length → ∃ g o, q = some ⟨g, o, none⟩ ∧ ∀ i (h : i < l.length), w.rangeAt g (o + i * 10) l[i].cells) := hr
  clear hr
  have R0 := rw_new w 34 (txc p s v t (.slice q l.length c)).toArray
  have hbel : Below w.heap.size w (w.alloc (.cells (txc p s v t (.slice q l.length c)).toArray 34)) := bel_alloc (Below.refl _ _) _
  generalize hW : w.alloc (.cells (txc p s v t (.slice q l.length c)).toArray 34) = w0 at R0 hbel
  go_enter Tryz.func9, Tryz.ntmps9
  go_wp2_with (rw [hW])
  clear hW
  go_loopw [3] (fun vi wr => ∃ k : Nat, vi = .int .i64 k ∧ k ≤ l.length ∧ (l.length ≤ 40 ∨ k = 0) ∧ Rw wr w.heap.size 34 (txc p s v t (.slice q l.length c)).toArray ∧ Below w.heap.size w wr) (fun vi _ => l.length - (intOf vi).toNat)
  case atStart => exact ⟨0, rfl, by omega, .inr rfl, R0, hbel⟩
  case round =>
    clear R0 hbel
    obtain ⟨k, rfl, hk, hor, R, hbel⟩ := hrel
    have c16 := tx_ops R hv
    by_cases hle : l.length ≤ 40
    · have hle' : (l.length : Int) ≤ 40 := by omega
      by_cases hlt : k < l.length
      · have hlt' : (k : Int) < (l.length : Int) := by omega
        obtain ⟨g, o, rfl, hd⟩ := HR.out (by omega)
        have d := range_later (hd k hlt) hbel
        clear HR hd
        have hk40 : k < 40 := by omega
        generalize l[k] = x at d
        have z35 : (Tryz.prog.info? 52).map (·.size) = some x.cells.length := size52
        have hb2 : Below w.heap.size w (wr.alloc (.cells x.cells.toArray 52)) := bel_alloc hbel _
        have R2 := R.alloc (.cells x.cells.toArray 52)
        go_wp2_with (refine load_m 52 _ rfl rfl _ _ rfl d Tryz.underlying52 rfl z35 ?_)
        all_goals first
          | (go_ret; exact ⟨_, rfl, fun _ => hle, hb2⟩)
          | (go_roundw
             case rel => exact ⟨k + 1, by simp, by omega, .inl hle, R2, hb2⟩
             case measure => simp [intOf]; omega)
      · have hlt' : ¬ (k : Int) < (l.length : Int) := by omega
        clear HR
        go_wp2_with fail
        go_ret
        exact ⟨_, rfl, fun _ => hle, hbel⟩
    · obtain rfl : k = 0 := by omega
      have hle' : ¬ (l.length : Int) ≤ 40 := by omega
      have h0 : 0 < (l.length : Int) := by omega
      clear HR
      go_wp2_with fail
      go_ret
      exact ⟨_, rfl, fun h => by simp at h, hbel⟩
def Rn (a b : Nat) (i j : Nat) (u v : Value) : Prop := a ≤ i → i ≤ b → a ≤ j → j ≤ b → u ≠ v
section
variable {Q : Exit → Act → World → Prop} {S : World → Prop} {md : Region.Mode} {A : (Nat → Value) → Act} {F : List Facts.Fact} {i : Nat} {o : Oper}
end
end Go.Proofs.YtjbbmcommnhgeaaGreat
