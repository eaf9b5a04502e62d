import Derived.Test.YtmcajjdijjcpkaaP2
import Derived.Test.YtmcajjdijjcpkaaP9
import Derived.Test.YtmcajjdijjcpkaaP5
import Derived.Test.YtmcajjdijjcpkaaP13
/- Filling and growing a tree of counts by an identity: what they come to. Plain mathematics. -/
namespace Go.Proofs.Ytmcajjdijjcpkaa
open Idn (ID)

/-- It owns all. -/
def all : ID → Bool
  | ⟨.inl b⟩ => b
  | ⟨.inr (_, _)⟩ => false
/-- The halves of what is filled. -/
def fa (l : ID) (a b : EV) : EV := if all l then .leaf (max a.n (low b)) else a
def fb (l r : ID) (a b : EV) : EV := if all l then b else if all r then .leaf (max b.n (low a)) else b
/-- Filled. -/
def fl : ID → EV → EV
  | ⟨.inl true⟩, e => .leaf (high e)
  | ⟨.inl false⟩, e => e
  | ⟨.inr (_, _)⟩, ⟨n, .inl _⟩ => .leaf n
  | ⟨.inr (l, r)⟩, ⟨n, .inr (a, b)⟩ => norm (.node n (fa l (fl l a) (fl r b)) (fb l r (fl l a) (fl r b)))
/-- What grew: the tree, the cost, what is counted there. -/
structure Gw where
  mk ::
  ev : EV
  cost : Int
  count : Int
def gA (n : Int) (b : EV) (g : Gw) : Gw := ⟨.node n g.ev b, g.cost + 1, g.count + n⟩
def gB (n : Int) (a : EV) (g : Gw) : Gw := ⟨.node n a g.ev, g.cost + 1, g.count + n⟩
def pk (l r : ID) (n : Int) (a b : EV) (g h : Gw) : Gw := if Idn.nil l then gB n a h else if Idn.nil r then gA n b g else if g.cost + 1 < h.cost + 1 then gA n b g else gB n a h
def dear (g : Gw) : Gw := ⟨g.ev, g.cost + 1000, g.count⟩
/-- Grown by the cheapest way. -/
def gr : ID → EV → Gw
  | ⟨.inl _⟩, e => ⟨.leaf (e.n + 1), 0, e.n + 1⟩
  | ⟨.inr (l, r)⟩, ⟨n, .inl _⟩ => dear (pk l r n (.leaf 0) (.leaf 0) (gr l (.leaf 0)) (gr r (.leaf 0)))
  | ⟨.inr (l, r)⟩, ⟨n, .inr (a, b)⟩ => pk l r n a b (gr l a) (gr r b)

theorem pk_cases (l r : ID) (n : Int) (a b : EV) (g h : Gw) : (pk l r n a b g h = gA n b g ∧ Idn.nil l = false) ∨ (pk l r n a b g h = gB n a h ∧ (Idn.nil r = false ∨ Idn.nil l = true)) := by
  unfold pk
  cases Idn.nil l
  · cases Idn.nil r
    · by_cases hc : g.cost + 1 < h.cost + 1
      · exact .inl ⟨by simp only [Bool.false_eq_true, if_false, if_pos hc], rfl⟩
      · exact .inr ⟨by simp only [Bool.false_eq_true, if_false, if_neg hc], .inl rfl⟩
    · exact .inl ⟨rfl, rfl⟩
  · exact .inr ⟨rfl, .inr rfl⟩
theorem h0_node (n : Int) (x y : EV) : h0 (.node n x y) = lift x n := rfl
theorem h1_node (n : Int) (x y : EV) : h1 (.node n x y) = lift y n := rfl
theorem all_iff {i : ID} : all i = true ↔ i = .leaf true := by
  rcases i with ⟨b | ⟨_, _⟩⟩
  · cases b <;> simp [all]
  · simp [all]
theorem fl_all {i : ID} (h : all i = true) (e : EV) : fl i e = .leaf (high e) := by
  rw [all_iff] at h
  subst h
  rfl

/-! Lemmas on trees of counts. -/
theorem leq_lift : ∀ (k : Nat) (a b : EV) (c : Int), leq k (lift a c) (lift b c) = leq k a b
  | 0, a, b, c => by
    show decide (a.n + c ≤ b.n + c) = decide (a.n ≤ b.n)
    rw [Bool.eq_iff_iff]
    simp only [decide_eq_true_eq]
    omega
  | k + 1, a, b, c => by simp only [leq, h0_lift, h1_lift, leq_lift k]
theorem val_lift : ∀ (k : Nat) (a : EV) (c : Int) (m : Nat), val k (lift a c) m = val k a m + c
  | 0, _, _, _ => rfl
  | k + 1, a, c, m => by
    simp only [val, h0_lift, h1_lift]
    cases m.testBit k
    · simpa using val_lift k (h0 a) c m
    · simpa using val_lift k (h1 a) c m
theorem leq_high : ∀ (k : Nat) (a : EV), depth a ≤ k → leq k a (.leaf (high a)) = true
  | 0, a, h => by
    rw [leaf_of_depth h]
    simp [leq, high]
  | k + 1, a, h => by
    have d := depth_h a k h
    have g := high_h a
    have i0 := leq_high k (h0 a) d.1
    have i1 := leq_high k (h1 a) d.2
    have j0 := leq_trans i0 (show leq k (.leaf (high (h0 a))) (.leaf (high a)) = true by rw [leq_leaf]; simpa using g.1)
    have j1 := leq_trans i1 (show leq k (.leaf (high (h1 a))) (.leaf (high a)) = true by rw [leq_leaf]; simpa using g.2)
    simp only [leq, Bool.and_eq_true]
    exact ⟨j0, j1⟩
theorem val_bits : ∀ (k : Nat) (a : EV) (m m' : Nat), (∀ j, j < k → m.testBit j = m'.testBit j) → val k a m = val k a m'
  | 0, _, _, _, _ => rfl
  | k + 1, a, m, m', h => by
    simp only [val, h k (by omega)]
    exact val_bits k _ m m' fun j hj => h j (by omega)
theorem leq_of_val : ∀ (k : Nat) (a b : EV), (∀ m, val k a m ≤ val k b m) → leq k a b = true
  | 0, a, b, h => by simpa [leq, val] using h 0
  | k + 1, a, b, h => by
    have e0 : ∀ m : Nat, (m % 2 ^ k).testBit k = false := fun m => by simp [Nat.testBit_mod_two_pow]
    have f0 : ∀ m j : Nat, j < k → (m % 2 ^ k).testBit j = m.testBit j := fun m j hj => by simp [Nat.testBit_mod_two_pow, hj]
    have e1 : ∀ m : Nat, (2 ^ k + m % 2 ^ k).testBit k = true := fun m => by rw [Nat.testBit_two_pow_add_eq, e0]; rfl
    have f1 : ∀ m j : Nat, j < k → (2 ^ k + m % 2 ^ k).testBit j = m.testBit j := fun m j hj => by rw [Nat.testBit_two_pow_add_gt hj, f0 m j hj]
    simp only [leq, Bool.and_eq_true]
    constructor
    · refine leq_of_val k _ _ fun m => ?_
      have := h (m % 2 ^ k)
      simp only [val, e0, Bool.false_eq_true, if_false] at this
      rwa [val_bits k _ _ m (f0 m), val_bits k _ _ m (f0 m)] at this
    · refine leq_of_val k _ _ fun m => ?_
      have := h (2 ^ k + m % 2 ^ k)
      simp only [val, e1, if_true] at this
      rwa [val_bits k _ _ m (f1 m), val_bits k _ _ m (f1 m)] at this

/-! Filling. -/
theorem fl_short : ∀ (i : ID) (e : EV), short e = true → short (fl i e) = true
  | ⟨.inl true⟩, _, _ => rfl
  | ⟨.inl false⟩, _, h => h
  | ⟨.inr (_, _)⟩, ⟨_, .inl _⟩, _ => rfl
  | ⟨.inr (_, _)⟩, ⟨_, .inr (_, _)⟩, _ => short_norm _
theorem fa_short {l : ID} {a b : EV} (h : short a = true) : short (fa l a b) = true := by
  unfold fa
  split
  · rfl
  · exact h
theorem fb_short {l r : ID} {a b : EV} (h : short b = true) : short (fb l r a b) = true := by
  unfold fb
  split
  · exact h
  · split
    · rfl
    · exact h
theorem fa_rg {l : ID} {a b : EV} {k : Nat} {left : Int} (ha : rg a k left = true) (hb : rg b k left = true) : rg (fa l a b) k left = true := by
  unfold fa
  split
  · have := rg_n ha
    have := rg_high hb
    simp only [rg, decide_eq_true_eq]
    omega
  · exact ha
theorem fb_rg {l r : ID} {a b : EV} {k : Nat} {left : Int} (ha : rg a k left = true) (hb : rg b k left = true) : rg (fb l r a b) k left = true := by
  unfold fb
  split
  · exact hb
  · split
    · have := rg_n hb
      have := rg_high ha
      simp only [rg, decide_eq_true_eq]
      omega
    · exact hb
theorem fl_rg : ∀ (i : ID) (e : EV) (k : Nat) (left : Int), rg e k left = true → rg (fl i e) k left = true
  | ⟨.inl true⟩, e, k, left, h => by
    have := rg_high h
    simp only [fl, rg, decide_eq_true_eq]
    omega
  | ⟨.inl false⟩, _, _, _, h => h
  | ⟨.inr (_, _)⟩, ⟨_, .inl _⟩, _, _, h => h
  | ⟨.inr (l, r)⟩, ⟨n, .inr (a, b)⟩, k, left, h => by
    obtain ⟨h1, h2, h3, h4⟩ := rg_kids h
    have i0 := fl_rg l a _ _ h3
    have i1 := fl_rg r b _ _ h4
    refine rg_norm ?_
    simp only [rg, Bool.and_eq_true, decide_eq_true_eq]
    exact ⟨h1, ⟨h2, fa_rg i0 i1⟩, fb_rg i0 i1⟩
theorem h0_fl (l r : ID) (n : Int) (a b : EV) (ha : short a = true) : h0 (fl (.node l r) (.node n a b)) = lift (fa l (fl l a) (fl r b)) n := by
  rw [fl, norm, h0_lift, h0_mk, norm_short (fa_short (fl_short l a ha))]
theorem h1_fl (l r : ID) (n : Int) (a b : EV) (hb : short b = true) : h1 (fl (.node l r) (.node n a b)) = lift (fb l r (fl l a) (fl r b)) n := by
  rw [fl, norm, h1_lift, h1_mk, norm_short (fb_short (fl_short r b hb))]
theorem leq_fa {l : ID} {a a' b : EV} {k : Nat} (h : leq k a a' = true) (hall : all l = true → a' = .leaf (high a)) : leq k a (fa l a' b) = true := by
  unfold fa
  split
  · rename_i h1
    have e := hall h1
    subst e
    refine leq_trans h ?_
    rw [leq_leaf]
    simp only [decide_eq_true_eq]
    omega
  · exact h
theorem leq_fb {l r : ID} {a b b' : EV} {k : Nat} (h : leq k b b' = true) (hall : all r = true → b' = .leaf (high b)) : leq k b (fb l r a b') = true := by
  unfold fb
  split
  · exact h
  · split
    · rename_i h1
      have e := hall h1
      subst e
      refine leq_trans h ?_
      rw [leq_leaf]
      simp only [decide_eq_true_eq]
      omega
    · exact h
theorem fl_leq : ∀ (i : ID) (e : EV) (k : Nat), depth e ≤ k → short e = true → leq k e (fl i e) = true
  | ⟨.inl true⟩, e, k, h, _ => leq_high k e h
  | ⟨.inl false⟩, e, k, _, _ => leq_refl k e
  | ⟨.inr (_, _)⟩, ⟨n, .inl ()⟩, k, _, _ => leq_refl k _
  | ⟨.inr (l, r)⟩, ⟨n, .inr (a, b)⟩, k, h, hs => by
    obtain ⟨_, _, s0, s1⟩ := short_kids hs
    obtain ⟨j, rfl⟩ : ∃ j, k = j + 1 := ⟨k - 1, by simp only [depth] at h; omega⟩
    simp only [depth] at h
    have i0 := fl_leq l a j (by omega) s0
    have i1 := fl_leq r b j (by omega) s1
    simp only [leq, Bool.and_eq_true]
    rw [h0_fl l r n a b s0, h1_fl l r n a b s1]
    simp only [h0, h1, leq_lift]
    exact ⟨leq_fa i0 fun h => fl_all h a, leq_fb i1 fun h => fl_all h b⟩
theorem has_all {i : ID} (h : all i = true) (k m : Nat) : Idn.has i k m = true := by
  rw [all_iff] at h
  subst h
  rfl
theorem fl_val : ∀ (i : ID) (e : EV) (k m : Nat), depth e ≤ k → short e = true → Idn.has i k m = false → val k (fl i e) m = val k e m
  | ⟨.inl true⟩, e, k, m, _, _, h => by simp [Idn.has] at h
  | ⟨.inl false⟩, _, _, _, _, _, _ => rfl
  | ⟨.inr (_, _)⟩, ⟨n, .inl ()⟩, k, m, _, _, _ => rfl
  | ⟨.inr (l, r)⟩, ⟨n, .inr (a, b)⟩, k, m, h, hs, hh => by
    obtain ⟨_, _, s0, s1⟩ := short_kids hs
    obtain ⟨j, rfl⟩ : ∃ j, k = j + 1 := ⟨k - 1, by simp only [depth] at h; omega⟩
    simp only [depth] at h
    have i0 := fl_val l a j m (by omega) s0
    have i1 := fl_val r b j m (by omega) s1
    simp only [Idn.has, Nat.add_sub_cancel] at hh
    simp only [val]
    cases hm : m.testBit j
    · simp only [hm, Bool.false_eq_true, if_false] at hh ⊢
      rw [h0_fl l r n a b s0]
      simp only [h0, val_lift]
      have : all l = false := by
        cases h1 : all l
        · rfl
        · rw [has_all h1] at hh; cases hh
      simp only [fa, this, Bool.false_eq_true, if_false, i0 hh]
    · simp only [hm, if_true] at hh ⊢
      rw [h1_fl l r n a b s1]
      simp only [h1, val_lift]
      have : all r = false := by
        cases h1 : all r
        · rfl
        · rw [has_all h1] at hh; cases hh
      simp only [fb, this, Bool.false_eq_true, if_false, ite_self, i1 hh]

/-! What filling leaves as it is. -/
theorem fl_kids {l r : ID} {n : Int} {a b : EV} (ht : Idn.tw l r = false) (hs : short (.node n a b) = true) (h : fl (.node l r) (.node n a b) = .node n a b) :
    (fl l a = a ∧ fl r b = b) ∧ (all l = true → b.n ≤ a.n) ∧ (all r = true → a.n ≤ b.n) := by
  obtain ⟨_, _, s0, s1⟩ := short_kids hs
  have e0 := h0_fl l r n a b s0
  have e1 := h1_fl l r n a b s1
  rw [h] at e0 e1
  have f0 : a = fa l (fl l a) (fl r b) := lift_inj e0
  have f1 : b = fb l r (fl l a) (fl r b) := lift_inj e1
  unfold fa at f0
  unfold fb at f1
  cases hl : all l
  · simp only [hl, Bool.false_eq_true, if_false] at f0 f1
    cases hr : all r
    · simp only [hr, Bool.false_eq_true, if_false] at f1
      exact ⟨⟨f0.symm, f1.symm⟩, fun h => by simp at h, fun h => by simp at h⟩
    · simp only [hr, if_true] at f1
      rw [fl_all hr, ← f0] at f1
      have l0 := low_short s0
      have fb' : b.n = max (high b) (low a) := by
        have := congrArg EV.n f1
        simpa using this
      refine ⟨⟨f0.symm, ?_⟩, fun h => by simp at h, fun _ => by omega⟩
      rw [fl_all hr, f1]
      simp only [high]
  · simp only [hl, if_true] at f0 f1
    rw [fl_all hl, ← f1] at f0
    have l1 := low_short s1
    have fa' : a.n = max (high a) (low b) := by
      have := congrArg EV.n f0
      simpa using this
    refine ⟨⟨?_, f1.symm⟩, fun _ => by omega, fun hr => ?_⟩
    · rw [fl_all hl, f0]
      simp only [high]
    · rw [all_iff] at hl hr
      subst hl hr
      simp [Idn.tw] at ht
theorem nil_all {i : ID} (h : all i = true) : Idn.nil i = false := by
  rw [all_iff] at h
  subst h
  rfl
/-- What grew is short. -/
def Sh (i : ID) (e : EV) (g : EV) : Prop := short g = true ∧ (all i = true → g = .leaf (e.n + 1)) ∧ (all i = false → g.n = e.n ∧ lf g = false)
theorem tw_node {a b : EV} (h : lf a = false) : tw a b = false := by
  rcases a with ⟨_, _ | ⟨_, _⟩⟩
  · simp [lf] at h
  · rfl
theorem tw_node' {a b : EV} (h : lf b = false) : tw a b = false := by
  rcases a with ⟨_, _ | ⟨_, _⟩⟩ <;> rcases b with ⟨_, _ | ⟨_, _⟩⟩ <;> simp_all [lf, tw]
theorem sh_A {l : ID} {n : Int} {a b : EV} {g : EV} (hg : Sh l a g) (hm : min a.n b.n = 0) (sb : short b = true) (hl : all l = true → b.n ≤ a.n) : short (.node n g b) = true := by
  obtain ⟨h1, h2, h3⟩ := hg
  simp only [short, h1, sb, Bool.and_true, Bool.and_eq_true, beq_iff_eq, Bool.not_eq_true']
  cases e : all l
  · obtain ⟨h4, h5⟩ := h3 e
    exact ⟨by rw [h4]; exact hm, tw_node h5⟩
  · have h4 := h2 e
    have := hl e
    subst h4
    refine ⟨by simp only; omega, ?_⟩
    rcases b with ⟨m, _ | ⟨_, _⟩⟩
    · simp only [tw, beq_eq_false_iff_ne, ne_eq]
      simp only at this hm
      omega
    · rfl
theorem sh_B {r : ID} {n : Int} {a b : EV} {g : EV} (hg : Sh r b g) (hm : min a.n b.n = 0) (sa : short a = true) (hr : all r = true → a.n ≤ b.n) : short (.node n a g) = true := by
  obtain ⟨h1, h2, h3⟩ := hg
  simp only [short, h1, sa, Bool.and_true, Bool.and_eq_true, beq_iff_eq, Bool.not_eq_true']
  cases e : all r
  · obtain ⟨h4, h5⟩ := h3 e
    exact ⟨by rw [h4]; exact hm, tw_node' h5⟩
  · have h4 := h2 e
    have := hr e
    subst h4
    refine ⟨by simp only; omega, ?_⟩
    rcases a with ⟨m, _ | ⟨_, _⟩⟩
    · simp only [tw, beq_eq_false_iff_ne, ne_eq]
      simp only at this hm
      omega
    · rfl
theorem sh_pk {l r : ID} {n : Int} {a b : EV} {g h : Gw} (ht : Idn.tw l r = false) (hg : Idn.nil l = false → Sh l a g.ev) (hh : Idn.nil r = false → Sh r b h.ev) (hm : min a.n b.n = 0) (sa : short a = true) (sb : short b = true) (hl : all l = true → b.n ≤ a.n) (hr : all r = true → a.n ≤ b.n) :
    short (pk l r n a b g h).ev = true ∧ (pk l r n a b g h).ev.n = n ∧ lf (pk l r n a b g h).ev = false := by
  rcases pk_cases l r n a b g h with ⟨e, k⟩ | ⟨e, k⟩
  · rw [e]
    exact ⟨sh_A (hg k) hm sb hl, rfl, rfl⟩
  · have k' : Idn.nil r = false := by
      rcases k with k | k
      · exact k
      · exact Idn.nil_other ht k
    rw [e]
    exact ⟨sh_B (hh k') hm sa hr, rfl, rfl⟩
theorem fl_leaf (i : ID) (n : Int) : fl i (.leaf n) = .leaf n := by
  rcases i with ⟨b | ⟨_, _⟩⟩
  · cases b <;> rfl
  · rfl
theorem gr_short : ∀ (i : ID) (e : EV), Idn.short i = true → Idn.nil i = false → short e = true → fl i e = e → Sh i e (gr i e).ev
  | ⟨.inl b⟩, e, _, hn, _, _ => by
    cases b
    · simp [Idn.nil] at hn
    · exact ⟨rfl, fun _ => rfl, fun h => by simp [all] at h⟩
  | ⟨.inr (l, r)⟩, ⟨n, .inl ()⟩, hi, _, _, _ => by
    obtain ⟨ht, hx, hy⟩ := Idn.short_node.1 hi
    have i0 := gr_short l (.leaf 0) hx
    have i1 := gr_short r (.leaf 0) hy
    have := sh_pk (n := n) ht (fun h => i0 h rfl (fl_leaf l 0)) (fun h => i1 h rfl (fl_leaf r 0)) rfl rfl rfl (fun _ => by simp) (fun _ => by simp)
    exact ⟨this.1, fun h => by simp [all] at h, fun _ => this.2⟩
  | ⟨.inr (l, r)⟩, ⟨n, .inr (a, b)⟩, hi, _, hs, hf => by
    obtain ⟨ht, hx, hy⟩ := Idn.short_node.1 hi
    obtain ⟨hm, _, s0, s1⟩ := short_kids hs
    obtain ⟨⟨f0, f1⟩, f2, f3⟩ := fl_kids ht hs hf
    have i0 := gr_short l a hx
    have i1 := gr_short r b hy
    have := sh_pk (n := n) ht (fun h => i0 h s0 f0) (fun h => i1 h s1 f1) hm s0 s1 f2 f3
    exact ⟨this.1, fun h => by simp [all] at h, fun _ => this.2⟩
/-- What is known of what grew. -/
structure Gg (i : ID) (e : EV) (k : Nat) (left C : Int) (g : Gw) : Prop where
  up : leq k e g.ev = true
  not : leq k g.ev e = false
  same : ∀ m, Idn.has i k m = false → val k g.ev m = val k e m
  hgt : high g.ev = max (high e) g.count
  top : g.count ≤ high e + 1
  pos : 0 ≤ g.count
  cost : 0 ≤ g.cost ∧ g.cost ≤ C
  fits : g.count ≤ left → rg g.ev k left = true
theorem gg_A {l r : ID} {n : Int} {a b e : EV} {k : Nat} {left C : Int} {g : Gw} (hg : Gg l a k (left - n) C g) (e0 : h0 e = lift a n) (e1 : h1 e = lift b n) (eh : high e = n + max (high a) (high b)) (hn : 0 ≤ n ∧ n ≤ left) (rb : rg b k (left - n) = true) : Gg (.node l r) e (k + 1) left (C + 1) (gA n b g) := by
  have := hg.hgt
  have := hg.top
  have := hg.cost
  have := hg.pos
  refine ⟨?_, ?_, fun m hm => ?_, ?_, ?_, ?_, ?_, fun hc => ?_⟩
  · simp only [gA, leq, e0, e1, h0_node, h1_node, leq_lift, hg.up, leq_refl, Bool.and_self]
  · simp only [gA, leq, e0, e1, h0_node, h1_node, leq_lift, hg.not, Bool.false_and]
  · simp only [Idn.has, Nat.add_sub_cancel] at hm
    simp only [gA, val, e0, e1, h0_node, h1_node]
    cases hb : m.testBit k
    · simp only [hb, Bool.false_eq_true, if_false] at hm ⊢
      rw [val_lift, val_lift, hg.same m hm]
    · simp
  · simp only [gA, high, eh]
    omega
  · simp only [gA, eh]
    omega
  · simp only [gA]
    omega
  · simp only [gA]
    omega
  · simp only [gA] at hc ⊢
    simp only [rg, Bool.and_eq_true, decide_eq_true_eq, Nat.add_sub_cancel]
    exact ⟨hn, ⟨by omega, hg.fits (by omega)⟩, rb⟩
theorem gg_B {l r : ID} {n : Int} {a b e : EV} {k : Nat} {left C : Int} {g : Gw} (hg : Gg r b k (left - n) C g) (e0 : h0 e = lift a n) (e1 : h1 e = lift b n) (eh : high e = n + max (high a) (high b)) (hn : 0 ≤ n ∧ n ≤ left) (ra : rg a k (left - n) = true) : Gg (.node l r) e (k + 1) left (C + 1) (gB n a g) := by
  have := hg.hgt
  have := hg.top
  have := hg.cost
  have := hg.pos
  refine ⟨?_, ?_, fun m hm => ?_, ?_, ?_, ?_, ?_, fun hc => ?_⟩
  · simp only [gB, leq, e0, e1, h0_node, h1_node, leq_lift, hg.up, leq_refl, Bool.and_self]
  · simp only [gB, leq, e0, e1, h0_node, h1_node, leq_lift, hg.not, Bool.and_false]
  · simp only [Idn.has, Nat.add_sub_cancel] at hm
    simp only [gB, val, e0, e1, h0_node, h1_node]
    cases hb : m.testBit k
    · simp
    · simp only [hb, if_true] at hm ⊢
      rw [val_lift, val_lift, hg.same m hm]
  · simp only [gB, high, eh]
    omega
  · simp only [gB, eh]
    omega
  · simp only [gB]
    omega
  · simp only [gB]
    omega
  · simp only [gB] at hc ⊢
    simp only [rg, Bool.and_eq_true, decide_eq_true_eq, Nat.add_sub_cancel]
    exact ⟨hn, ⟨by omega, ra⟩, hg.fits (by omega)⟩
theorem gg_pk {l r : ID} {n : Int} {a b e : EV} {k : Nat} {left C : Int} {g h : Gw} (ht : Idn.tw l r = false) (hg : Idn.nil l = false → Gg l a k (left - n) C g) (hh : Idn.nil r = false → Gg r b k (left - n) C h) (e0 : h0 e = lift a n) (e1 : h1 e = lift b n) (eh : high e = n + max (high a) (high b)) (hn : 0 ≤ n ∧ n ≤ left)
    (ra : rg a k (left - n) = true) (rb : rg b k (left - n) = true) : Gg (.node l r) e (k + 1) left (C + 1) (pk l r n a b g h) := by
  rcases pk_cases l r n a b g h with ⟨e, k⟩ | ⟨e, k⟩
  · rw [e]
    exact gg_A (hg k) e0 e1 eh hn rb
  · have k' : Idn.nil r = false := by
      rcases k with k | k
      · exact k
      · exact Idn.nil_other ht k
    rw [e]
    exact gg_B (hh k') e0 e1 eh hn ra
theorem leaf_of_fl {e : EV} (h : EV.leaf (high e) = e) : e = .leaf e.n := by
  rcases e with ⟨n, ⟨⟩ | ⟨_, _⟩⟩
  · rfl
  · simp at h
theorem gg_dear {i : ID} {e : EV} {k : Nat} {left C C' : Int} {g : Gw} (h : Gg i e k left C g) (hC : C + 1000 ≤ C') : Gg i e k left C' (dear g) :=
  ⟨h.up, h.not, h.same, h.hgt, h.top, h.pos, ⟨by have := h.cost; simp only [dear]; omega, by have := h.cost; simp only [dear]; omega⟩, h.fits⟩
theorem gg_more {i : ID} {e : EV} {k : Nat} {left C C' : Int} {g : Gw} (h : Gg i e k left C g) (hC : C ≤ C') : Gg i e k left C' g :=
  ⟨h.up, h.not, h.same, h.hgt, h.top, h.pos, ⟨h.cost.1, by have := h.cost; omega⟩, h.fits⟩
theorem gr_good : ∀ (i : ID) (e : EV) (k : Nat) (left : Int), Idn.short i = true → Idn.nil i = false → Idn.depth i ≤ k → short e = true → rg e k left = true → fl i e = e → Gg i e k left (1001 * k) (gr i e)
  | ⟨.inl b⟩, e, k, left, _, hn, _, _, hr, hf => by
    cases b
    · simp [Idn.nil] at hn
    · obtain ⟨n, rfl⟩ : ∃ n, e = .leaf n := ⟨_, leaf_of_fl hf⟩
      have hn := rg_n hr
      simp only at hn
      refine ⟨?_, ?_, fun m hm => by simp [Idn.has] at hm, ?_, ?_, ?_, ?_, fun hc => ?_⟩
      · simp only [gr, leq_leaf, decide_eq_true_eq]
        omega
      · simp only [gr, leq_leaf, decide_eq_false_iff_not]
        omega
      · simp only [gr, high]
        omega
      · simp only [gr, high]
        omega
      · simp only [gr]
        omega
      · simp only [gr]
        omega
      · simp only [gr, rg, decide_eq_true_eq] at hc ⊢
        omega
  | ⟨.inr (l, r)⟩, ⟨n, .inl ()⟩, k, left, hi, _, hd, _, hr, _ => by
    obtain ⟨ht, hx, hy⟩ := Idn.short_node.1 hi
    obtain ⟨j, rfl⟩ : ∃ j, k = j + 1 := ⟨k - 1, by simp only [Idn.depth] at hd; omega⟩
    simp only [Idn.depth] at hd
    have hn := rg_n hr
    simp only at hn
    have r0 : rg (.leaf 0) j (left - n) = true := by simp only [rg, decide_eq_true_eq]; omega
    have i0 := gr_good l (.leaf 0) j (left - n) hx
    have i1 := gr_good r (.leaf 0) j (left - n) hy
    refine gg_dear (gg_pk ht (fun h => i0 h (by omega) rfl r0 (fl_leaf l 0)) (fun h => i1 h (by omega) rfl r0 (fl_leaf r 0)) (by simp [h0, lift]) (by simp [h1, lift]) (by simp [high]) hn r0 r0) (by omega)
  | ⟨.inr (l, r)⟩, ⟨n, .inr (a, b)⟩, k, left, hi, _, hd, hs, hr, hf => by
    obtain ⟨ht, hx, hy⟩ := Idn.short_node.1 hi
    obtain ⟨hm, _, s0, s1⟩ := short_kids hs
    obtain ⟨⟨f0, f1⟩, _, _⟩ := fl_kids ht hs hf
    obtain ⟨hn, _, r0, r1⟩ := rg_kids hr
    obtain ⟨j, rfl⟩ : ∃ j, k = j + 1 := ⟨k - 1, by simp only [Idn.depth] at hd; omega⟩
    simp only [Idn.depth] at hd
    rw [Nat.add_sub_cancel] at r0 r1
    have i0 := gr_good l a j (left - n) hx
    have i1 := gr_good r b j (left - n) hy
    exact gg_more (gg_pk ht (fun h => i0 h (by omega) s0 r0 f0) (fun h => i1 h (by omega) s1 r1 f1) rfl rfl rfl hn r0 r1) (by omega)

/-! What an Event comes to. -/
def evX (i : ID) (e : EV) : EV := if eqb (fl i e) e then if 1073741824 < (gr i e).count then .leaf 0 else (gr i e).ev else fl i e
def evE (i : ID) (e : EV) : Int := if eqb (fl i e) e then if 1073741824 < (gr i e).count then 41 else 0 else 0
structure Ev (i : ID) (e x : EV) : Prop where
  ok : ok x = true
  up : leq 16 e x = true
  not : leq 16 x e = false
  same : ∀ m, Idn.has i 16 m = false → val 16 x m = val 16 e m
theorem ev_good (i : ID) (e : EV) (hi : Idn.ok i = true) (hn : Idn.nil i = false) (he : ok e = true) (h : evE i e = 0) : Ev i e (evX i e) := by
  obtain ⟨d, s⟩ := Idn.ok_parts hi
  obtain ⟨r, t⟩ := ok_parts he
  have de := rg_depth r
  unfold evE at h
  unfold evX
  cases hq : eqb (fl i e) e
  · simp only [Bool.false_eq_true, if_false]
    have u := fl_leq i e 16 de t
    have rf := fl_rg i e 16 _ r
    have tf := fl_short i e t
    refine ⟨by unfold ok; rw [rf, tf]; rfl, u, ?_, fun m hm => fl_val i e 16 m de t hm⟩
    cases hl : leq 16 (fl i e) e
    · rfl
    · have := leq_anti (rg_depth rf) de tf t hl u
      rw [this, eqb_refl] at hq
      cases hq
  · have hf := eq_of_eqb hq
    have g := gr_good i e 16 _ s hn d t r hf
    have sh := gr_short i e s hn t hf
    by_cases hc : 1073741824 < (gr i e).count
    · simp [hq, hc] at h
    · simp only [if_true, hc, if_false]
      refine ⟨?_, g.up, g.not, g.same⟩
      unfold ok
      rw [g.fits (by omega), sh.1]
      rfl
/-- Of two apart neither has seen the other's. -/
theorem apart_leq {i j : ID} {e x y : EV} (hx : Ev i e x) (hy : Ev j e y) (ha : ∀ m, (Idn.has i 16 m && Idn.has j 16 m) = false) : leq 16 x y = false := by
  cases h : leq 16 x y
  · rfl
  · have : leq 16 x e = true := leq_of_val 16 x e fun m => by
      cases hm : Idn.has i 16 m
      · rw [hx.same m hm]
        omega
      · have := ha m
        rw [hm, Bool.true_and] at this
        rw [← hy.same m this]
        exact val_leq m h
    rw [hx.not] at this
    cases this
end Go.Proofs.Ytmcajjdijjcpkaa
/- The small functions of package stamp: leaf, isLeaf, isNothing, isAll, node, atWork, what is cheaper, Check, Leq; Few and Check of the document's answer. -/
namespace Go.Proofs.Ytmcajjdijjcpkaa
open Go.RowKit
open Idn (ID)

theorem one_r (w : World) (t : TypeId) (cs : Array Value) : ∀ w0, w0 = w.alloc (.cells cs t) → Rw w0 w.heap.size t cs ∧ Below w.heap.size w w0 := by
  rintro _ rfl
  exact ⟨rw_new w t cs, (Below.refl _ _).alloc (Nat.le_refl _) _⟩
theorem two_r (w : World) (t : TypeId) (cs : Array Value) (t' : TypeId) (cs' : Array Value) : ∀ w0, w0 = (w.alloc (.cells cs t)).alloc (.cells cs' t') → Rw w0 w.heap.size t cs ∧ Rw w0 (w.heap.size + 1) t' cs' ∧ Below w.heap.size w w0 := by
  rintro _ rfl
  exact ⟨(rw_new w t cs).alloc _, rw_next _ (by simp) t' cs', ((Below.refl _ _).alloc (Nat.le_refl _) _).alloc (by simp) _⟩
theorem three_r (w : World) (t : TypeId) (cs : Array Value) (t' : TypeId) (cs' : Array Value) (t'' : TypeId) (cs'' : Array Value) : ∀ w0, w0 = ((w.alloc (.cells cs t)).alloc (.cells cs' t')).alloc (.cells cs'' t'') → Rw w0 w.heap.size t cs ∧ Rw w0 (w.heap.size + 1) t' cs' ∧ Rw w0 (w.heap.size + 1 + 1) t'' cs'' ∧ Below w.heap.size w w0 := by
  rintro _ rfl
  exact ⟨((rw_new w t cs).alloc _).alloc _, (rw_next _ (by simp) t' cs').alloc _, rw_next _ (by simp) t'' cs'', (((Below.refl _ _).alloc (Nat.le_refl _) _).alloc (by simp) _).alloc (by simp; omega) _⟩

set_option maxRecDepth 100000 in
theorem sIsLeaf_any (n : Int) (p : Option Addr) (l c : Nat) (w : World) : Calls Try.prog 77 #[TV n p l c] w (Tells (.bool (decide (l = 0))) w) := by
  obtain ⟨h1, hbel⟩ := one_box w n p l c _ rfl
  have c1 := h1.cell1
  go_enter Try.func77, Try.ntmps77
  go_wp2
  go_ret
  refine ⟨?_, hbel⟩
  have : ((l : Int) == 0) = decide (l = 0) := by
    rw [Bool.eq_iff_iff]; simp
  simp [this]
theorem sIsLeaf_is {w : World} {x : EV} {n : Int} {p : Option Addr} {l c : Nat} (h : Is w x (TV n p l c)) (w1 : World) : Calls Try.prog 77 #[TV n p l c] w1 (Tells (.bool (lf x)) w1) := by
  have := sIsLeaf_any n p l c w1
  rwa [show decide (l = 0) = lf x by rw [(is_parts h).2, len_lf]] at this
set_option maxRecDepth 100000 in
theorem sIsNothing_any (n : Int) (p : Option Addr) (l c : Nat) (w : World) : Calls Try.prog 42 #[TV n p l c] w (Tells (.bool (decide (l = 0) && n == 0)) w) := by
  obtain ⟨h1, hbel⟩ := one_box w n p l c _ rfl
  have hC := sIsLeaf_any n p l c
  generalize decide (l = 0) = x at hC ⊢
  go_enter Try.func42, Try.ntmps42
  go_wp2_with (refine load_t _ rfl rfl _ _ rfl h1.tat ?_)
  refine (hC _).mono ?_
  rintro e w1 ⟨rfl, hb1⟩
  have h2 := h1.later hb1
  have c0 := h2.cell0
  replace hbel := below_on hbel hb1
  cases x
  · go_wp2
    go_ret
    exact ⟨by simp, hbel⟩
  · go_wp2
    go_ret
    exact ⟨by simp, hbel⟩
set_option maxRecDepth 100000 in
theorem sIsAll_any (n : Int) (p : Option Addr) (l c : Nat) (w : World) : Calls Try.prog 99 #[TV n p l c] w (Tells (.bool (decide (l = 0) && n == 1)) w) := by
  obtain ⟨h1, hbel⟩ := one_box w n p l c _ rfl
  have hC := sIsLeaf_any n p l c
  generalize decide (l = 0) = x at hC ⊢
  go_enter Try.func99, Try.ntmps99
  go_wp2_with (refine load_t _ rfl rfl _ _ rfl h1.tat ?_)
  refine (hC _).mono ?_
  rintro e w1 ⟨rfl, hb1⟩
  have h2 := h1.later hb1
  have c0 := h2.cell0
  replace hbel := below_on hbel hb1
  cases x
  · go_wp2
    go_ret
    exact ⟨by simp, hbel⟩
  · go_wp2
    go_ret
    exact ⟨by simp, hbel⟩
theorem nil_is {w : World} {x : ID} {n : Int} {p : Option Addr} {l c : Nat} (h : Idn.Is w x (TV n p l c)) : (decide (l = 0) && n == 0) = Idn.nil x := by
  obtain ⟨rfl, rfl⟩ := Idn.is_parts h
  exact Idn.nil_eq x
theorem all_is {w : World} {x : ID} {n : Int} {p : Option Addr} {l c : Nat} (h : Idn.Is w x (TV n p l c)) : (decide (l = 0) && n == 1) = all x := by
  obtain ⟨rfl, rfl⟩ := Idn.is_parts h
  rcases x with ⟨b | ⟨_, _⟩⟩
  · cases b <;> rfl
  · rfl
theorem sIsNothing_is {w : World} {x : ID} {n : Int} {p : Option Addr} {l c : Nat} (h : Idn.Is w x (TV n p l c)) (w1 : World) : Calls Try.prog 42 #[TV n p l c] w1 (Tells (.bool (Idn.nil x)) w1) := by
  rw [← nil_is h]
  exact sIsNothing_any n p l c w1
theorem sIsAll_is {w : World} {x : ID} {n : Int} {p : Option Addr} {l c : Nat} (h : Idn.Is w x (TV n p l c)) (w1 : World) : Calls Try.prog 99 #[TV n p l c] w1 (Tells (.bool (all x)) w1) := by
  rw [← all_is h]
  exact sIsAll_any n p l c w1
set_option maxRecDepth 100000 in
theorem sLeaf_any (n : Int) (w : World) : Calls Try.prog 52 #[.int .i64 n] w (Tells (TV n none 0 0) w) := by
  obtain ⟨h1, hbel⟩ := one_box w 0 none 0 0 _ rfl
  go_enter Try.func52, Try.ntmps52
  go_wp2_with (refine store_t rfl _ _ rfl _ n none 0 0 rfl rfl h1 ?_)
  exact bodyPost_ret (results_t rfl rfl (h1.row n none 0 0)) rfl ⟨rfl, below_setRow hbel (Nat.le_refl _) _⟩
set_option maxHeartbeats 1000000 in
set_option maxRecDepth 100000 in
theorem sNode_new (m : Int) (n : Int) (p : Option Addr) (l c : Nat) (n' : Int) (p' : Option Addr) (l' c' : Nat) (w : World) :
    Calls Try.prog 104 #[.int .i64 m, TV n p l c, TV n' p' l' c'] w fun e w' => ∃ g, w.heap.size ≤ g ∧ e = .returned (TV m (some ⟨g, 0, none⟩) 2 2) ∧ Tat w' g 0 n p l c ∧ Tat w' g 2 n' p' l' c' ∧ Below w.heap.size w w' := by
  obtain ⟨b1, b2, b3, hbel⟩ := three_box w n p l c n' p' l' c' 0 none 0 0 _ rfl
  generalize hw0 : ((w.alloc (.cells #[.int .i64 n, .slice p l c] 24)).alloc (.cells #[.int .i64 n', .slice p' l' c'] 24)).alloc (.cells #[.int .i64 0, .slice none 0 0] 24) = w0 at b1 b2 b3 hbel
  obtain ⟨t1, t2, hb1⟩ := row_tats w0 n p l c n' p' l' c' _ rfl
  have b4 := b3.later hb1
  have hbel2 := below_on hbel hb1
  have R := below_setRow hbel2 (g := w.heap.size + 1 + 1) (by omega) #[.int .i64 m, .slice (some ⟨w0.heap.size, 0, none⟩) 2 2]
  have hg : w.heap.size ≤ w0.heap.size := hbel.size
  have hI := t1.box_lo b4 t2 #[.int .i64 m, .slice (some ⟨w0.heap.size, 0, none⟩) 2 2]
  have hJ := t2.box_hi b4 #[.int .i64 m, .slice (some ⟨w0.heap.size, 0, none⟩) 2 2]
  clear t1 t2 hbel hbel2 hb1
  go_enter Try.func104, Try.ntmps104
  go_wp2_with (first | rw [hw0] | refine load_t _ rfl rfl _ _ rfl b1.tat ?_ | refine load_t _ rfl rfl _ _ rfl b2.tat ?_ | refine store_t rfl _ _ rfl _ m (some ⟨w0.heap.size, 0, none⟩) 2 2 rfl rfl b4 ?_)
  exact bodyPost_ret (results_t rfl rfl (b4.row _ _ _ _)) rfl ⟨_, hg, rfl, hI, hJ, R⟩
theorem sNode_any (m : Int) (x y : EV) (n : Int) (p : Option Addr) (l c : Nat) (n' : Int) (p' : Option Addr) (l' c' : Nat) (w : World) (hx : Is w x (TV n p l c)) (hy : Is w y (TV n' p' l' c')) :
    Calls Try.prog 104 #[.int .i64 m, TV n p l c, TV n' p' l' c'] w (Gives (.node m x y) w) :=
  (sNode_new m n p l c n' p' l' c' w).mono fun _ _ ⟨g, _, he, t0, t1, hb⟩ => ⟨_, _, _, _, he, ⟨g, 0, 2, _, _, _, _, _, _, _, _, rfl, t0, t1, hx.later hb, hy.later hb⟩, hb⟩
set_option maxRecDepth 100000 in
theorem atWork_any (n : Int) (p : Option Addr) (l c : Nat) (n' : Int) (p' : Option Addr) (l' c' : Nat) (w : World) : Calls Try.prog 43 #[SV n p l c n' p' l' c'] w (Tells (WV n p l c n' p' l' c') w) := by
  obtain ⟨h1, h2, hbel⟩ := two_r w 26 #[.int .i64 n, .slice p l c, .int .i64 n', .slice p' l' c'] 60 #[.int .i64 0, .slice none 0 0, .int .i64 0, .slice none 0 0, .nilFunc] _ rfl
  have R := below_setRow hbel (g := w.heap.size + 1) (by omega) #[.int .i64 n, .slice p l c, .int .i64 n', .slice p' l' c', CH]
  go_enter Try.func43, Try.ntmps43
  go_wp2_with (first | refine load_s _ rfl rfl _ rfl h1 ?_ | refine store_w rfl _ _ rfl _ n p l c n' p' l' c' rfl rfl h2 rfl ?_)
  exact bodyPost_ret (results_w rfl rfl (h2.row _)) rfl ⟨rfl, R⟩
set_option maxRecDepth 100000 in
theorem cheaper_any (n : Int) (p : Option Addr) (l c : Nat) (k m : Int) (n' : Int) (p' : Option Addr) (l' c' : Nat) (k' m' : Int) (w : World) : Calls Try.prog 78 #[GV n p l c k m, GV n' p' l' c' k' m'] w (Tells (.bool (decide (k < k'))) w) := by
  obtain ⟨h1, h2, hbel⟩ := two_r w 78 #[.int .i64 n, .slice p l c, .int .i64 k, .int .i64 m] 78 #[.int .i64 n', .slice p' l' c', .int .i64 k', .int .i64 m'] _ rfl
  have c1 := h1.cell 2
  have c2 := h2.cell 2
  simp at c1 c2
  go_enter Try.func78, Try.ntmps78
  go_wp2
  go_ret
  exact ⟨rfl, hbel⟩
set_option maxHeartbeats 1000000 in
set_option maxRecDepth 100000 in
theorem sCheck_tr (t u : Tr) (n : Int) (p : Option Addr) (l c : Nat) (n' : Int) (p' : Option Addr) (l' c' : Nat) (w : World) (ht : Lies w t (TV n p l c)) (hu : Lies w u (TV n' p' l' c')) :
    Calls Try.prog 20 #[SV n p l c n' p' l' c'] w (Tells (.bool (Idn.okT t && okT u)) w) := by
  obtain ⟨h1, hbel⟩ := one_r w 26 #[.int .i64 n, .slice p l c, .int .i64 n', .slice p' l' c'] _ rfl
  have r0 := fun w1 (hb : Below w.heap.size w w1) => Idn.check_tr t n p l c w1 (ht.later hb)
  have r1 := fun w1 (hb : Below w.heap.size w w1) => check_tr u n' p' l' c' w1 (hu.later hb)
  generalize Idn.okT t = b at r0 ⊢
  generalize okT u = b1 at r1 ⊢
  clear ht hu
  go_enter Try.func20, Try.ntmps20
  go_wp2_with (refine load_t _ rfl rfl _ _ rfl (Sx.tat0 h1) ?_)
  refine (r0 _ hbel).mono ?_
  rintro e w1 ⟨rfl, hb1⟩
  replace h1 := h1.later hb1
  replace hbel := below_on hbel hb1
  cases b
  · go_wp2
    go_ret
    exact ⟨rfl, hbel⟩
  · go_wp2_with (refine load_t _ rfl rfl _ _ rfl (Sx.tat1 h1) ?_)
    refine (r1 _ hbel).mono ?_
    rintro e w2 ⟨rfl, hb2⟩
    go_wp2
    go_ret
    exact ⟨rfl, below_on hbel hb2⟩
set_option maxHeartbeats 1000000 in
set_option maxRecDepth 100000 in
theorem sLeq_tr (t u t' u' : Tr) (n : Int) (p : Option Addr) (l c : Nat) (n' : Int) (p' : Option Addr) (l' c' : Nat) (m : Int) (q : Option Addr) (k d : Nat) (m' : Int) (q' : Option Addr) (k' d' : Nat) (w : World) (ht : Lies w t (TV n p l c)) (hu : Lies w u (TV n' p' l' c')) (ht' : Lies w t' (TV m q k d)) (hu' : Lies w u' (TV m' q' k' d')) :
    Calls Try.prog 13 #[SV n p l c n' p' l' c', SV m q k d m' q' k' d'] w (Tells (.bool ((Idn.okT t && okT u) && ((Idn.okT t' && okT u') && lqT u u'))) w) := by
  obtain ⟨h1, h2, hbel⟩ := two_r w 26 #[.int .i64 n, .slice p l c, .int .i64 n', .slice p' l' c'] 26 #[.int .i64 m, .slice q k d, .int .i64 m', .slice q' k' d'] _ rfl
  have r0 := fun w1 (hb : Below w.heap.size w w1) => sCheck_tr t u n p l c n' p' l' c' w1 (ht.later hb) (hu.later hb)
  have r1 := fun w1 (hb : Below w.heap.size w w1) => sCheck_tr t' u' m q k d m' q' k' d' w1 (ht'.later hb) (hu'.later hb)
  have r2 := fun w1 (hb : Below w.heap.size w w1) => leq_tr u u' n' p' l' c' m' q' k' d' w1 (hu.later hb) (hu'.later hb)
  generalize (Idn.okT t && okT u) = b at r0 ⊢
  generalize (Idn.okT t' && okT u') = b1 at r1 ⊢
  generalize lqT u u' = b2 at r2 ⊢
  clear ht hu ht' hu'
  go_enter Try.func13, Try.ntmps13
  go_wp2_with (refine load_s _ rfl rfl _ rfl h1 ?_)
  refine (r0 _ hbel).mono ?_
  rintro e w1 ⟨rfl, hb1⟩
  replace h1 := h1.later hb1
  replace h2 := h2.later hb1
  replace hbel := below_on hbel hb1
  clear hb1
  cases b
  · go_wp2
    go_ret
    exact ⟨rfl, hbel⟩
  · go_wp2_with (refine load_s _ rfl rfl _ rfl h2 ?_)
    refine (r1 _ hbel).mono ?_
    rintro e w2 ⟨rfl, hb1⟩
    replace h1 := h1.later hb1
    replace h2 := h2.later hb1
    replace hbel := below_on hbel hb1
    clear hb1
    cases b1
    · go_wp2
      go_ret
      exact ⟨rfl, hbel⟩
    · go_wp2_with (first | refine load_t _ rfl rfl _ _ rfl (Sx.tat1 h1) ?_ | refine load_t _ rfl rfl _ _ rfl (Sx.tat1 h2) ?_)
      refine (r2 _ hbel).mono ?_
      rintro e w3 ⟨rfl, hb1⟩
      go_wp2
      go_ret
      exact ⟨rfl, below_on hbel hb1⟩
end Go.Proofs.Ytmcajjdijjcpkaa
