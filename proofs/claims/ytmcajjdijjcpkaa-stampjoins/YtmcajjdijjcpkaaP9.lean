import Derived.Test.YtmcajjdijjcpkaaP8
import Derived.Test.YtmcajjdijjcpkaaP3
/- What holds of binary trees: halves, sums, what they own. No program in it. -/
namespace Go.Proofs.Ytmcajjdijjcpkaa.Idn

theorem unite_nil (x : ID) : unite x (.leaf false) = some (norm x) := by
  rcases x with ⟨b | ⟨_, _⟩⟩
  · cases b <;> rfl
  · rfl
theorem unite_comm : ∀ x y : ID, unite x y = unite y x
  | ⟨.inl false⟩, y => by
    rw [unite_nil]
    rcases y with ⟨b | ⟨_, _⟩⟩
    · cases b <;> rfl
    · rfl
  | ⟨.inl true⟩, ⟨.inl false⟩ => rfl
  | ⟨.inl true⟩, ⟨.inl true⟩ => rfl
  | ⟨.inl true⟩, ⟨.inr (_, _)⟩ => rfl
  | ⟨.inr (_, _)⟩, ⟨.inl false⟩ => rfl
  | ⟨.inr (_, _)⟩, ⟨.inl true⟩ => rfl
  | ⟨.inr (a, b)⟩, ⟨.inr (c, d)⟩ => by simp only [unite, unite_comm a c, unite_comm b d]
theorem nil_iff {x : ID} : nil x = true ↔ x = .leaf false := by
  rcases x with ⟨b | ⟨_, _⟩⟩
  · cases b <;> simp [nil]
  · simp [nil]
theorem mk_right {x : ID} (h : nil x = false) : mk x (.leaf false) = .node x (.leaf false) := by
  rcases x with ⟨b | ⟨_, _⟩⟩
  · cases b
    · simp [nil] at h
    · rfl
  · rfl
theorem mk_left {x : ID} (h : nil x = false) : mk (.leaf false) x = .node (.leaf false) x := by
  rcases x with ⟨b | ⟨_, _⟩⟩
  · cases b
    · simp [nil] at h
    · rfl
  · rfl
theorem short_node {x y : ID} : short (.node x y) = true ↔ tw x y = false ∧ short x = true ∧ short y = true := by
  simp [short, and_assoc]
theorem mk_short {x y : ID} (h : tw x y = false) : mk x y = .node x y := by simp [mk, h]

theorem halve_eq1 {x y : ID} (h : nil x = true) : halve (.node x y) = (mk (.leaf false) (halve y).1, mk (.leaf false) (halve y).2) := by rw [halve, if_pos h]
theorem halve_eq2 {x y : ID} (h : nil x = false) (h' : nil y = true) : halve (.node x y) = (mk (halve x).1 (.leaf false), mk (halve x).2 (.leaf false)) := by
  rw [halve, if_neg (by rw [h]; decide), if_pos h']
theorem halve_eq3 {x y : ID} (h : nil x = false) (h' : nil y = false) : halve (.node x y) = (mk (norm x) (.leaf false), mk (.leaf false) (norm y)) := by
  rw [halve, if_neg (by rw [h]; decide), if_neg (by rw [h']; decide)]
theorem nil_other {x y : ID} (ht : tw x y = false) (h0 : nil x = true) : nil y = false := by
  cases h1 : nil y
  · rfl
  · rw [nil_iff] at h0 h1
    subst h0 h1
    simp [tw] at ht

theorem halve_nil : ∀ x : ID, short x = true → nil x = false → nil (halve x).1 = false ∧ nil (halve x).2 = false
  | ⟨.inl _⟩, _, _ => ⟨rfl, rfl⟩
  | ⟨.inr (x, y)⟩, h, _ => by
    obtain ⟨ht, hx, hy⟩ := short_node.1 h
    cases h0 : nil x
    · cases h1 : nil y
      · rw [halve_eq3 h0 h1, norm_short x hx, norm_short y hy, mk_right h0, mk_left h1]
        exact ⟨rfl, rfl⟩
      · have ih := halve_nil x hx h0
        rw [halve_eq2 h0 h1, mk_right ih.1, mk_right ih.2]
        exact ⟨rfl, rfl⟩
    · have ih := halve_nil y hy (nil_other ht h0)
      rw [halve_eq1 h0, mk_left ih.1, mk_left ih.2]
      exact ⟨rfl, rfl⟩
/-- The sum of the halves. -/
theorem halve_sum : ∀ x : ID, short x = true → nil x = false → unite (halve x).1 (halve x).2 = some x
  | ⟨.inl false⟩, _, h => by simp [nil] at h
  | ⟨.inl true⟩, _, _ => rfl
  | ⟨.inr (x, y)⟩, h, _ => by
    obtain ⟨ht, hx, hy⟩ := short_node.1 h
    have nx := norm_short x hx
    have ny := norm_short y hy
    cases h0 : nil x
    · cases h1 : nil y
      · rw [halve_eq3 h0 h1, nx, ny, mk_right h0, mk_left h1]
        simp only [unite, unite_nil, Option.bind_some, Option.map_some, nx, ny, mk_short ht]
      · have ih := halve_sum x hx h0
        have hn := halve_nil x hx h0
        rw [halve_eq2 h0 h1, mk_right hn.1, mk_right hn.2]
        rw [nil_iff] at h1
        subst h1
        simp only [unite, ih, Option.bind_some, Option.map_some, norm, mk_short ht]
    · have h1 := nil_other ht h0
      have ih := halve_sum y hy h1
      have hn := halve_nil y hy h1
      rw [halve_eq1 h0, mk_left hn.1, mk_left hn.2]
      rw [nil_iff] at h0
      subst h0
      simp only [unite, ih, Option.bind_some, Option.map_some, norm, mk_short ht]

/-! What is owned. -/
theorem has_mk (x y : ID) (k m : Nat) : has (mk x y) k m = has (.node x y) k m := by
  unfold mk
  cases h : tw x y
  · rfl
  · rcases x with ⟨a | ⟨_, _⟩⟩
    · rcases y with ⟨b | ⟨_, _⟩⟩
      · simp only [tw, beq_iff_eq] at h
        subst h
        simp [has]
      · simp [tw] at h
    · simp [tw] at h
theorem has_norm : ∀ (x : ID) (k m : Nat), has (norm x) k m = has x k m
  | ⟨.inl _⟩, _, _ => rfl
  | ⟨.inr (x, y)⟩, k, m => by simp only [norm, has_mk, has, has_norm x, has_norm y]
theorem has_unite : ∀ (a b z : ID) (k m : Nat), unite a b = some z → has z k m = (has a k m || has b k m) ∧ (has a k m && has b k m) = false
  | ⟨.inl false⟩, b, z, k, m, h => by
    simp only [unite, Option.some.injEq] at h
    subst h
    simp [has_norm, has]
  | ⟨.inl true⟩, ⟨.inl false⟩, z, k, m, h => by
    simp only [unite, Option.some.injEq] at h
    subst h
    simp [has]
  | ⟨.inl true⟩, ⟨.inl true⟩, _, _, _, h => by simp [unite] at h
  | ⟨.inl true⟩, ⟨.inr (_, _)⟩, _, _, _, h => by simp [unite] at h
  | ⟨.inr (x, y)⟩, ⟨.inl false⟩, z, k, m, h => by
    simp only [unite, Option.some.injEq] at h
    subst h
    rw [has_norm]
    simp [has]
  | ⟨.inr (_, _)⟩, ⟨.inl true⟩, _, _, _, h => by simp [unite] at h
  | ⟨.inr (x, y)⟩, ⟨.inr (x', y')⟩, z, k, m, h => by
    simp only [unite, Option.bind_eq_some_iff, Option.map_eq_some_iff] at h
    obtain ⟨z0, h0, z1, h1, rfl⟩ := h
    have i0 := has_unite x x' z0 (k - 1) m h0
    have i1 := has_unite y y' z1 (k - 1) m h1
    rw [has_mk]
    simp only [has]
    cases m.testBit (k - 1)
    · simpa using i0
    · simpa using i1
theorem own_mk (x y : ID) (r : Nat) : own (mk x y) (2 * r) = own x r + own y r := by
  unfold mk
  cases h : tw x y
  · simp [own]
  · rcases x with ⟨a | ⟨_, _⟩⟩
    · rcases y with ⟨b | ⟨_, _⟩⟩
      · simp only [tw, beq_iff_eq] at h
        subst h
        cases a
        · rfl
        · simp [own]; omega
      · simp [tw] at h
    · simp [tw] at h
theorem own_node (x y : ID) (r : Nat) : own (.node x y) (2 * r) = own x r + own y r := by simp [own]
theorem own_norm : ∀ (x : ID) (k : Nat), depth x ≤ k → own (norm x) (2 ^ k) = own x (2 ^ k)
  | ⟨.inl _⟩, _, _ => rfl
  | ⟨.inr (x, y)⟩, k, h => by
    obtain ⟨j, rfl⟩ : ∃ j, k = j + 1 := ⟨k - 1, by simp only [depth] at h; omega⟩
    simp only [depth] at h
    rw [Nat.pow_succ, Nat.mul_comm, own_node, norm, own_mk, own_norm x j (by omega), own_norm y j (by omega)]
theorem own_leaf_false (r : Nat) : own (.leaf false) r = 0 := rfl
theorem own_unite : ∀ (a b z : ID) (k : Nat), depth a ≤ k → depth b ≤ k → unite a b = some z → own z (2 ^ k) = own a (2 ^ k) + own b (2 ^ k)
  | ⟨.inl false⟩, b, z, k, ha, hb, h => by
    simp only [unite, Option.some.injEq] at h
    subst h
    rw [own_norm b k hb, own_leaf_false, Nat.zero_add]
  | ⟨.inl true⟩, ⟨.inl false⟩, z, k, ha, hb, h => by
    simp only [unite, Option.some.injEq] at h
    subst h
    rw [own_leaf_false, Nat.add_zero]
  | ⟨.inl true⟩, ⟨.inl true⟩, _, _, _, _, h => by simp [unite] at h
  | ⟨.inl true⟩, ⟨.inr (_, _)⟩, _, _, _, _, h => by simp [unite] at h
  | ⟨.inr (x, y)⟩, ⟨.inl false⟩, z, k, ha, hb, h => by
    simp only [unite, Option.some.injEq] at h
    subst h
    rw [own_norm _ k ha, own_leaf_false, Nat.add_zero]
  | ⟨.inr (_, _)⟩, ⟨.inl true⟩, _, _, _, _, h => by simp [unite] at h
  | ⟨.inr (x, y)⟩, ⟨.inr (x', y')⟩, z, k, ha, hb, h => by
    simp only [unite, Option.bind_eq_some_iff, Option.map_eq_some_iff] at h
    obtain ⟨z0, h0, z1, h1, rfl⟩ := h
    obtain ⟨j, rfl⟩ : ∃ j, k = j + 1 := ⟨k - 1, by simp only [depth] at ha; omega⟩
    simp only [depth] at ha hb
    have i0 := own_unite x x' z0 j (by omega) (by omega) h0
    have i1 := own_unite y y' z1 j (by omega) (by omega) h1
    rw [Nat.pow_succ, Nat.mul_comm, own_mk, own_node, own_node, i0, i1]
    omega
theorem own_pos : ∀ (x : ID) (k : Nat), short x = true → nil x = false → depth x ≤ k → 0 < own x (2 ^ k)
  | ⟨.inl false⟩, _, _, h, _ => by simp [nil] at h
  | ⟨.inl true⟩, k, _, _, _ => by simp [own, Nat.two_pow_pos]
  | ⟨.inr (x, y)⟩, k, hs, _, hd => by
    obtain ⟨ht, hx, hy⟩ := short_node.1 hs
    obtain ⟨j, rfl⟩ : ∃ j, k = j + 1 := ⟨k - 1, by simp only [depth] at hd; omega⟩
    simp only [depth] at hd
    rw [Nat.pow_succ, Nat.mul_comm, own_node]
    cases h0 : nil x
    · have := own_pos x j hx h0 (by omega)
      omega
    · cases h1 : nil y
      · have := own_pos y j hy h1 (by omega)
        omega
      · rw [nil_iff] at h0 h1
        subst h0 h1
        simp [tw] at ht

/-! Sums. -/
theorem short_unite : ∀ (a b z : ID), short a = true → short b = true → unite a b = some z → short z = true
  | ⟨.inl false⟩, b, z, _, _, h => by
    simp only [unite, Option.some.injEq] at h
    subst h
    exact short_norm b
  | ⟨.inl true⟩, ⟨.inl false⟩, z, _, _, h => by
    simp only [unite, Option.some.injEq] at h
    subst h
    rfl
  | ⟨.inl true⟩, ⟨.inl true⟩, _, _, _, h => by simp [unite] at h
  | ⟨.inl true⟩, ⟨.inr (_, _)⟩, _, _, _, h => by simp [unite] at h
  | ⟨.inr (x, y)⟩, ⟨.inl false⟩, z, _, _, h => by
    simp only [unite, Option.some.injEq] at h
    subst h
    exact short_norm _
  | ⟨.inr (_, _)⟩, ⟨.inl true⟩, _, _, _, h => by simp [unite] at h
  | ⟨.inr (x, y)⟩, ⟨.inr (x', y')⟩, z, ha, hb, h => by
    simp only [unite, Option.bind_eq_some_iff, Option.map_eq_some_iff] at h
    obtain ⟨z0, h0, z1, h1, rfl⟩ := h
    obtain ⟨_, hx, hy⟩ := short_node.1 ha
    obtain ⟨_, hx', hy'⟩ := short_node.1 hb
    exact short_mk (short_unite x x' z0 hx hx' h0) (short_unite y y' z1 hy hy' h1)
theorem depth_unite : ∀ (a b z : ID), unite a b = some z → depth z ≤ max (depth a) (depth b)
  | ⟨.inl false⟩, b, z, h => by
    simp only [unite, Option.some.injEq] at h
    subst h
    have := depth_norm b
    omega
  | ⟨.inl true⟩, ⟨.inl false⟩, z, h => by
    simp only [unite, Option.some.injEq] at h
    subst h
    simp [depth]
  | ⟨.inl true⟩, ⟨.inl true⟩, _, h => by simp [unite] at h
  | ⟨.inl true⟩, ⟨.inr (_, _)⟩, _, h => by simp [unite] at h
  | ⟨.inr (x, y)⟩, ⟨.inl false⟩, z, h => by
    simp only [unite, Option.some.injEq] at h
    subst h
    exact Nat.le_trans (depth_norm _) (Nat.le_max_left _ _)
  | ⟨.inr (_, _)⟩, ⟨.inl true⟩, _, h => by simp [unite] at h
  | ⟨.inr (x, y)⟩, ⟨.inr (x', y')⟩, z, h => by
    simp only [unite, Option.bind_eq_some_iff, Option.map_eq_some_iff] at h
    obtain ⟨z0, h0, z1, h1, rfl⟩ := h
    have i0 := depth_unite x x' z0 h0
    have i1 := depth_unite y y' z1 h1
    have := depth_mk z0 z1
    simp only [depth]
    omega
theorem nil_unite (a b z : ID) (ha : short a = true) (hb : short b = true) (h : unite a b = some z) (hz : nil z = true) : nil a = true ∧ nil b = true := by
  have e := own_unite a b z (max (depth a) (depth b)) (by omega) (by omega) h
  rw [nil_iff] at hz
  subst hz
  rw [own_leaf_false] at e
  constructor
  · cases h0 : nil a
    · have := own_pos a (max (depth a) (depth b)) ha h0 (by omega)
      omega
    · rfl
  · cases h0 : nil b
    · have := own_pos b (max (depth a) (depth b)) hb h0 (by omega)
      omega
    · rfl
/-- They share nothing. -/
def ap (x y : ID) : Bool := (unite x y).isSome
theorem ap_node (a b c d : ID) : ap (.node a b) (.node c d) = (ap a c && ap b d) := by
  simp only [ap, unite]
  cases unite a c <;> cases unite b d <;> rfl
theorem ap_nil_left (y : ID) : ap (.leaf false) y = true := rfl
theorem ap_nil_right (x : ID) : ap x (.leaf false) = true := by rw [ap, unite_nil]; rfl
theorem ap_true_left (y : ID) : ap (.leaf true) y = nil y := by
  rcases y with ⟨b | ⟨_, _⟩⟩
  · cases b <;> rfl
  · rfl
theorem ap_true_right (x : ID) : ap x (.leaf true) = nil x := by
  rcases x with ⟨b | ⟨_, _⟩⟩
  · cases b <;> rfl
  · rfl
/-- What is apart from a sum is apart from both. -/
theorem ap_unite : ∀ (a b s c : ID), short a = true → short b = true → short c = true → unite a b = some s → ap s c = (ap a c && ap b c)
  | ⟨.inl false⟩, b, s, c, _, hb, _, h => by
    simp only [unite, Option.some.injEq] at h
    subst h
    rw [norm_short b hb, ap_nil_left, Bool.true_and]
  | ⟨.inl true⟩, ⟨.inl false⟩, s, c, _, _, _, h => by
    simp only [unite, Option.some.injEq] at h
    subst h
    rw [ap_nil_left, Bool.and_true]
  | ⟨.inl true⟩, ⟨.inl true⟩, _, _, _, _, _, h => by simp [unite] at h
  | ⟨.inl true⟩, ⟨.inr (_, _)⟩, _, _, _, _, _, h => by simp [unite] at h
  | ⟨.inr (x, y)⟩, ⟨.inl false⟩, s, c, ha, _, _, h => by
    simp only [unite, Option.some.injEq] at h
    subst h
    rw [norm_short _ ha, ap_nil_left, Bool.and_true]
  | ⟨.inr (_, _)⟩, ⟨.inl true⟩, _, _, _, _, _, h => by simp [unite] at h
  | ⟨.inr (x, y)⟩, ⟨.inr (x', y')⟩, s, c, ha, hb, hc, h => by
    have hn : nil s = false := by
      cases h0 : nil s
      · rfl
      · have := nil_unite _ _ s ha hb h h0
        simp [nil] at this
    simp only [unite, Option.bind_eq_some_iff, Option.map_eq_some_iff] at h
    obtain ⟨z0, h0, z1, h1, rfl⟩ := h
    obtain ⟨_, hx, hy⟩ := short_node.1 ha
    obtain ⟨_, hx', hy'⟩ := short_node.1 hb
    rcases c with ⟨b | ⟨c, d⟩⟩
    · cases b
      · simp only [ap_nil_right, Bool.and_self]
      · rw [ap_true_right, ap_true_right, ap_true_right, hn]
        rfl
    · obtain ⟨hct, hc0, hd0⟩ := short_node.1 hc
      have i0 := ap_unite x x' z0 c hx hx' hc0 h0
      have i1 := ap_unite y y' z1 d hy hy' hd0 h1
      rw [ap_node, ap_node]
      have e : (ap x c && ap y d && (ap x' c && ap y' d)) = (ap z0 c && ap z1 d) := by
        rw [i0, i1]
        cases ap x c <;> cases ap y d <;> cases ap x' c <;> cases ap y' d <;> rfl
      rw [e]
      cases ht : tw z0 z1
      · rw [mk_short ht, ap_node]
      · have hm : mk z0 z1 = z0 := by simp [mk, ht]
        rw [hm] at hn ⊢
        rcases z0 with ⟨b | ⟨_, _⟩⟩
        · cases b
          · simp [nil] at hn
          · rcases z1 with ⟨b' | ⟨_, _⟩⟩
            · cases b'
              · simp [tw] at ht
              · rw [ap_true_left, ap_true_left, ap_true_left]
                cases h3 : nil c
                · rfl
                · cases h4 : nil d
                  · rfl
                  · rw [nil_iff] at h3 h4
                    subst h3 h4
                    simp [tw] at hct
            · simp [tw] at ht
        · simp [tw] at ht
end Go.Proofs.Ytmcajjdijjcpkaa.Idn
/- The walk of IdtreeSplits. -/
namespace Go.Proofs.Ytmcajjdijjcpkaa.Idn
open Go.RowKit

theorem ok_parts {x : ID} (h : ok x = true) : depth x ≤ 16 ∧ short x = true := by
  unfold ok at h
  simpa using h
theorem ok_of {x : ID} (h : depth x ≤ 16) (h' : short x = true) : ok x = true := by
  unfold ok
  simp [h, h']
theorem okT_ok {w : World} {t : Tr} {v : Value} (h : Lies w t v) (hk : okT t = true) : ok (idOf t) = true := by
  unfold okT at hk
  simp only [Bool.and_eq_true] at hk
  exact ok_of (is_of_lies t 16 _ hk.1 h).2 hk.2
theorem sumX_ok {x y : ID} (hx : ok x = true) (hy : ok y = true) : sumX (toTr x) (toTr y) = uT (unite x y) := by simp [sumX, okT_to, hx, hy, idOf_to]
theorem sumE_ok {x y : ID} (hx : ok x = true) (hy : ok y = true) : sumE (toTr x) (toTr y) = uE (unite x y) := by simp [sumE, okT_to, hx, hy, idOf_to]
theorem shareT_ok {x : ID} (hx : ok x = true) : shareT (toTr x) = own x 65536 := by simp [shareT, okT_to, hx, idOf_to]
theorem ownsT_ok {x : ID} (hx : ok x = true) (m : Int) : ownsT (toTr x) m = (decide (0 ≤ m ∧ m < 65536) && has x 16 m.toNat) := by simp [ownsT, okT_to, hx, idOf_to]

end Go.Proofs.Ytmcajjdijjcpkaa.Idn
/- The function pair of package events. -/
namespace Go.Proofs.Ytmcajjdijjcpkaa
open Go.RowKit

set_option maxHeartbeats 4000000 in
set_option maxRecDepth 100000 in
theorem pair_any (x y : EV) (n : Int) (p : Option Addr) (l c : Nat) (n' : Int) (p' : Option Addr) (l' c' : Nat) (w : World) (hx : Is w x (TV n p l c)) (hy : Is w y (TV n' p' l' c')) (bx : 0 ≤ x.n ∧ x.n ≤ 1073741824) (by_ : 0 ≤ y.n ∧ y.n ≤ 1073741824) :
    Calls Try.prog 66 #[TV n p l c, TV n' p' l' c'] w (Gives (mk x y) w) := by
  obtain ⟨h1, h2, h3, hbel⟩ := three_box w n p l c n' p' l' c' 0 none 0 0 _ rfl
  have HX : Hid (n = x.n ∧ l = len x) := is_parts hx
  have HY : Hid (n' = y.n ∧ l' = len y) := is_parts hy
  have bn : 0 ≤ n ∧ n ≤ 1073741824 := by rw [HX.out.1]; exact bx
  have bn' : 0 ≤ n' ∧ n' ≤ 1073741824 := by rw [HY.out.1]; exact by_
  have hC := sameLeaf_any n p l c n' p' l' c'
  rw [show (decide (l = 0) && (decide (l' = 0) && n == n')) = tw x y by rw [HX.out.1, HX.out.2, HY.out.1, HY.out.2, tw_eq]] at hC
  obtain ⟨z, HZ⟩ : ∃ z, Hid (mk x y = z) := ⟨_, rfl⟩
  rw [HZ.out]
  replace hx := hx.later hbel
  replace hy := hy.later hbel
  go_enter Try.func66, Try.ntmps66
  go_wp2_with (first | refine load_t _ rfl rfl _ _ rfl h1.tat ?_ | refine load_t _ rfl rfl _ _ rfl h2.tat ?_)
  refine (hC _).mono ?_
  rintro e w1 ⟨rfl, hb1⟩
  replace h1 := h1.later hb1
  replace h2 := h2.later hb1
  replace h3 := h3.later hb1
  replace hx := hx.later hb1
  replace hy := hy.later hb1
  replace hbel := below_on hbel hb1
  clear hC hb1
  have g0 := h1.cell0
  have g1 := h2.cell0
  cases ht : tw x y
  · have HZ' : Hid (.node (min x.n y.n) (lift x (-min x.n y.n)) (lift y (-min x.n y.n)) = z) := by show _ = _; rw [← HZ.out, mk, ht]; rfl
    have HL : Hid ((n' < n → min x.n y.n = n') ∧ (n ≤ n' → min x.n y.n = n)) := by show _ ∧ _; rw [← HX.out.1, ← HY.out.1]; omega
    obtain ⟨m, HQ⟩ : ∃ m, Hid (min x.n y.n = m) := ⟨_, rfl⟩
    have HB : Hid ((-9223372036854775808 ≤ x.n + -m) ∧ (x.n + -m ≤ 9223372036854775807) ∧ (-9223372036854775808 ≤ y.n + -m) ∧ (y.n + -m ≤ 9223372036854775807)) := by show _ ∧ _; rw [← HQ.out]; omega
    rw [HQ.out] at HZ' HL
    clear bx by_ ht HZ HX HY
    by_cases hlt : n' < n
    · have HM : Hid (m = n') := HL.out.1 hlt
      clear HL HQ
      go_wp2_with fail
      refine (lifter_any _ _).mono ?_
      rintro e w2 ⟨b, rfl, hby, hb1⟩
      have hby : By w2 b (-m) := by rw [HM.out]; exact hby
      replace h1 := h1.later hb1
      replace h2 := h2.later hb1
      replace h3 := h3.later hb1
      replace hx := hx.later hb1
      replace hy := hy.later hb1
      replace hbel := below_on hbel hb1
      clear hb1 g0 g1
      go_wp2_with fail
      have hS : Calm.Stays (fun w' => Bx w' (w.heap.size) n p l c ∧ Bx w' (w.heap.size + 1) n' p' l' c' ∧ (∃ n p l c, Bx w' (w.heap.size + 1 + 1) n p l c) ∧ Is w' x (TV n p l c) ∧ Is w' y (TV n' p' l' c') ∧ By w' b (-m) ∧ Below w.heap.size w w') := fun wa wb h hb => ⟨h.1.later hb, h.2.1.later hb, (by obtain ⟨n, p, l, c, h2⟩ := h.2.2.1; exact ⟨n, p, l, c, h2.later hb⟩), h.2.2.2.1.later hb, h.2.2.2.2.1.later hb, h.2.2.2.2.2.1.later hb, below_on h.2.2.2.2.2.2 hb⟩
      have hF : Facts.Stay [eqF 0 (.int .i64 m), eqF 1 (LF b), eqF 2 (TV n p l c), isF 3 (lift x (-m)), eqF 4 (LF b), eqF 5 (TV n' p' l' c'), isF 6 (lift y (-m)), rsF 7 (lift x (-m)) (lift y (-m)), isF 8 (.node m (lift x (-m)) (lift y (-m))), bxF 8 (w.heap.size + 1 + 1) (.node m (lift x (-m)) (lift y (-m)))] := stay_of (by simp only [List.forall_mem_cons]; exact ⟨eqF_stays _ _, eqF_stays _ _, eqF_stays _ _, isF_stays _ _, eqF_stays _ _, eqF_stays _ _, isF_stays _ _, rsF_stays _ _ _, isF_stays _ _, bxF_stays _ _ _, fun _ h => by cases h⟩)
      refine Facts.region (by kernel_rfl) (by kernel_rfl) (fun w' => Bx w' (w.heap.size) n p l c ∧ Bx w' (w.heap.size + 1) n' p' l' c' ∧ (∃ n p l c, Bx w' (w.heap.size + 1 + 1) n p l c) ∧ Is w' x (TV n p l c) ∧ Is w' y (TV n' p' l' c') ∧ By w' b (-m) ∧ Below w.heap.size w w') (fun x => { tmps := #[TV n p l c, TV n' p' l' c', .pointer (some ⟨w.heap.size, 0, none⟩), .pointer (some ⟨w.heap.size + 1, 0, none⟩), .pointer (some ⟨w.heap.size + 1 + 1, 0, none⟩), .int .i64 m, LF b, TV n p l c, TV n' p' l' c', .bool false, undef, undef, undef, .pointer (some ⟨w.heap.size, 0, none⟩), .int .i64 n, .pointer (some ⟨w.heap.size + 1, 0, none⟩), .int .i64 n', .int .i64 m, .int .i64 m, .int .i64 (-m), LF b, x 0, x 1, x 2, x 3, x 4, x 5, x 6, x 7, x 8], defers := [] }) [eqF 0 (.int .i64 m), eqF 1 (LF b), eqF 2 (TV n p l c), isF 3 (lift x (-m)), eqF 4 (LF b), eqF 5 (TV n' p' l' c'), isF 6 (lift y (-m)), rsF 7 (lift x (-m)) (lift y (-m)), isF 8 (.node m (lift x (-m)) (lift y (-m))), bxF 8 (w.heap.size + 1 + 1) (.node m (lift x (-m)) (lift y (-m)))] _ rfl (by kernel_rfl) (fun _ => undef) (by have e := HM.out; subst e; rfl) (⟨h1, h2, ⟨_, _, _, _, h3⟩, hx.later (Below.refl _ _).drew, hy.later (Below.refl _ _).drew, hby.later (Below.refl _ _).drew, hbel.drew⟩) ⟨?_, ?_, ?_, ?_, ?_, ?_, ?_, ?_, ?_, ?_, trivial⟩ ?_
      · exact Facts.pure hS hF (fun _ _ => rfl) rfl (fun x wv hSw hd => by
          go_simp)
      · exact Facts.pure hS hF (fun _ _ => rfl) rfl (fun x wv hSw hd => by
          go_simp)
      · exact Facts.loadT hS hF (fun _ _ => rfl) _ rfl rfl (fun x wv hSw hd => by rfl) (fun wv hSw => hSw.1.tat)
      · refine Facts.callC (b := b) hS hF (fun _ _ => rfl) rfl rfl (fun x wv hSw hd => ?_)
        have d1 := eqF_get (hd ⟨1, .data⟩ (by simp) rfl _ rfl)
        have d2 := eqF_get (hd ⟨2, .data⟩ (by simp) rfl _ rfl)
        refine ⟨d1, ?_⟩
        have hc := lifted_is n p l c b (-m) wv hSw.2.2.2.1 hSw.2.2.2.2.2.1 HB.out.1 HB.out.2.1
        rw [← d2] at hc
        exact hc
      · exact Facts.pure hS hF (fun _ _ => rfl) rfl (fun x wv hSw hd => by
          go_simp)
      · exact Facts.loadT hS hF (fun _ _ => rfl) _ rfl rfl (fun x wv hSw hd => by rfl) (fun wv hSw => hSw.2.1.tat)
      · refine Facts.callC (b := b) hS hF (fun _ _ => rfl) rfl rfl (fun x wv hSw hd => ?_)
        have d4 := eqF_get (hd ⟨4, .data⟩ (by simp) rfl _ rfl)
        have d5 := eqF_get (hd ⟨5, .data⟩ (by simp) rfl _ rfl)
        refine ⟨d4, ?_⟩
        have hc := lifted_is n' p' l' c' b (-m) wv hSw.2.2.2.2.1 hSw.2.2.2.2.2.1 HB.out.2.2.1 HB.out.2.2.2
        rw [← d5] at hc
        exact hc
      · exact Facts.sliceT hS hF (fun _ _ => rfl) rfl rfl (fun _ => rfl) (fun _ => rfl) (fun x wv hSw hd => ⟨hd ⟨3, .data⟩ (by simp) rfl _ rfl, hd ⟨6, .data⟩ (by simp) rfl _ rfl⟩)
      · exact Facts.buildT hS hF (fun _ _ => rfl) rfl rfl (fun _ => rfl) (fun x wv hSw hd => ⟨eqF_get (hd ⟨0, .data⟩ (by simp) rfl _ rfl), hd ⟨7, .data⟩ (by simp) rfl _ rfl⟩)
      · exact Facts.storeT (fun _ _ => rfl) _ _ rfl (by decide) rfl (fun _ => rfl) (fun _ => rfl) (fun x wv hSw hd => isF_get (hd ⟨8, .data⟩ (by simp) rfl _ rfl)) (fun wv hSw => ⟨hSw.2.2.1, fun n p l c => (by obtain ⟨s1, s2, ⟨_, _, _, _, s3⟩, s4, s5, s6, s7⟩ := hSw; exact ⟨s1.rowOther (by omega) _, s2.rowOther (by omega) _, ⟨_, _, _, _, s3.row n p l c⟩, s4.box s3 _, s5.box s3 _, s6.box s3 _, below_setRow s7 (by omega) _⟩)⟩) (fun j f hj hfj => by
          match j with
          | 0 => obtain rfl := Option.some.inj hfj; exact eqF_box _ _ _
          | 1 => obtain rfl := Option.some.inj hfj; exact eqF_box _ _ _
          | 2 => obtain rfl := Option.some.inj hfj; exact eqF_box _ _ _
          | 3 => obtain rfl := Option.some.inj hfj; exact isF_box _ _ _
          | 4 => obtain rfl := Option.some.inj hfj; exact eqF_box _ _ _
          | 5 => obtain rfl := Option.some.inj hfj; exact eqF_box _ _ _
          | 6 => obtain rfl := Option.some.inj hfj; exact isF_box _ _ _
          | 7 => obtain rfl := Option.some.inj hfj; exact rsF_box _ _ _ _
          | 8 => obtain rfl := Option.some.inj hfj; exact isF_box _ _ _
          | 9 => exact absurd rfl hj
          | j + 10 => simp at hfj)
      · rintro xv w9 ⟨_, _, _, _, _, _, hbel9⟩ hf
        obtain ⟨n9, p9, l9, c9, _, hbx, hi⟩ := bxF_get (hf 9 _ (by decide) rfl)
        rw [HZ'.out] at hi
        clear hf hS hF
        go_wp2
        exact bodyPost_ret (results_t rfl rfl hbx) rfl ⟨_, _, _, _, rfl, hi, hbel9⟩
    · have HM : Hid (m = n) := HL.out.2 (by omega)
      clear HL HQ
      go_wp2_with fail
      refine (lifter_any _ _).mono ?_
      rintro e w2 ⟨b, rfl, hby, hb1⟩
      have hby : By w2 b (-m) := by rw [HM.out]; exact hby
      replace h1 := h1.later hb1
      replace h2 := h2.later hb1
      replace h3 := h3.later hb1
      replace hx := hx.later hb1
      replace hy := hy.later hb1
      replace hbel := below_on hbel hb1
      clear hb1 g0 g1
      go_wp2_with fail
      have hS : Calm.Stays (fun w' => Bx w' (w.heap.size) n p l c ∧ Bx w' (w.heap.size + 1) n' p' l' c' ∧ (∃ n p l c, Bx w' (w.heap.size + 1 + 1) n p l c) ∧ Is w' x (TV n p l c) ∧ Is w' y (TV n' p' l' c') ∧ By w' b (-m) ∧ Below w.heap.size w w') := fun wa wb h hb => ⟨h.1.later hb, h.2.1.later hb, (by obtain ⟨n, p, l, c, h2⟩ := h.2.2.1; exact ⟨n, p, l, c, h2.later hb⟩), h.2.2.2.1.later hb, h.2.2.2.2.1.later hb, h.2.2.2.2.2.1.later hb, below_on h.2.2.2.2.2.2 hb⟩
      have hF : Facts.Stay [eqF 0 (.int .i64 m), eqF 1 (LF b), eqF 2 (TV n p l c), isF 3 (lift x (-m)), eqF 4 (LF b), eqF 5 (TV n' p' l' c'), isF 6 (lift y (-m)), rsF 7 (lift x (-m)) (lift y (-m)), isF 8 (.node m (lift x (-m)) (lift y (-m))), bxF 8 (w.heap.size + 1 + 1) (.node m (lift x (-m)) (lift y (-m)))] := stay_of (by simp only [List.forall_mem_cons]; exact ⟨eqF_stays _ _, eqF_stays _ _, eqF_stays _ _, isF_stays _ _, eqF_stays _ _, eqF_stays _ _, isF_stays _ _, rsF_stays _ _ _, isF_stays _ _, bxF_stays _ _ _, fun _ h => by cases h⟩)
      refine Facts.region (by kernel_rfl) (by kernel_rfl) (fun w' => Bx w' (w.heap.size) n p l c ∧ Bx w' (w.heap.size + 1) n' p' l' c' ∧ (∃ n p l c, Bx w' (w.heap.size + 1 + 1) n p l c) ∧ Is w' x (TV n p l c) ∧ Is w' y (TV n' p' l' c') ∧ By w' b (-m) ∧ Below w.heap.size w w') (fun x => { tmps := #[TV n p l c, TV n' p' l' c', .pointer (some ⟨w.heap.size, 0, none⟩), .pointer (some ⟨w.heap.size + 1, 0, none⟩), .pointer (some ⟨w.heap.size + 1 + 1, 0, none⟩), .int .i64 m, LF b, TV n p l c, TV n' p' l' c', .bool false, undef, undef, undef, .pointer (some ⟨w.heap.size, 0, none⟩), .int .i64 n, .pointer (some ⟨w.heap.size + 1, 0, none⟩), .int .i64 n', .int .i64 m, .int .i64 m, .int .i64 (-m), LF b, x 0, x 1, x 2, x 3, x 4, x 5, x 6, x 7, x 8], defers := [] }) [eqF 0 (.int .i64 m), eqF 1 (LF b), eqF 2 (TV n p l c), isF 3 (lift x (-m)), eqF 4 (LF b), eqF 5 (TV n' p' l' c'), isF 6 (lift y (-m)), rsF 7 (lift x (-m)) (lift y (-m)), isF 8 (.node m (lift x (-m)) (lift y (-m))), bxF 8 (w.heap.size + 1 + 1) (.node m (lift x (-m)) (lift y (-m)))] _ rfl (by kernel_rfl) (fun _ => undef) (by have e := HM.out; subst e; rfl) (⟨h1, h2, ⟨_, _, _, _, h3⟩, hx.later (Below.refl _ _).drew, hy.later (Below.refl _ _).drew, hby.later (Below.refl _ _).drew, hbel.drew⟩) ⟨?_, ?_, ?_, ?_, ?_, ?_, ?_, ?_, ?_, ?_, trivial⟩ ?_
      · exact Facts.pure hS hF (fun _ _ => rfl) rfl (fun x wv hSw hd => by
          go_simp)
      · exact Facts.pure hS hF (fun _ _ => rfl) rfl (fun x wv hSw hd => by
          go_simp)
      · exact Facts.loadT hS hF (fun _ _ => rfl) _ rfl rfl (fun x wv hSw hd => by rfl) (fun wv hSw => hSw.1.tat)
      · refine Facts.callC (b := b) hS hF (fun _ _ => rfl) rfl rfl (fun x wv hSw hd => ?_)
        have d1 := eqF_get (hd ⟨1, .data⟩ (by simp) rfl _ rfl)
        have d2 := eqF_get (hd ⟨2, .data⟩ (by simp) rfl _ rfl)
        refine ⟨d1, ?_⟩
        have hc := lifted_is n p l c b (-m) wv hSw.2.2.2.1 hSw.2.2.2.2.2.1 HB.out.1 HB.out.2.1
        rw [← d2] at hc
        exact hc
      · exact Facts.pure hS hF (fun _ _ => rfl) rfl (fun x wv hSw hd => by
          go_simp)
      · exact Facts.loadT hS hF (fun _ _ => rfl) _ rfl rfl (fun x wv hSw hd => by rfl) (fun wv hSw => hSw.2.1.tat)
      · refine Facts.callC (b := b) hS hF (fun _ _ => rfl) rfl rfl (fun x wv hSw hd => ?_)
        have d4 := eqF_get (hd ⟨4, .data⟩ (by simp) rfl _ rfl)
        have d5 := eqF_get (hd ⟨5, .data⟩ (by simp) rfl _ rfl)
        refine ⟨d4, ?_⟩
        have hc := lifted_is n' p' l' c' b (-m) wv hSw.2.2.2.2.1 hSw.2.2.2.2.2.1 HB.out.2.2.1 HB.out.2.2.2
        rw [← d5] at hc
        exact hc
      · exact Facts.sliceT hS hF (fun _ _ => rfl) rfl rfl (fun _ => rfl) (fun _ => rfl) (fun x wv hSw hd => ⟨hd ⟨3, .data⟩ (by simp) rfl _ rfl, hd ⟨6, .data⟩ (by simp) rfl _ rfl⟩)
      · exact Facts.buildT hS hF (fun _ _ => rfl) rfl rfl (fun _ => rfl) (fun x wv hSw hd => ⟨eqF_get (hd ⟨0, .data⟩ (by simp) rfl _ rfl), hd ⟨7, .data⟩ (by simp) rfl _ rfl⟩)
      · exact Facts.storeT (fun _ _ => rfl) _ _ rfl (by decide) rfl (fun _ => rfl) (fun _ => rfl) (fun x wv hSw hd => isF_get (hd ⟨8, .data⟩ (by simp) rfl _ rfl)) (fun wv hSw => ⟨hSw.2.2.1, fun n p l c => (by obtain ⟨s1, s2, ⟨_, _, _, _, s3⟩, s4, s5, s6, s7⟩ := hSw; exact ⟨s1.rowOther (by omega) _, s2.rowOther (by omega) _, ⟨_, _, _, _, s3.row n p l c⟩, s4.box s3 _, s5.box s3 _, s6.box s3 _, below_setRow s7 (by omega) _⟩)⟩) (fun j f hj hfj => by
          match j with
          | 0 => obtain rfl := Option.some.inj hfj; exact eqF_box _ _ _
          | 1 => obtain rfl := Option.some.inj hfj; exact eqF_box _ _ _
          | 2 => obtain rfl := Option.some.inj hfj; exact eqF_box _ _ _
          | 3 => obtain rfl := Option.some.inj hfj; exact isF_box _ _ _
          | 4 => obtain rfl := Option.some.inj hfj; exact eqF_box _ _ _
          | 5 => obtain rfl := Option.some.inj hfj; exact eqF_box _ _ _
          | 6 => obtain rfl := Option.some.inj hfj; exact isF_box _ _ _
          | 7 => obtain rfl := Option.some.inj hfj; exact rsF_box _ _ _ _
          | 8 => obtain rfl := Option.some.inj hfj; exact isF_box _ _ _
          | 9 => exact absurd rfl hj
          | j + 10 => simp at hfj)
      · rintro xv w9 ⟨_, _, _, _, _, _, hbel9⟩ hf
        obtain ⟨n9, p9, l9, c9, _, hbx, hi⟩ := bxF_get (hf 9 _ (by decide) rfl)
        rw [HZ'.out] at hi
        clear hf hS hF
        go_wp2
        exact bodyPost_ret (results_t rfl rfl hbx) rfl ⟨_, _, _, _, rfl, hi, hbel9⟩
  · have HZ' : Hid (.leaf x.n = z) := by show _ = _; rw [← HZ.out, mk, ht]; rfl
    go_wp2_with fail
    refine (leaf_any n _).mono ?_
    rintro e w2 ⟨rfl, hb1⟩
    replace h3 := h3.later hb1
    have R := below_setRow (below_on hbel hb1) (g := w.heap.size + 1 + 1) (by omega) #[.int .i64 n, .slice none 0 0]
    have hI : Is (w2.setRow (w.heap.size + 1 + 1) #[.int .i64 n, .slice none 0 0]) z (TV n none 0 0) := by
      rw [← HZ'.out, ← HX.out.1]
      exact is_leaf _ _ _ _
    clear g0 g1 hbel hb1
    go_wp2_with (refine store_t rfl _ _ rfl _ n none 0 0 rfl rfl h3 ?_)
    exact bodyPost_ret (results_t rfl rfl (h3.row _ _ _ _)) rfl ⟨_, _, _, _, rfl, hI, R⟩
end Go.Proofs.Ytmcajjdijjcpkaa
