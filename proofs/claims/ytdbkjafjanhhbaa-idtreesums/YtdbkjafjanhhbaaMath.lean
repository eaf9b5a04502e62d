/- What holds of binary trees: halves, sums, what they own. No program in it. -/
import Derived.Test.YtdbkjafjanhhbaaNorms
namespace Go.Proofs.Ytdbkjafjanhhbaa

theorem unite_nil (x : ID) : unite x (.leaf false) = some (norm x) := by
  rcases x with ⟨b | ⟨_, _⟩⟩
  · cases b <;> rfl
  · rfl
theorem unite_comm : ∀ x y : ID, unite x y = unite y x
  | ⟨.inl false⟩, y => by
    rw [unite_nil]
    rcases y with ⟨b | ⟨_, _⟩⟩
    · cases b <;> rfl
    · rfl
  | ⟨.inl true⟩, ⟨.inl false⟩ => rfl
  | ⟨.inl true⟩, ⟨.inl true⟩ => rfl
  | ⟨.inl true⟩, ⟨.inr (_, _)⟩ => rfl
  | ⟨.inr (_, _)⟩, ⟨.inl false⟩ => rfl
  | ⟨.inr (_, _)⟩, ⟨.inl true⟩ => rfl
  | ⟨.inr (a, b)⟩, ⟨.inr (c, d)⟩ => by simp only [unite, unite_comm a c, unite_comm b d]
theorem nil_iff {x : ID} : nil x = true ↔ x = .leaf false := by
  rcases x with ⟨b | ⟨_, _⟩⟩
  · cases b <;> simp [nil]
  · simp [nil]
theorem mk_right {x : ID} (h : nil x = false) : mk x (.leaf false) = .node x (.leaf false) := by
  rcases x with ⟨b | ⟨_, _⟩⟩
  · cases b
    · simp [nil] at h
    · rfl
  · rfl
theorem mk_left {x : ID} (h : nil x = false) : mk (.leaf false) x = .node (.leaf false) x := by
  rcases x with ⟨b | ⟨_, _⟩⟩
  · cases b
    · simp [nil] at h
    · rfl
  · rfl
theorem short_node {x y : ID} : short (.node x y) = true ↔ tw x y = false ∧ short x = true ∧ short y = true := by
  simp [short, and_assoc]
theorem mk_short {x y : ID} (h : tw x y = false) : mk x y = .node x y := by simp [mk, h]

theorem halve_eq1 {x y : ID} (h : nil x = true) : halve (.node x y) = (mk (.leaf false) (halve y).1, mk (.leaf false) (halve y).2) := by rw [halve, if_pos h]
theorem halve_eq2 {x y : ID} (h : nil x = false) (h' : nil y = true) : halve (.node x y) = (mk (halve x).1 (.leaf false), mk (halve x).2 (.leaf false)) := by
  rw [halve, if_neg (by rw [h]; decide), if_pos h']
theorem halve_eq3 {x y : ID} (h : nil x = false) (h' : nil y = false) : halve (.node x y) = (mk (norm x) (.leaf false), mk (.leaf false) (norm y)) := by
  rw [halve, if_neg (by rw [h]; decide), if_neg (by rw [h']; decide)]
theorem nil_other {x y : ID} (ht : tw x y = false) (h0 : nil x = true) : nil y = false := by
  cases h1 : nil y
  · rfl
  · rw [nil_iff] at h0 h1
    subst h0 h1
    simp [tw] at ht

theorem halve_nil : ∀ x : ID, short x = true → nil x = false → nil (halve x).1 = false ∧ nil (halve x).2 = false
  | ⟨.inl _⟩, _, _ => ⟨rfl, rfl⟩
  | ⟨.inr (x, y)⟩, h, _ => by
    obtain ⟨ht, hx, hy⟩ := short_node.1 h
    cases h0 : nil x
    · cases h1 : nil y
      · rw [halve_eq3 h0 h1, norm_short x hx, norm_short y hy, mk_right h0, mk_left h1]
        exact ⟨rfl, rfl⟩
      · have ih := halve_nil x hx h0
        rw [halve_eq2 h0 h1, mk_right ih.1, mk_right ih.2]
        exact ⟨rfl, rfl⟩
    · have ih := halve_nil y hy (nil_other ht h0)
      rw [halve_eq1 h0, mk_left ih.1, mk_left ih.2]
      exact ⟨rfl, rfl⟩
/-- The sum of the halves. -/
theorem halve_sum : ∀ x : ID, short x = true → nil x = false → unite (halve x).1 (halve x).2 = some x
  | ⟨.inl false⟩, _, h => by simp [nil] at h
  | ⟨.inl true⟩, _, _ => rfl
  | ⟨.inr (x, y)⟩, h, _ => by
    obtain ⟨ht, hx, hy⟩ := short_node.1 h
    have nx := norm_short x hx
    have ny := norm_short y hy
    cases h0 : nil x
    · cases h1 : nil y
      · rw [halve_eq3 h0 h1, nx, ny, mk_right h0, mk_left h1]
        simp only [unite, unite_nil, Option.bind_some, Option.map_some, nx, ny, mk_short ht]
      · have ih := halve_sum x hx h0
        have hn := halve_nil x hx h0
        rw [halve_eq2 h0 h1, mk_right hn.1, mk_right hn.2]
        rw [nil_iff] at h1
        subst h1
        simp only [unite, ih, Option.bind_some, Option.map_some, norm, mk_short ht]
    · have h1 := nil_other ht h0
      have ih := halve_sum y hy h1
      have hn := halve_nil y hy h1
      rw [halve_eq1 h0, mk_left hn.1, mk_left hn.2]
      rw [nil_iff] at h0
      subst h0
      simp only [unite, ih, Option.bind_some, Option.map_some, norm, mk_short ht]

/-! What is owned. -/
theorem has_mk (x y : ID) (k m : Nat) : has (mk x y) k m = has (.node x y) k m := by
  unfold mk
  cases h : tw x y
  · rfl
  · rcases x with ⟨a | ⟨_, _⟩⟩
    · rcases y with ⟨b | ⟨_, _⟩⟩
      · simp only [tw, beq_iff_eq] at h
        subst h
        simp [has]
      · simp [tw] at h
    · simp [tw] at h
theorem has_norm : ∀ (x : ID) (k m : Nat), has (norm x) k m = has x k m
  | ⟨.inl _⟩, _, _ => rfl
  | ⟨.inr (x, y)⟩, k, m => by simp only [norm, has_mk, has, has_norm x, has_norm y]
theorem has_unite : ∀ (a b z : ID) (k m : Nat), unite a b = some z → has z k m = (has a k m || has b k m) ∧ (has a k m && has b k m) = false
  | ⟨.inl false⟩, b, z, k, m, h => by
    simp only [unite, Option.some.injEq] at h
    subst h
    simp [has_norm, has]
  | ⟨.inl true⟩, ⟨.inl false⟩, z, k, m, h => by
    simp only [unite, Option.some.injEq] at h
    subst h
    simp [has]
  | ⟨.inl true⟩, ⟨.inl true⟩, _, _, _, h => by simp [unite] at h
  | ⟨.inl true⟩, ⟨.inr (_, _)⟩, _, _, _, h => by simp [unite] at h
  | ⟨.inr (x, y)⟩, ⟨.inl false⟩, z, k, m, h => by
    simp only [unite, Option.some.injEq] at h
    subst h
    rw [has_norm]
    simp [has]
  | ⟨.inr (_, _)⟩, ⟨.inl true⟩, _, _, _, h => by simp [unite] at h
  | ⟨.inr (x, y)⟩, ⟨.inr (x', y')⟩, z, k, m, h => by
    simp only [unite, Option.bind_eq_some_iff, Option.map_eq_some_iff] at h
    obtain ⟨z0, h0, z1, h1, rfl⟩ := h
    have i0 := has_unite x x' z0 (k - 1) m h0
    have i1 := has_unite y y' z1 (k - 1) m h1
    rw [has_mk]
    simp only [has]
    cases m.testBit (k - 1)
    · simpa using i0
    · simpa using i1
theorem own_mk (x y : ID) (r : Nat) : own (mk x y) (2 * r) = own x r + own y r := by
  unfold mk
  cases h : tw x y
  · simp [own]
  · rcases x with ⟨a | ⟨_, _⟩⟩
    · rcases y with ⟨b | ⟨_, _⟩⟩
      · simp only [tw, beq_iff_eq] at h
        subst h
        cases a
        · rfl
        · simp [own]; omega
      · simp [tw] at h
    · simp [tw] at h
theorem own_node (x y : ID) (r : Nat) : own (.node x y) (2 * r) = own x r + own y r := by simp [own]
theorem own_norm : ∀ (x : ID) (k : Nat), depth x ≤ k → own (norm x) (2 ^ k) = own x (2 ^ k)
  | ⟨.inl _⟩, _, _ => rfl
  | ⟨.inr (x, y)⟩, k, h => by
    obtain ⟨j, rfl⟩ : ∃ j, k = j + 1 := ⟨k - 1, by simp only [depth] at h; omega⟩
    simp only [depth] at h
    rw [Nat.pow_succ, Nat.mul_comm, own_node, norm, own_mk, own_norm x j (by omega), own_norm y j (by omega)]
theorem own_leaf_false (r : Nat) : own (.leaf false) r = 0 := rfl
theorem own_unite : ∀ (a b z : ID) (k : Nat), depth a ≤ k → depth b ≤ k → unite a b = some z → own z (2 ^ k) = own a (2 ^ k) + own b (2 ^ k)
  | ⟨.inl false⟩, b, z, k, ha, hb, h => by
    simp only [unite, Option.some.injEq] at h
    subst h
    rw [own_norm b k hb, own_leaf_false, Nat.zero_add]
  | ⟨.inl true⟩, ⟨.inl false⟩, z, k, ha, hb, h => by
    simp only [unite, Option.some.injEq] at h
    subst h
    rw [own_leaf_false, Nat.add_zero]
  | ⟨.inl true⟩, ⟨.inl true⟩, _, _, _, _, h => by simp [unite] at h
  | ⟨.inl true⟩, ⟨.inr (_, _)⟩, _, _, _, _, h => by simp [unite] at h
  | ⟨.inr (x, y)⟩, ⟨.inl false⟩, z, k, ha, hb, h => by
    simp only [unite, Option.some.injEq] at h
    subst h
    rw [own_norm _ k ha, own_leaf_false, Nat.add_zero]
  | ⟨.inr (_, _)⟩, ⟨.inl true⟩, _, _, _, _, h => by simp [unite] at h
  | ⟨.inr (x, y)⟩, ⟨.inr (x', y')⟩, z, k, ha, hb, h => by
    simp only [unite, Option.bind_eq_some_iff, Option.map_eq_some_iff] at h
    obtain ⟨z0, h0, z1, h1, rfl⟩ := h
    obtain ⟨j, rfl⟩ : ∃ j, k = j + 1 := ⟨k - 1, by simp only [depth] at ha; omega⟩
    simp only [depth] at ha hb
    have i0 := own_unite x x' z0 j (by omega) (by omega) h0
    have i1 := own_unite y y' z1 j (by omega) (by omega) h1
    rw [Nat.pow_succ, Nat.mul_comm, own_mk, own_node, own_node, i0, i1]
    omega
theorem own_pos : ∀ (x : ID) (k : Nat), short x = true → nil x = false → depth x ≤ k → 0 < own x (2 ^ k)
  | ⟨.inl false⟩, _, _, h, _ => by simp [nil] at h
  | ⟨.inl true⟩, k, _, _, _ => by simp [own, Nat.two_pow_pos]
  | ⟨.inr (x, y)⟩, k, hs, _, hd => by
    obtain ⟨ht, hx, hy⟩ := short_node.1 hs
    obtain ⟨j, rfl⟩ : ∃ j, k = j + 1 := ⟨k - 1, by simp only [depth] at hd; omega⟩
    simp only [depth] at hd
    rw [Nat.pow_succ, Nat.mul_comm, own_node]
    cases h0 : nil x
    · have := own_pos x j hx h0 (by omega)
      omega
    · cases h1 : nil y
      · have := own_pos y j hy h1 (by omega)
        omega
      · rw [nil_iff] at h0 h1
        subst h0 h1
        simp [tw] at ht

/-! Sums. -/
theorem short_unite : ∀ (a b z : ID), short a = true → short b = true → unite a b = some z → short z = true
  | ⟨.inl false⟩, b, z, _, _, h => by
    simp only [unite, Option.some.injEq] at h
    subst h
    exact short_norm b
  | ⟨.inl true⟩, ⟨.inl false⟩, z, _, _, h => by
    simp only [unite, Option.some.injEq] at h
    subst h
    rfl
  | ⟨.inl true⟩, ⟨.inl true⟩, _, _, _, h => by simp [unite] at h
  | ⟨.inl true⟩, ⟨.inr (_, _)⟩, _, _, _, h => by simp [unite] at h
  | ⟨.inr (x, y)⟩, ⟨.inl false⟩, z, _, _, h => by
    simp only [unite, Option.some.injEq] at h
    subst h
    exact short_norm _
  | ⟨.inr (_, _)⟩, ⟨.inl true⟩, _, _, _, h => by simp [unite] at h
  | ⟨.inr (x, y)⟩, ⟨.inr (x', y')⟩, z, ha, hb, h => by
    simp only [unite, Option.bind_eq_some_iff, Option.map_eq_some_iff] at h
    obtain ⟨z0, h0, z1, h1, rfl⟩ := h
    obtain ⟨_, hx, hy⟩ := short_node.1 ha
    obtain ⟨_, hx', hy'⟩ := short_node.1 hb
    exact short_mk (short_unite x x' z0 hx hx' h0) (short_unite y y' z1 hy hy' h1)
theorem depth_unite : ∀ (a b z : ID), unite a b = some z → depth z ≤ max (depth a) (depth b)
  | ⟨.inl false⟩, b, z, h => by
    simp only [unite, Option.some.injEq] at h
    subst h
    have := depth_norm b
    omega
  | ⟨.inl true⟩, ⟨.inl false⟩, z, h => by
    simp only [unite, Option.some.injEq] at h
    subst h
    simp [depth]
  | ⟨.inl true⟩, ⟨.inl true⟩, _, h => by simp [unite] at h
  | ⟨.inl true⟩, ⟨.inr (_, _)⟩, _, h => by simp [unite] at h
  | ⟨.inr (x, y)⟩, ⟨.inl false⟩, z, h => by
    simp only [unite, Option.some.injEq] at h
    subst h
    exact Nat.le_trans (depth_norm _) (Nat.le_max_left _ _)
  | ⟨.inr (_, _)⟩, ⟨.inl true⟩, _, h => by simp [unite] at h
  | ⟨.inr (x, y)⟩, ⟨.inr (x', y')⟩, z, h => by
    simp only [unite, Option.bind_eq_some_iff, Option.map_eq_some_iff] at h
    obtain ⟨z0, h0, z1, h1, rfl⟩ := h
    have i0 := depth_unite x x' z0 h0
    have i1 := depth_unite y y' z1 h1
    have := depth_mk z0 z1
    simp only [depth]
    omega
theorem nil_unite (a b z : ID) (ha : short a = true) (hb : short b = true) (h : unite a b = some z) (hz : nil z = true) : nil a = true ∧ nil b = true := by
  have e := own_unite a b z (max (depth a) (depth b)) (by omega) (by omega) h
  rw [nil_iff] at hz
  subst hz
  rw [own_leaf_false] at e
  constructor
  · cases h0 : nil a
    · have := own_pos a (max (depth a) (depth b)) ha h0 (by omega)
      omega
    · rfl
  · cases h0 : nil b
    · have := own_pos b (max (depth a) (depth b)) hb h0 (by omega)
      omega
    · rfl
/-- They share nothing. -/
def ap (x y : ID) : Bool := (unite x y).isSome
theorem ap_node (a b c d : ID) : ap (.node a b) (.node c d) = (ap a c && ap b d) := by
  simp only [ap, unite]
  cases unite a c <;> cases unite b d <;> rfl
theorem ap_nil_left (y : ID) : ap (.leaf false) y = true := rfl
theorem ap_nil_right (x : ID) : ap x (.leaf false) = true := by rw [ap, unite_nil]; rfl
theorem ap_true_left (y : ID) : ap (.leaf true) y = nil y := by
  rcases y with ⟨b | ⟨_, _⟩⟩
  · cases b <;> rfl
  · rfl
theorem ap_true_right (x : ID) : ap x (.leaf true) = nil x := by
  rcases x with ⟨b | ⟨_, _⟩⟩
  · cases b <;> rfl
  · rfl
/-- What is apart from a sum is apart from both. -/
theorem ap_unite : ∀ (a b s c : ID), short a = true → short b = true → short c = true → unite a b = some s → ap s c = (ap a c && ap b c)
  | ⟨.inl false⟩, b, s, c, _, hb, _, h => by
    simp only [unite, Option.some.injEq] at h
    subst h
    rw [norm_short b hb, ap_nil_left, Bool.true_and]
  | ⟨.inl true⟩, ⟨.inl false⟩, s, c, _, _, _, h => by
    simp only [unite, Option.some.injEq] at h
    subst h
    rw [ap_nil_left, Bool.and_true]
  | ⟨.inl true⟩, ⟨.inl true⟩, _, _, _, _, _, h => by simp [unite] at h
  | ⟨.inl true⟩, ⟨.inr (_, _)⟩, _, _, _, _, _, h => by simp [unite] at h
  | ⟨.inr (x, y)⟩, ⟨.inl false⟩, s, c, ha, _, _, h => by
    simp only [unite, Option.some.injEq] at h
    subst h
    rw [norm_short _ ha, ap_nil_left, Bool.and_true]
  | ⟨.inr (_, _)⟩, ⟨.inl true⟩, _, _, _, _, _, h => by simp [unite] at h
  | ⟨.inr (x, y)⟩, ⟨.inr (x', y')⟩, s, c, ha, hb, hc, h => by
    have hn : nil s = false := by
      cases h0 : nil s
      · rfl
      · have := nil_unite _ _ s ha hb h h0
        simp [nil] at this
    simp only [unite, Option.bind_eq_some_iff, Option.map_eq_some_iff] at h
    obtain ⟨z0, h0, z1, h1, rfl⟩ := h
    obtain ⟨_, hx, hy⟩ := short_node.1 ha
    obtain ⟨_, hx', hy'⟩ := short_node.1 hb
    rcases c with ⟨b | ⟨c, d⟩⟩
    · cases b
      · simp only [ap_nil_right, Bool.and_self]
      · rw [ap_true_right, ap_true_right, ap_true_right, hn]
        rfl
    · obtain ⟨hct, hc0, hd0⟩ := short_node.1 hc
      have i0 := ap_unite x x' z0 c hx hx' hc0 h0
      have i1 := ap_unite y y' z1 d hy hy' hd0 h1
      rw [ap_node, ap_node]
      have e : (ap x c && ap y d && (ap x' c && ap y' d)) = (ap z0 c && ap z1 d) := by
        rw [i0, i1]
        cases ap x c <;> cases ap y d <;> cases ap x' c <;> cases ap y' d <;> rfl
      rw [e]
      cases ht : tw z0 z1
      · rw [mk_short ht, ap_node]
      · have hm : mk z0 z1 = z0 := by simp [mk, ht]
        rw [hm] at hn ⊢
        rcases z0 with ⟨b | ⟨_, _⟩⟩
        · cases b
          · simp [nil] at hn
          · rcases z1 with ⟨b' | ⟨_, _⟩⟩
            · cases b'
              · simp [tw] at ht
              · rw [ap_true_left, ap_true_left, ap_true_left]
                cases h3 : nil c
                · rfl
                · cases h4 : nil d
                  · rfl
                  · rw [nil_iff] at h3 h4
                    subst h3 h4
                    simp [tw] at hct
            · simp [tw] at ht
        · simp [tw] at ht
end Go.Proofs.Ytdbkjafjanhhbaa
