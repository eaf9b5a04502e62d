import Derived.Test.YtmcajjdijjcpkaaP1
/- Trees of counts: lifted, made of two, made shorter, halves; below one another, joined, the count at a place. Plain mathematics. -/
namespace Go.Proofs.Ytmcajjdijjcpkaa

def len : EV → Nat
  | ⟨_, .inl _⟩ => 0
  | ⟨_, .inr (_, _)⟩ => 2
def lf : EV → Bool
  | ⟨_, .inl _⟩ => true
  | ⟨_, .inr (_, _)⟩ => false
def depth : EV → Nat
  | ⟨_, .inl _⟩ => 0
  | ⟨_, .inr (x, y)⟩ => 1 + max (depth x) (depth y)
/-- With so much more. -/
def lift (x : EV) (k : Int) : EV := ⟨x.n + k, x.sub⟩
/-- Both leaves of one number. -/
def tw : EV → EV → Bool
  | ⟨n, .inl _⟩, ⟨m, .inl _⟩ => n == m
  | _, _ => false
/-- What is made of two. -/
def mk (x y : EV) : EV := if tw x y then .leaf x.n else .node (min x.n y.n) (lift x (-min x.n y.n)) (lift y (-min x.n y.n))
/-- Made shorter. -/
def norm : EV → EV
  | ⟨n, .inl _⟩ => .leaf n
  | ⟨n, .inr (x, y)⟩ => lift (mk (norm x) (norm y)) n
/-- None in it has Kids without a 0, or two leaves of one number as Kids. -/
def short : EV → Bool
  | ⟨_, .inl _⟩ => true
  | ⟨_, .inr (x, y)⟩ => min x.n y.n == 0 && (!tw x y && (short x && short y))
/-- The halves. -/
def h0 : EV → EV
  | ⟨n, .inl _⟩ => .leaf n
  | ⟨n, .inr (x, _)⟩ => lift x n
def h1 : EV → EV
  | ⟨n, .inl _⟩ => .leaf n
  | ⟨n, .inr (_, y)⟩ => lift y n
/-- Below, so deep. -/
def leq : Nat → EV → EV → Bool
  | 0, a, b => decide (a.n ≤ b.n)
  | k + 1, a, b => leq k (h0 a) (h0 b) && leq k (h1 a) (h1 b)
/-- Together, so deep. -/
def join : Nat → EV → EV → EV
  | 0, a, b => .leaf (max a.n b.n)
  | k + 1, a, b => mk (join k (h0 a) (h0 b)) (join k (h1 a) (h1 b))
/-- The count at a place, by so many bits. -/
def val : Nat → EV → Nat → Int
  | 0, x, _ => x.n
  | k + 1, x, i => val k (if i.testBit k then h1 x else h0 x) i
/-- The least and the greatest count. -/
def low : EV → Int
  | ⟨n, .inl _⟩ => n
  | ⟨n, .inr (x, y)⟩ => n + min (low x) (low y)
def high : EV → Int
  | ⟨n, .inl _⟩ => n
  | ⟨n, .inr (x, y)⟩ => n + max (high x) (high y)
/-- It may be. -/
def ok (x : EV) : Bool := rg x 16 1073741824 && short x
def okT (t : Tr) : Bool := rough t 16 1073741824 && short (evOf t)

theorem lift_n (x : EV) (k : Int) : (lift x k).n = x.n + k := rfl
theorem lift_zero (x : EV) : lift x 0 = x := by cases x; simp [lift]
theorem lift_lift (x : EV) (j k : Int) : lift (lift x j) k = lift x (j + k) := by cases x; simp [lift, Int.add_assoc]
theorem lift_back (x : EV) (k : Int) : lift (lift x (-k)) k = x := by rw [lift_lift, show -k + k = 0 by omega, lift_zero]
theorem lift_inj {x y : EV} {k : Int} (h : lift x k = lift y k) : x = y := by
  have := congrArg (fun z => lift z (-k)) h
  simpa [lift_lift, show k + -k = 0 by omega, lift_zero] using this
theorem len_lift (x : EV) (k : Int) : len (lift x k) = len x := by rcases x with ⟨_, _ | ⟨_, _⟩⟩ <;> rfl
theorem lf_lift (x : EV) (k : Int) : lf (lift x k) = lf x := by rcases x with ⟨_, _ | ⟨_, _⟩⟩ <;> rfl
theorem short_lift (x : EV) (k : Int) : short (lift x k) = short x := by rcases x with ⟨_, _ | ⟨_, _⟩⟩ <;> rfl
theorem depth_lift (x : EV) (k : Int) : depth (lift x k) = depth x := by rcases x with ⟨_, _ | ⟨_, _⟩⟩ <;> rfl
theorem low_lift (x : EV) (k : Int) : low (lift x k) = low x + k := by rcases x with ⟨_, _ | ⟨_, _⟩⟩ <;> simp [low, lift]; omega
theorem high_lift (x : EV) (k : Int) : high (lift x k) = high x + k := by rcases x with ⟨_, _ | ⟨_, _⟩⟩ <;> simp [high, lift]; omega
theorem len_lf (x : EV) : decide (len x = 0) = lf x := by rcases x with ⟨_, _ | ⟨_, _⟩⟩ <;> rfl
theorem tw_eq (x y : EV) : (decide (len x = 0) && (decide (len y = 0) && x.n == y.n)) = tw x y := by
  rcases x with ⟨_, _ | ⟨_, _⟩⟩ <;> rcases y with ⟨_, _ | ⟨_, _⟩⟩ <;> simp [len, tw]
theorem tw_lift (x y : EV) (k : Int) : tw (lift x k) (lift y k) = tw x y := by
  rcases x with ⟨n, _ | ⟨_, _⟩⟩ <;> rcases y with ⟨m, _ | ⟨_, _⟩⟩ <;> simp [lift, tw]
  rw [Bool.eq_iff_iff]
  simp only [beq_iff_eq]
  omega
theorem tw_yes {x y : EV} (h : tw x y = true) : x = .leaf x.n ∧ y = .leaf x.n := by
  rcases x with ⟨n, ⟨⟩ | ⟨_, _⟩⟩ <;> rcases y with ⟨m, ⟨⟩ | ⟨_, _⟩⟩ <;> simp [tw] at h
  subst h
  exact ⟨rfl, rfl⟩
theorem mk_n (x y : EV) : (mk x y).n = min x.n y.n := by
  unfold mk
  split
  · rename_i h
    have := tw_yes h
    rw [this.2]
    simp
  · rfl
theorem h0_mk (x y : EV) : h0 (mk x y) = x := by
  unfold mk
  split
  · rename_i h
    exact (tw_yes h).1.symm
  · simp [h0, lift_back]
theorem h1_mk (x y : EV) : h1 (mk x y) = y := by
  unfold mk
  split
  · rename_i h
    exact (tw_yes h).2.symm
  · simp [h1, lift_back]
theorem h0_lift (x : EV) (k : Int) : h0 (lift x k) = lift (h0 x) k := by
  rcases x with ⟨n, _ | ⟨_, _⟩⟩
  · rfl
  · simp [h0, lift, Int.add_assoc]
theorem h1_lift (x : EV) (k : Int) : h1 (lift x k) = lift (h1 x) k := by
  rcases x with ⟨n, _ | ⟨_, _⟩⟩
  · rfl
  · simp [h1, lift, Int.add_assoc]
theorem depth_h (x : EV) (k : Nat) (h : depth x ≤ k + 1) : depth (h0 x) ≤ k ∧ depth (h1 x) ≤ k := by
  rcases x with ⟨n, _ | ⟨x, y⟩⟩
  · simp [h0, h1, depth]
  · simp only [depth] at h
    simp only [h0, h1, depth_lift]
    omega
theorem leaf_of_depth {x : EV} (h : depth x ≤ 0) : x = .leaf x.n := by
  rcases x with ⟨n, ⟨⟩ | ⟨_, _⟩⟩
  · rfl
  · simp only [depth] at h; omega

/-! What is rough. -/
theorem rg_n {x : EV} {room : Nat} {left : Int} (h : rg x room left = true) : 0 ≤ x.n ∧ x.n ≤ left := by
  rcases x with ⟨n, _ | ⟨_, _⟩⟩ <;> simp [rg] at h
  · exact h
  · exact h.1
theorem rg_kids {n : Int} {x y : EV} {room : Nat} {left : Int} (h : rg (.node n x y) room left = true) : (0 ≤ n ∧ n ≤ left) ∧ 0 < room ∧ rg x (room - 1) (left - n) = true ∧ rg y (room - 1) (left - n) = true := by
  simp only [rg, Bool.and_eq_true, decide_eq_true_eq] at h
  exact ⟨h.1, h.2.1.1, h.2.1.2, h.2.2⟩
theorem rg_depth : ∀ {x : EV} {room : Nat} {left : Int}, rg x room left = true → depth x ≤ room
  | ⟨_, .inl _⟩, _, _, _ => by simp [depth]
  | ⟨_, .inr (x, y)⟩, room, left, h => by
    obtain ⟨_, h1, h2, h3⟩ := rg_kids h
    have := rg_depth h2
    have := rg_depth h3
    simp only [depth]
    omega
theorem rg_lift {x : EV} {room : Nat} {left : Int} (k : Int) (h : rg x room left = true) (h0 : 0 ≤ x.n + k) : rg (lift x k) room (left + k) = true := by
  rcases x with ⟨n, _ | ⟨x, y⟩⟩
  · simp only [rg, decide_eq_true_eq, lift] at h h0 ⊢
    omega
  · obtain ⟨h1, h2, h3, h4⟩ := rg_kids h
    simp only [lift, rg, Bool.and_eq_true, decide_eq_true_eq] at h0 ⊢
    rw [show left + k - (n + k) = left - n by omega]
    exact ⟨by omega, ⟨h2, h3⟩, h4⟩
theorem rg_mono : ∀ {x : EV} {room room' : Nat} {left left' : Int}, rg x room left = true → room ≤ room' → left ≤ left' → rg x room' left' = true
  | ⟨n, .inl _⟩, _, _, _, _, h, _, hl => by
    simp only [rg, decide_eq_true_eq] at h ⊢
    omega
  | ⟨n, .inr (x, y)⟩, room, room', left, left', h, hr, hl => by
    obtain ⟨h1, h2, h3, h4⟩ := rg_kids h
    have h5 := rg_mono h3 (show room - 1 ≤ room' - 1 by omega) (show left - n ≤ left' - n by omega)
    have h6 := rg_mono h4 (show room - 1 ≤ room' - 1 by omega) (show left - n ≤ left' - n by omega)
    simp only [rg, Bool.and_eq_true, decide_eq_true_eq]
    exact ⟨by omega, ⟨by omega, h5⟩, h6⟩
theorem rg_mk {x y : EV} {k : Nat} {left : Int} (hx : rg x k left = true) (hy : rg y k left = true) : rg (mk x y) (k + 1) left = true := by
  have nx := rg_n hx
  have ny := rg_n hy
  unfold mk
  split
  · simp only [rg, decide_eq_true_eq]
    exact nx
  · have h1 := rg_lift (-min x.n y.n) hx (by omega)
    have h2 := rg_lift (-min x.n y.n) hy (by omega)
    simp only [rg, Bool.and_eq_true, decide_eq_true_eq, Nat.add_sub_cancel]
    exact ⟨by omega, ⟨by omega, h1⟩, h2⟩
theorem rg_norm : ∀ {x : EV} {room : Nat} {left : Int}, rg x room left = true → rg (norm x) room left = true
  | ⟨n, .inl _⟩, _, _, h => h
  | ⟨n, .inr (x, y)⟩, room, left, h => by
    obtain ⟨h1, h2, h3, h4⟩ := rg_kids h
    have h5 := rg_mk (rg_norm h3) (rg_norm h4)
    have h6 := rg_lift n h5 (by have := rg_n h5; omega)
    rw [show room - 1 + 1 = room by omega, show left - n + n = left by omega] at h6
    exact h6
theorem rg_h {x : EV} {k : Nat} {left : Int} (h : rg x (k + 1) left = true) : rg (h0 x) k left = true ∧ rg (h1 x) k left = true := by
  rcases x with ⟨n, _ | ⟨x, y⟩⟩
  · exact ⟨h, h⟩
  · obtain ⟨h1, h2, h3, h4⟩ := rg_kids h
    have h5 := rg_lift n h3 (by have := rg_n h3; omega)
    have h6 := rg_lift n h4 (by have := rg_n h4; omega)
    rw [show left - n + n = left by omega] at h5 h6
    exact ⟨h5, h6⟩

/-! What is short. -/
theorem short_mk {x y : EV} (hx : short x = true) (hy : short y = true) : short (mk x y) = true := by
  unfold mk
  split
  · rfl
  · rename_i h
    simp only [short, lift_n, tw_lift, short_lift, hx, hy, Bool.and_true, Bool.and_eq_true, beq_iff_eq, Bool.not_eq_true']
    exact ⟨by omega, by simpa using h⟩
theorem short_norm : ∀ x : EV, short (norm x) = true
  | ⟨_, .inl _⟩ => rfl
  | ⟨_, .inr (x, y)⟩ => by
    rw [norm, short_lift]
    exact short_mk (short_norm x) (short_norm y)
theorem short_kids {n : Int} {x y : EV} (h : short (.node n x y) = true) : min x.n y.n = 0 ∧ tw x y = false ∧ short x = true ∧ short y = true := by
  simp only [short, Bool.and_eq_true, beq_iff_eq, Bool.not_eq_true'] at h
  exact ⟨h.1, h.2.1, h.2.2.1, h.2.2.2⟩
theorem norm_short : ∀ {x : EV}, short x = true → norm x = x
  | ⟨_, .inl ()⟩, _ => rfl
  | ⟨n, .inr (x, y)⟩, h => by
    obtain ⟨h1, h2, h3, h4⟩ := short_kids h
    rw [norm, norm_short h3, norm_short h4, mk, h2, if_neg (by decide), h1, show -(0 : Int) = 0 from rfl, lift_zero, lift_zero]
    simp [lift]
theorem norm_eq (x : EV) : eqb (norm x) x = short x := by
  rw [Bool.eq_iff_iff, eqb_iff]
  constructor
  · intro h
    rw [← h]
    exact short_norm x
  · exact norm_short
theorem norm_norm (x : EV) : norm (norm x) = norm x := norm_short (short_norm x)
theorem short_h {x : EV} (h : short x = true) : short (h0 x) = true ∧ short (h1 x) = true := by
  rcases x with ⟨n, _ | ⟨x, y⟩⟩
  · exact ⟨rfl, rfl⟩
  · obtain ⟨_, _, h3, h4⟩ := short_kids h
    simp only [h0, h1, short_lift]
    exact ⟨h3, h4⟩

/-! Below, together. -/
theorem leq_refl : ∀ (k : Nat) (a : EV), leq k a a = true
  | 0, a => by simp [leq]
  | k + 1, a => by simp [leq, leq_refl k]
theorem leq_trans : ∀ {k : Nat} {a b c : EV}, leq k a b = true → leq k b c = true → leq k a c = true
  | 0, a, b, c, h, h' => by simp only [leq, decide_eq_true_eq] at *; omega
  | k + 1, a, b, c, h, h' => by
    simp only [leq, Bool.and_eq_true] at *
    exact ⟨leq_trans h.1 h'.1, leq_trans h.2 h'.2⟩
theorem of_halves {a b : EV} (ha : short a = true) (hb : short b = true) (e0 : h0 a = h0 b) (e1 : h1 a = h1 b) : a = b := by
  rcases a with ⟨n, ⟨⟩ | ⟨x, y⟩⟩ <;> rcases b with ⟨m, ⟨⟩ | ⟨x', y'⟩⟩
  · simpa [h0] using e0
  · exfalso
    obtain ⟨_, h2, _, _⟩ := short_kids hb
    simp only [h0, h1] at e0 e1
    have := lift_inj (e0.symm.trans e1)
    subst this
    rcases x' with ⟨r, ⟨⟩ | ⟨_, _⟩⟩
    · simp [tw] at h2
    · simp [lift] at e0
  · exfalso
    obtain ⟨_, h2, _, _⟩ := short_kids ha
    simp only [h0, h1] at e0 e1
    have := lift_inj (e0.trans e1.symm)
    subst this
    rcases x with ⟨r, ⟨⟩ | ⟨_, _⟩⟩
    · simp [tw] at h2
    · simp [lift] at e0
  · obtain ⟨m1, _, _, _⟩ := short_kids ha
    obtain ⟨m2, _, _, _⟩ := short_kids hb
    simp only [h0, h1] at e0 e1
    have f0 := congrArg EV.n e0
    have f1 := congrArg EV.n e1
    simp only [lift_n] at f0 f1
    obtain rfl : n = m := by omega
    rw [lift_inj e0, lift_inj e1]
theorem leq_anti : ∀ {k : Nat} {a b : EV}, depth a ≤ k → depth b ≤ k → short a = true → short b = true → leq k a b = true → leq k b a = true → a = b
  | 0, a, b, da, db, _, _, h, h' => by
    simp only [leq, decide_eq_true_eq] at h h'
    rw [leaf_of_depth da, leaf_of_depth db, show a.n = b.n by omega]
  | k + 1, a, b, da, db, sa, sb, h, h' => by
    simp only [leq, Bool.and_eq_true] at h h'
    have d1 := depth_h a k da
    have d2 := depth_h b k db
    have s1 := short_h sa
    have s2 := short_h sb
    exact of_halves sa sb (leq_anti d1.1 d2.1 s1.1 s2.1 h.1 h'.1) (leq_anti d1.2 d2.2 s1.2 s2.2 h.2 h'.2)
theorem leq_both {k : Nat} {a b : EV} (da : depth a ≤ k) (db : depth b ≤ k) (sa : short a = true) (sb : short b = true) : (leq k a b && leq k b a) = eqb a b := by
  rw [Bool.eq_iff_iff, eqb_iff, Bool.and_eq_true]
  constructor
  · exact fun h => leq_anti da db sa sb h.1 h.2
  · rintro rfl
    exact ⟨leq_refl k a, leq_refl k a⟩
theorem join_comm : ∀ (k : Nat) (a b : EV), join k a b = join k b a
  | 0, a, b => by simp [join, Int.max_comm]
  | k + 1, a, b => by rw [join, join, join_comm k, join_comm k (h1 a)]
theorem leq_join : ∀ (k : Nat) (a b : EV), leq k a (join k a b) = true
  | 0, a, b => by
    show decide (a.n ≤ max a.n b.n) = true
    rw [decide_eq_true_eq]
    omega
  | k + 1, a, b => by simp [leq, join, h0_mk, h1_mk, leq_join k]
theorem join_leq : ∀ (k : Nat) (a b c : EV), leq k (join k a b) c = (leq k a c && leq k b c)
  | 0, a, b, c => by
    show decide (max a.n b.n ≤ c.n) = (decide (a.n ≤ c.n) && decide (b.n ≤ c.n))
    rw [Bool.eq_iff_iff]
    simp only [Bool.and_eq_true, decide_eq_true_eq]
    omega
  | k + 1, a, b, c => by
    simp only [leq, join, h0_mk, h1_mk, join_leq k]
    cases leq k (h0 a) (h0 c) <;> cases leq k (h0 b) (h0 c) <;> simp
theorem short_join : ∀ (k : Nat) (a b : EV), short (join k a b) = true
  | 0, _, _ => rfl
  | k + 1, _a, _b => short_mk (short_join k _ _) (short_join k _ _)
theorem rg_join : ∀ {k : Nat} {a b : EV} {left : Int}, rg a k left = true → rg b k left = true → rg (join k a b) k left = true
  | 0, a, b, left, ha, hb => by
    have := rg_n ha
    have := rg_n hb
    simp only [join, rg, decide_eq_true_eq]
    omega
  | k + 1, a, b, left, ha, hb => rg_mk (rg_join (rg_h ha).1 (rg_h hb).1) (rg_join (rg_h ha).2 (rg_h hb).2)
theorem val_join : ∀ (k : Nat) (a b : EV) (i : Nat), val k (join k a b) i = max (val k a i) (val k b i)
  | 0, _, _, _ => rfl
  | k + 1, a, b, i => by
    simp only [val, join, h0_mk, h1_mk]
    cases i.testBit k
    · simpa using val_join k (h0 a) (h0 b) i
    · simpa using val_join k (h1 a) (h1 b) i
theorem val_leq : ∀ {k : Nat} {a b : EV} (i : Nat), leq k a b = true → val k a i ≤ val k b i
  | 0, a, b, i, h => by
    show a.n ≤ b.n
    simpa [leq] using h
  | k + 1, a, b, i, h => by
    simp only [leq, Bool.and_eq_true] at h
    simp only [val]
    cases i.testBit k
    · simpa using val_leq i h.1
    · simpa using val_leq i h.2
theorem leq_leaf : ∀ (k : Nat) (n m : Int), leq k (.leaf n) (.leaf m) = decide (n ≤ m)
  | 0, _, _ => rfl
  | k + 1, n, m => by simp [leq, h0, h1, leq_leaf k]
theorem join_leaf : ∀ (k : Nat) (n m : Int), join k (.leaf n) (.leaf m) = .leaf (max n m)
  | 0, _, _ => rfl
  | k + 1, n, m => by simp [join, h0, h1, join_leaf k, mk, tw]
theorem val_leaf : ∀ (k : Nat) (n : Int) (i : Nat), val k (.leaf n) i = n
  | 0, _, _ => rfl
  | k + 1, n, i => by
    simp only [val, h0, h1]
    cases i.testBit k <;> simp [val_leaf k]

/-! The least and the greatest count. -/
theorem low_short : ∀ {x : EV}, short x = true → low x = x.n
  | ⟨_, .inl _⟩, _ => rfl
  | ⟨n, .inr (x, y)⟩, h => by
    obtain ⟨h1, _, h3, h4⟩ := short_kids h
    simp only [low, low_short h3, low_short h4]
    omega
theorem low_h (x : EV) : low x ≤ low (h0 x) ∧ low x ≤ low (h1 x) := by
  rcases x with ⟨n, _ | ⟨x, y⟩⟩
  · simp [h0, h1, low]
  · simp only [h0, h1, low_lift, low]
    omega
theorem high_h (x : EV) : high (h0 x) ≤ high x ∧ high (h1 x) ≤ high x := by
  rcases x with ⟨n, _ | ⟨x, y⟩⟩
  · simp [h0, h1, high]
  · simp only [h0, h1, high_lift, high]
    omega
theorem val_low : ∀ (k : Nat) (x : EV) (i : Nat), depth x ≤ k → low x ≤ val k x i ∧ val k x i ≤ high x
  | 0, x, i, h => by
    rw [leaf_of_depth h]
    simp [low, high, val]
  | k + 1, x, i, h => by
    have d := depth_h x k h
    have l := low_h x
    have g := high_h x
    simp only [val]
    cases i.testBit k
    · have := val_low k (h0 x) i d.1
      simp
      omega
    · have := val_low k (h1 x) i d.2
      simp
      omega
theorem rg_high : ∀ {x : EV} {room : Nat} {left : Int}, rg x room left = true → (0 ≤ low x ∧ low x ≤ high x) ∧ high x ≤ left
  | ⟨n, .inl _⟩, room, left, h => by
    have := rg_n h
    simp only [low, high] at *
    omega
  | ⟨n, .inr (x, y)⟩, room, left, h => by
    obtain ⟨h1, _, h3, h4⟩ := rg_kids h
    have := rg_high h3
    have := rg_high h4
    simp only [low, high]
    omega
theorem ok_parts {x : EV} (h : ok x = true) : rg x 16 1073741824 = true ∧ short x = true := by
  unfold ok at h
  simpa using h
theorem okT_to (x : EV) : okT (toTr x) = ok x := by rw [okT, rough_to, evOf_to]; rfl
theorem ok_of {w : World} {t : Tr} {v : Value} (ht : Lies w t v) (h : okT t = true) : Is w (evOf t) v ∧ ok (evOf t) = true := by
  unfold okT at h
  simp only [Bool.and_eq_true] at h
  have := is_of_lies t 16 1073741824 v h.1 ht
  refine ⟨this.1, ?_⟩
  unfold ok
  rw [this.2, h.2]
  rfl
end Go.Proofs.Ytmcajjdijjcpkaa
/- The small functions of package events: isLeaf, sameLeaf, leaf, lifter and what it makes. -/
namespace Go.Proofs.Ytmcajjdijjcpkaa
open Go.RowKit

theorem is_tv {w : World} : ∀ {x : EV} {v : Value}, Is w x v → ∃ p c, v = TV x.n p (len x) c
  | ⟨_, .inl _⟩, _, h => h
  | ⟨_, .inr (_, _)⟩, _, ⟨g, o, c, _, _, _, _, _, _, _, _, e, _⟩ => ⟨some ⟨g, o, none⟩, c, e⟩
theorem is_parts {w : World} {x : EV} {n : Int} {p : Option Addr} {l c : Nat} (h : Is w x (TV n p l c)) : n = x.n ∧ l = len x := by
  obtain ⟨p', c', e⟩ := is_tv h
  simp at e
  exact ⟨e.1, e.2.2.1⟩
theorem is_leaf (w : World) (n : Int) (p : Option Addr) (c : Nat) : Is w (.leaf n) (TV n p 0 c) := ⟨p, c, rfl⟩
theorem is_lift {w : World} {x : EV} {n : Int} {p : Option Addr} {l c : Nat} (k : Int) (h : Is w x (TV n p l c)) : Is w (lift x k) (TV (n + k) p l c) := by
  rcases x with ⟨m, _ | ⟨x, y⟩⟩
  · obtain ⟨p', c', e⟩ := h
    simp at e
    obtain ⟨rfl, rfl, rfl, rfl⟩ := e
    exact ⟨p, c, rfl⟩
  · obtain ⟨g, o, c', n0, p0, l0, c0, n1, p1, l1, c1, e, t0, t1, hx, hy⟩ := h
    simp at e
    obtain ⟨rfl, rfl, rfl, rfl⟩ := e
    exact ⟨g, o, c, n0, p0, l0, c0, n1, p1, l1, c1, rfl, t0, t1, hx, hy⟩

theorem one_box (w : World) (n : Int) (p : Option Addr) (l c : Nat) : ∀ w0, w0 = w.alloc (.cells #[.int .i64 n, .slice p l c] 24) → Bx w0 w.heap.size n p l c ∧ Below w.heap.size w w0 := by
  rintro w0 rfl
  exact ⟨bx_new w n p l c, (Below.refl _ _).alloc (Nat.le_refl _) _⟩
theorem two_box (w : World) (n : Int) (p : Option Addr) (l c : Nat) (n' : Int) (p' : Option Addr) (l' c' : Nat) : ∀ w0, w0 = (w.alloc (.cells #[.int .i64 n, .slice p l c] 24)).alloc (.cells #[.int .i64 n', .slice p' l' c'] 24) → Bx w0 w.heap.size n p l c ∧ Bx w0 (w.heap.size + 1) n' p' l' c' ∧ Below w.heap.size w w0 := by
  rintro w0 rfl
  exact ⟨(bx_new w n p l c).alloc _, bx_next _ (by simp) n' p' l' c', ((Below.refl _ _).alloc (Nat.le_refl _) _).alloc (by simp) _⟩
theorem three_box (w : World) (n : Int) (p : Option Addr) (l c : Nat) (n' : Int) (p' : Option Addr) (l' c' : Nat) (n'' : Int) (p'' : Option Addr) (l'' c'' : Nat) : ∀ w0, w0 = ((w.alloc (.cells #[.int .i64 n, .slice p l c] 24)).alloc (.cells #[.int .i64 n', .slice p' l' c'] 24)).alloc (.cells #[.int .i64 n'', .slice p'' l'' c''] 24) → Bx w0 w.heap.size n p l c ∧ Bx w0 (w.heap.size + 1) n' p' l' c' ∧ Bx w0 (w.heap.size + 1 + 1) n'' p'' l'' c'' ∧ Below w.heap.size w w0 := by
  rintro w0 rfl
  exact ⟨((bx_new w n p l c).alloc _).alloc _, (bx_next _ (by simp) n' p' l' c').alloc _, bx_next _ (by simp) n'' p'' l'' c'', (((Below.refl _ _).alloc (Nat.le_refl _) _).alloc (by simp) _).alloc (by simp; omega) _⟩
/-- A new box, and what it holds then. -/
theorem new_box (w : World) (n : Int) (p : Option Addr) (l c : Nat) : Bx ((w.alloc (.cells #[.int .i64 0, .slice none 0 0] 24)).setRow w.heap.size #[.int .i64 n, .slice p l c]) w.heap.size n p l c := (bx_new w 0 none 0 0).row n p l c
theorem new_below (w : World) (n : Int) (p : Option Addr) (l c : Nat) : Below w.heap.size w ((w.alloc (.cells #[.int .i64 0, .slice none 0 0] 24)).setRow w.heap.size #[.int .i64 n, .slice p l c]) :=
  below_setRow ((Below.refl _ _).alloc (Nat.le_refl _) _) (Nat.le_refl _) _
theorem row_tats (w : World) (n : Int) (p : Option Addr) (l c : Nat) (n' : Int) (p' : Option Addr) (l' c' : Nat) : ∀ w0, w0 = w.alloc (.cells #[.int .i64 n, .slice p l c, .int .i64 n', .slice p' l' c'] 24) →
    Tat w0 w.heap.size 0 n p l c ∧ Tat w0 w.heap.size 2 n' p' l' c' ∧ Below w.heap.size w w0 := by
  rintro w0 rfl
  have h := heap_alloc_last w (.cells #[.int .i64 n, .slice p l c, .int .i64 n', .slice p' l' c'] 24)
  refine ⟨⟨?_, ?_⟩, ⟨?_, ?_⟩, (Below.refl _ _).alloc (Nat.le_refl _) _⟩
  all_goals rw [cell_of_row _ _ _ _ 24 (0, 0) h]; rfl

/-- The call answers the tree x; the tree and a number. -/
abbrev Gives (x : EV) (w : World) (e : Ending) (w' : World) : Prop := ∃ n p l c, e = .returned (TV n p l c) ∧ Is w' x (TV n p l c) ∧ Below w.heap.size w w'
abbrev GivesE (x : EV) (r : Int) (w : World) (e : Ending) (w' : World) : Prop := ∃ n p l c, e = .returned (.tuple #[TV n p l c, .int .i64 r]) ∧ Is w' x (TV n p l c) ∧ Below w.heap.size w w'
/-- It answers a value, and leaves what was there alone. -/
abbrev Tells (v : Value) (w : World) (e : Ending) (w' : World) : Prop := e = .returned v ∧ Below w.heap.size w w'

set_option maxRecDepth 100000 in
theorem isLeaf_any (n : Int) (p : Option Addr) (l c : Nat) (w : World) : Calls Try.prog 54 #[TV n p l c] w (Tells (.bool (decide (l = 0))) w) := by
  obtain ⟨h1, hbel⟩ := one_box w n p l c _ rfl
  have c1 := h1.cell1
  go_enter Try.func54, Try.ntmps54
  go_wp2
  go_ret
  refine ⟨?_, hbel⟩
  have : ((l : Int) == 0) = decide (l = 0) := by
    rw [Bool.eq_iff_iff]; simp
  simp [this]
theorem isLeaf_is {w : World} {x : EV} {n : Int} {p : Option Addr} {l c : Nat} (h : Is w x (TV n p l c)) (w1 : World) : Calls Try.prog 54 #[TV n p l c] w1 (Tells (.bool (lf x)) w1) := by
  have := isLeaf_any n p l c w1
  rwa [show decide (l = 0) = lf x by rw [(is_parts h).2, len_lf]] at this

set_option maxRecDepth 100000 in
theorem sameLeaf_any (n : Int) (p : Option Addr) (l c : Nat) (n' : Int) (p' : Option Addr) (l' c' : Nat) (w : World) :
    Calls Try.prog 93 #[TV n p l c, TV n' p' l' c'] w (Tells (.bool (decide (l = 0) && (decide (l' = 0) && n == n'))) w) := by
  obtain ⟨h1, h2, hbel⟩ := two_box w n p l c n' p' l' c' _ rfl
  have hC := isLeaf_any n p l c
  have hC' := isLeaf_any n' p' l' c'
  generalize decide (l = 0) = x at hC ⊢
  generalize decide (l' = 0) = y at hC' ⊢
  go_enter Try.func93, Try.ntmps93
  go_wp2_with (refine load_t _ rfl rfl _ _ rfl h1.tat ?_)
  refine (hC _).mono ?_
  rintro e w1 ⟨rfl, hb1⟩
  replace h1 := h1.later hb1
  replace h2 := h2.later hb1
  replace hbel := below_on hbel hb1
  clear hb1
  cases x
  · go_wp2
    go_ret
    exact ⟨by simp, hbel⟩
  · go_wp2_with (refine load_t _ rfl rfl _ _ rfl h2.tat ?_)
    refine (hC' _).mono ?_
    rintro e w2 ⟨rfl, hb1⟩
    replace h1 := (h1.later hb1).cell0
    replace h2 := (h2.later hb1).cell0
    replace hbel := below_on hbel hb1
    clear hb1
    cases y
    · go_wp2
      go_ret
      exact ⟨by simp, hbel⟩
    · go_wp2
      go_ret
      exact ⟨by simp, hbel⟩

set_option maxRecDepth 100000 in
theorem leaf_any (n : Int) (w : World) : Calls Try.prog 92 #[.int .i64 n] w (Tells (TV n none 0 0) w) := by
  obtain ⟨h1, hbel⟩ := one_box w 0 none 0 0 _ rfl
  go_enter Try.func92, Try.ntmps92
  go_wp2_with (refine store_t rfl _ _ rfl _ n none 0 0 rfl rfl h1 ?_)
  exact bodyPost_ret (results_t rfl rfl (h1.row n none 0 0)) rfl ⟨rfl, below_setRow hbel (Nat.le_refl _) _⟩
theorem leaf_gives (n : Int) (w : World) : Calls Try.prog 92 #[.int .i64 n] w (Gives (.leaf n) w) :=
  (leaf_any n w).mono fun _e _w' ⟨he, hb⟩ => ⟨n, none, 0, 0, he, is_leaf _ _ _ _, hb⟩
set_option maxRecDepth 100000 in
theorem refLeaf_any (n : Int) (w : World) : Calls Try.prog 53 #[.int .i64 n] w (Tells (TV n none 0 0) w) := by
  obtain ⟨h1, hbel⟩ := one_box w 0 none 0 0 _ rfl
  go_enter Try.func53, Try.ntmps53
  go_wp2_with (refine store_t rfl _ _ rfl _ n none 0 0 rfl rfl h1 ?_)
  exact bodyPost_ret (results_t rfl rfl (h1.row n none 0 0)) rfl ⟨rfl, below_setRow hbel (Nat.le_refl _) _⟩
theorem refLeaf_gives (n : Int) (w : World) : Calls Try.prog 53 #[.int .i64 n] w (Gives (.leaf n) w) :=
  (refLeaf_any n w).mono fun _e _w' ⟨he, hb⟩ => ⟨n, none, 0, 0, he, is_leaf _ _ _ _, hb⟩

/-- What lifter makes: it lifts by what lies in the block b. -/
abbrev LF (b : Nat) : Value := .func (.func 109) #[] #[.pointer (some ⟨b, 0, none⟩)]
def By (w : World) (b : Nat) (k : Int) : Prop := w.heap[b]? = some (.cells #[.int .i64 k] 3)
theorem By.lt {w : World} {b : Nat} {k : Int} (h : By w b k) : b < w.heap.size := (Array.getElem?_eq_some_iff.1 h).1
theorem By.later {w w' : World} {b : Nat} {k : Int} (h : By w b k) (hb : Below w.heap.size w w') : By w' b k := (hb.block b h.lt).trans h
theorem By.cell {w : World} {b : Nat} {k : Int} (h : By w b k) : w.cell? ⟨b, 0, none⟩ = some (.int .i64 k) := by rw [cell_of_row _ _ 0 _ 3 (0, 0) h]; rfl
theorem By.box {w : World} {b : Nat} {k : Int} (h : By w b k) {q : Nat} {n : Int} {p : Option Addr} {l c : Nat} (hq : Bx w q n p l c) (cs : Array Value) : By (w.setRow q cs) b k := by
  refine (setRow_other w q b cs (fun e => ?_)).trans h
  subst e
  have := Option.some.inj (h.symm.trans hq)
  simp at this
set_option maxRecDepth 100000 in
theorem lifter_any (k : Int) (w : World) : Calls Try.prog 94 #[.int .i64 k] w fun e w' => ∃ b, e = .returned (LF b) ∧ By w' b k ∧ Below w.heap.size w w' := by
  go_enter Try.func94, Try.ntmps94
  go_wp2
  go_ret
  exact ⟨w.heap.size, rfl, heap_alloc_last w _, (Below.refl _ _).alloc (Nat.le_refl _) _⟩

set_option maxRecDepth 100000 in
theorem lifted_any (n : Int) (p : Option Addr) (l c : Nat) (b : Nat) (k : Int) (w : World) (hk : By w b k) (h0 : -9223372036854775808 ≤ n + k) (h1 : n + k ≤ 9223372036854775807) :
    Calls Try.prog 109 #[TV n p l c, .pointer (some ⟨b, 0, none⟩)] w (Tells (TV (n + k) p l c) w) := by
  obtain ⟨hx, hy, hbel⟩ := two_box w n p l c 0 none 0 0 _ rfl
  have g0 := hx.cell0
  have gk := cell_later hbel hk.cell
  go_enter Try.func109, Try.ntmps109
  go_wp2
  obtain ⟨_, hz, hbel2⟩ := two_box w (n + k) p l c (n + k) p l c _ rfl
  exact bodyPost_ret (results_t rfl rfl hz) rfl ⟨rfl, hbel2⟩
theorem lifted_is {x : EV} (n : Int) (p : Option Addr) (l c : Nat) (b : Nat) (k : Int) (w : World) (hx : Is w x (TV n p l c)) (hk : By w b k) (h0 : -9223372036854775808 ≤ x.n + k) (h1 : x.n + k ≤ 9223372036854775807) :
    Calls Try.prog 109 #[TV n p l c, .pointer (some ⟨b, 0, none⟩)] w (Gives (lift x k) w) := by
  rw [← (is_parts hx).1] at h0 h1
  exact (lifted_any n p l c b k w hk h0 h1).mono fun e w' ⟨he, hb⟩ => ⟨_, _, _, _, he, is_lift k (hx.later hb), hb⟩

set_option maxRecDepth 100000 in
theorem isAtMost_any (a b : Int) (w : World) : Calls Try.prog 68 #[.int .i64 a, .int .i64 b] w (Tells (.bool (decide (a ≤ b))) w) := by
  go_enter Try.func68, Try.ntmps68
  go_wp2
  go_ret
  exact ⟨rfl, Below.refl _ _⟩
set_option maxRecDepth 100000 in
theorem and_any (a b : Bool) (w : World) : Calls Try.prog 69 #[.bool a, .bool b] w (Tells (.bool (a && b)) w) := by
  cases a
  · go_enter Try.func69, Try.ntmps69
    go_wp2
    go_ret
    exact ⟨rfl, Below.refl _ _⟩
  · go_enter Try.func69, Try.ntmps69
    go_wp2
    go_ret
    exact ⟨rfl, Below.refl _ _⟩
set_option maxRecDepth 100000 in
theorem greaterLeaf_any (a b : Int) (w : World) : Calls Try.prog 65 #[.int .i64 a, .int .i64 b] w (Gives (.leaf (max a b)) w) := by
  obtain ⟨h1, hbel⟩ := one_box w 0 none 0 0 _ rfl
  obtain ⟨z, HZ⟩ : ∃ z, Hid (max a b = z) := ⟨_, rfl⟩
  rw [HZ.out]
  by_cases hab : a < b
  · obtain rfl : b = z := by have := HZ.out; omega
    go_enter Try.func65, Try.ntmps65
    go_wp2_with fail
    refine (leaf_any b _).mono ?_
    rintro e w1 ⟨rfl, hb1⟩
    replace h1 := h1.later hb1
    replace hbel := below_on hbel hb1
    clear hb1
    go_wp2_with (refine store_t rfl _ _ rfl _ b none 0 0 rfl rfl h1 ?_)
    exact bodyPost_ret (results_t rfl rfl (h1.row b none 0 0)) rfl ⟨_, _, _, _, rfl, is_leaf _ _ _ _, below_setRow hbel (Nat.le_refl _) _⟩
  · obtain rfl : a = z := by have := HZ.out; omega
    go_enter Try.func65, Try.ntmps65
    go_wp2_with fail
    refine (leaf_any a _).mono ?_
    rintro e w1 ⟨rfl, hb1⟩
    replace h1 := h1.later hb1
    replace hbel := below_on hbel hb1
    clear hb1
    go_wp2_with (refine store_t rfl _ _ rfl _ a none 0 0 rfl rfl h1 ?_)
    exact bodyPost_ret (results_t rfl rfl (h1.row a none 0 0)) rfl ⟨_, _, _, _, rfl, is_leaf _ _ _ _, below_setRow hbel (Nat.le_refl _) _⟩

set_option maxRecDepth 100000 in
theorem refLift_any (n : Int) (p : Option Addr) (l c : Nat) (k : Int) (w : World) (h0 : -9223372036854775808 ≤ n + k) (h1 : n + k ≤ 9223372036854775807) :
    Calls Try.prog 108 #[TV n p l c, .int .i64 k] w (Tells (TV (n + k) p l c) w) := by
  obtain ⟨hx, hy, hbel⟩ := two_box w n p l c 0 none 0 0 _ rfl
  have g0 := hx.cell0
  have g1 := hx.cell1
  go_enter Try.func108, Try.ntmps108
  go_wp2_with (refine store_t rfl _ _ rfl _ (n + k) p l c rfl rfl hy ?_)
  exact bodyPost_ret (results_t rfl rfl (hy.row (n + k) p l c)) rfl ⟨rfl, below_setRow hbel (by omega) _⟩
theorem refLift_is {x : EV} (n : Int) (p : Option Addr) (l c : Nat) (k : Int) (w : World) (hx : Is w x (TV n p l c)) (h0 : -9223372036854775808 ≤ x.n + k) (h1 : x.n + k ≤ 9223372036854775807) :
    Calls Try.prog 108 #[TV n p l c, .int .i64 k] w (Gives (lift x k) w) := by
  rw [← (is_parts hx).1] at h0 h1
  exact (refLift_any n p l c k w h0 h1).mono fun e w' ⟨he, hb⟩ => ⟨_, _, _, _, he, is_lift k (hx.later hb), hb⟩

set_option maxHeartbeats 1000000 in
set_option maxRecDepth 100000 in
theorem inner_any (m : Int) (x y : EV) (n : Int) (p : Option Addr) (l c : Nat) (n' : Int) (p' : Option Addr) (l' c' : Nat) (w : World) (hx : Is w x (TV n p l c)) (hy : Is w y (TV n' p' l' c')) :
    Calls Try.prog 83 #[.int .i64 m, TV n p l c, TV n' p' l' c'] w (Gives (.node m x y) w) := by
  obtain ⟨b1, b2, b3, hbel⟩ := three_box w n p l c n' p' l' c' 0 none 0 0 _ rfl
  generalize hw0 : ((w.alloc (.cells #[.int .i64 n, .slice p l c] 24)).alloc (.cells #[.int .i64 n', .slice p' l' c'] 24)).alloc (.cells #[.int .i64 0, .slice none 0 0] 24) = w0 at b1 b2 b3 hbel
  obtain ⟨t1, t2, hb1⟩ := row_tats w0 n p l c n' p' l' c' _ rfl
  have b4 := b3.later hb1
  have hbel2 := below_on hbel hb1
  have R := below_setRow hbel2 (g := w.heap.size + 1 + 1) (by omega) #[.int .i64 m, .slice (some ⟨w0.heap.size, 0, none⟩) 2 2]
  have hI : Is ((w0.alloc (.cells #[.int .i64 n, .slice p l c, .int .i64 n', .slice p' l' c'] 24)).setRow (w.heap.size + 1 + 1) #[.int .i64 m, .slice (some ⟨w0.heap.size, 0, none⟩) 2 2]) (.node m x y) (TV m (some ⟨w0.heap.size, 0, none⟩) 2 2) :=
    ⟨w0.heap.size, 0, 2, n, p, l, c, n', p', l', c', rfl, t1.box_lo b4 t2 _, t2.box_hi b4 _, (hx.later hbel2).box b4 _, (hy.later hbel2).box b4 _⟩
  clear t1 t2 hx hy hbel hbel2 hb1
  go_enter Try.func83, Try.ntmps83
  go_wp2_with (first | rw [hw0] | refine load_t _ rfl rfl _ _ rfl b1.tat ?_ | refine load_t _ rfl rfl _ _ rfl b2.tat ?_ | refine store_t rfl _ _ rfl _ m (some ⟨w0.heap.size, 0, none⟩) 2 2 rfl rfl b4 ?_)
  exact bodyPost_ret (results_t rfl rfl (b4.row _ _ _ _)) rfl ⟨_, _, _, _, rfl, hI, R⟩

/-- As if a leaf had two of 0. -/
def k0 : EV → EV
  | ⟨_, .inl _⟩ => .leaf 0
  | ⟨_, .inr (x, _)⟩ => x
def k1 : EV → EV
  | ⟨_, .inl _⟩ => .leaf 0
  | ⟨_, .inr (_, y)⟩ => y
set_option maxHeartbeats 1000000 in
set_option maxRecDepth 100000 in
theorem kid0_any (x : EV) (n : Int) (p : Option Addr) (l c : Nat) (w : World) (hx : Is w x (TV n p l c)) : Calls Try.prog 98 #[TV n p l c, .int .i64 0] w (Gives (k0 x) w) := by
  obtain ⟨b1, b2, hbel⟩ := two_box w n p l c 0 none 0 0 _ rfl
  have g1 := b1.cell1
  rcases x with ⟨m, _ | ⟨x, y⟩⟩
  · obtain ⟨_, _, e⟩ := hx
    simp at e
    obtain ⟨rfl, rfl, rfl, rfl⟩ := e
    have R := below_setRow hbel (g := w.heap.size + 1) (by omega) #[.int .i64 0, .slice none 0 0]
    clear hbel
    go_enter Try.func98, Try.ntmps98
    go_wp2_with (refine store_t rfl _ _ rfl _ 0 none 0 0 rfl rfl b2 ?_)
    exact bodyPost_ret (results_t rfl rfl (b2.row _ _ _ _)) rfl ⟨_, _, _, _, rfl, is_leaf _ _ _ _, R⟩
  · obtain ⟨g, o, cc, n0, p0, l0, c0, n1, p1, l1, c1, e, t0, t1, hx, hy⟩ := hx
    simp at e
    obtain ⟨rfl, rfl, rfl, rfl⟩ := e
    replace t0 := t0.later hbel
    have R := below_setRow hbel (g := w.heap.size + 1) (by omega) #[.int .i64 n0, .slice p0 l0 c0]
    have hI := (hx.later hbel).box b2 #[.int .i64 n0, .slice p0 l0 c0]
    clear hx hy hbel t1
    go_enter Try.func98, Try.ntmps98
    go_wp2_with (first | refine load_t _ rfl rfl _ _ rfl t0 ?_ | refine store_t rfl _ _ rfl _ n0 p0 l0 c0 rfl rfl b2 ?_)
    exact bodyPost_ret (results_t rfl rfl (b2.row _ _ _ _)) rfl ⟨_, _, _, _, rfl, hI, R⟩
set_option maxHeartbeats 1000000 in
set_option maxRecDepth 100000 in
theorem kid1_any (x : EV) (n : Int) (p : Option Addr) (l c : Nat) (w : World) (hx : Is w x (TV n p l c)) : Calls Try.prog 98 #[TV n p l c, .int .i64 1] w (Gives (k1 x) w) := by
  obtain ⟨b1, b2, hbel⟩ := two_box w n p l c 0 none 0 0 _ rfl
  have g1 := b1.cell1
  rcases x with ⟨m, _ | ⟨x, y⟩⟩
  · obtain ⟨_, _, e⟩ := hx
    simp at e
    obtain ⟨rfl, rfl, rfl, rfl⟩ := e
    have R := below_setRow hbel (g := w.heap.size + 1) (by omega) #[.int .i64 0, .slice none 0 0]
    clear hbel
    go_enter Try.func98, Try.ntmps98
    go_wp2_with (refine store_t rfl _ _ rfl _ 0 none 0 0 rfl rfl b2 ?_)
    exact bodyPost_ret (results_t rfl rfl (b2.row _ _ _ _)) rfl ⟨_, _, _, _, rfl, is_leaf _ _ _ _, R⟩
  · obtain ⟨g, o, cc, n0, p0, l0, c0, n1, p1, l1, c1, e, t0, t1, hx, hy⟩ := hx
    simp at e
    obtain ⟨rfl, rfl, rfl, rfl⟩ := e
    replace t1 := t1.later hbel
    have R := below_setRow hbel (g := w.heap.size + 1) (by omega) #[.int .i64 n1, .slice p1 l1 c1]
    have hI := (hy.later hbel).box b2 #[.int .i64 n1, .slice p1 l1 c1]
    clear hx hy hbel t0
    go_enter Try.func98, Try.ntmps98
    go_wp2_with (first | refine load_t _ rfl rfl _ _ rfl t1 ?_ | refine store_t rfl _ _ rfl _ n1 p1 l1 c1 rfl rfl b2 ?_)
    exact bodyPost_ret (results_t rfl rfl (b2.row _ _ _ _)) rfl ⟨_, _, _, _, rfl, hI, R⟩
end Go.Proofs.Ytmcajjdijjcpkaa
/- A region that draws its order, by what holds when a set of its operations has come up: one step for each operation, whatever came up ahead of it. Operations without guards. Nothing of one program. -/
namespace Go.Proofs.Ytmcajjdijjcpkaa.Owed
open Go.RowKit

section
variable {P : Program} {ops : Array Oper} {Q : Exit → Act → World → Prop} {md : Region.Mode}

/-- Which have come up. -/
def upd (L : Nat → Bool) (i : Nat) : Nat → Bool := fun j => decide (j = i) || L j
theorem upd_self (L : Nat → Bool) (i : Nat) : upd L i i = true := by simp [upd]
theorem upd_ne (L : Nat → Bool) {i j : Nat} (h : j ≠ i) : upd L i j = L j := by simp [upd, h]
theorem upd_true {L : Nat → Bool} {i j : Nat} (h : upd L i j = true) : j = i ∨ L j = true := by simpa [upd] using h

def each (R : Nat → Oper → Prop) : Nat → List Oper → Prop
  | _, [] => True
  | k, o :: l => R k o ∧ each R (k + 1) l
theorem each_at {R : Nat → Oper → Prop} (l : List Oper) : ∀ (k i : Nat) (o : Oper), each R k l → l[i]? = some o → R (k + i) o := by
  induction l with
  | nil => intro k i o _ hi; simp at hi
  | cons x l ih =>
    intro k i o h hi
    cases i with
    | zero =>
      simp at hi
      subst hi
      exact h.1
    | succ i =>
      have := ih (k + 1) i o h.2 (by simpa using hi)
      rwa [show k + 1 + i = k + (i + 1) by omega] at this

/-- What an operation waits for comes ahead of it in the text. -/
def downB (md : Region.Mode) (l : List Oper) : Bool := l.zipIdx.all fun (o, i) => o.guard.isNone && o.after.all fun e => !Region.binds md e || decide (e.on < i)
theorem downB_spec {l : List Oper} (h : downB md l = true) {i : Nat} {o : Oper} (hi : l[i]? = some o) : o.guard = none ∧ ∀ e ∈ o.after, Region.binds md e = true → e.on < i := by
  have hm : (o, i) ∈ l.zipIdx := by
    rw [List.mem_zipIdx_iff_getElem?]
    exact hi
  have := List.all_eq_true.1 h _ hm
  simp only [Bool.and_eq_true, Option.isNone_iff_eq_none] at this
  exact ⟨this.1, fun e he hb => by have := Array.all_eq_true_iff_forall_mem.1 this.2 e he; simpa [hb] using this⟩

theorem ready_of_least {l : List Oper} (h : downB md l = true) {listed : Array Bool} (hs : listed.size = l.length) {n : Nat} (hn : n < l.length) (hun : listed.getD n true = false) : ∃ j, j ∈ Region.ready md l.toArray listed := by
  induction n using Nat.strongRecOn with
  | _ n ih =>
    by_cases hall : ∀ m, m < n → listed.getD m true = true
    · refine ⟨n, mem_ready.2 ⟨hun, l[n], by simp, fun e he hbd => ?_⟩⟩
      have hlt := (downB_spec h (List.getElem?_eq_getElem hn)).2 e he hbd
      have := hall e.on hlt
      have hb : e.on < listed.size := by omega
      simpa [hb] using this
    · simp only [Classical.not_forall] at hall
      obtain ⟨m, hm, hf⟩ := hall
      exact ih m hm (by omega) (by simpa using hf)

def left (listed : Array Bool) : Nat := listed.toList.count false
theorem left_set {listed : Array Bool} {i : Nat} (h : listed.getD i true = false) : left (listed.setIfInBounds i true) + 1 = left listed := by
  rcases Nat.lt_or_ge i listed.size with hlt | hge
  · have hv : listed.toList[i]'(by simpa using hlt) = false := by simpa [hlt] using h
    unfold left
    have hpos : 0 < listed.toList.count false := List.count_pos_iff.2 (hv ▸ List.getElem_mem _)
    rw [Array.toList_setIfInBounds, List.count_set (by simpa using hlt), hv, if_pos (show (false == false) = true from rfl), if_neg (by decide)]
    omega
  · simp [Array.getElem?_eq_none hge] at h

/-- The steps owed. -/
def Step (P : Program) (md : Region.Mode) (Q : Exit → Act → World → Prop) (I : (Nat → Bool) → Act → World → Prop) (i : Nat) (o : Oper) : Prop :=
  ∀ L a w, I L a w → L i = false → (∀ e ∈ o.after, Region.binds md e = true → L e.on = true) → o.wp P a w (fun a' w' => I (upd L i) a' w') Q

theorem wpAny_owed {l : List Oper} {I : (Nat → Bool) → Act → World → Prop} (hd : downB md l = true) (hI : ∀ L L' a w, (∀ i, i < l.length → L i = L' i) → I L a w → I L' a w) (hstep : each (Step P md Q I) 0 l)
    (hend : ∀ L a w, (∀ i, i < l.length → L i = true) → I L a w → Q .normal a w) :
    ∀ (fuel : Nat) (listed : Array Bool) (a : Act) (w : World), listed.size = l.length → left listed ≤ fuel → I (fun i => listed.getD i true) a w → wpAny P md l.toArray Q fuel listed a w := by
  have fin : ∀ (listed : Array Bool) (a : Act) (w : World), listed.size = l.length → Region.ready md l.toArray listed = [] → I (fun i => listed.getD i true) a w → Q .normal a w := fun listed a w hs hr h => by
    refine hend _ a w (fun i hi => ?_) h
    cases hv : listed.getD i true
    · obtain ⟨j, hj⟩ := ready_of_least (md := md) hd hs hi hv
      rw [hr] at hj
      cases hj
    · rfl
  intro fuel
  induction fuel with
  | zero =>
    intro listed a w hs hl h
    have hr : Region.ready md l.toArray listed = [] := by
      cases hr : Region.ready md l.toArray listed with
      | nil => rfl
      | cons i r =>
        have hun := (mem_ready.1 (show i ∈ Region.ready md l.toArray listed by rw [hr]; simp)).1
        have := left_set hun
        omega
    exact ⟨hr, fin listed a w hs hr h⟩
  | succ fuel ih =>
    intro listed a w hs hl h
    refine ⟨fun hr => fin listed a w hs hr h, fun i hi => ?_⟩
    obtain ⟨hun, o, ho, hall⟩ := mem_ready.1 hi
    have ho' : l[i]? = some o := by simpa using ho
    have hilt : i < l.length := (List.getElem?_eq_some_iff.1 ho').1
    have hg := (downB_spec hd ho').1
    have hst := each_at l 0 i o hstep ho'
    rw [Nat.zero_add] at hst
    unfold wpOp
    simp only [ho, Region.wanted, hg, if_true]
    refine .inl (Oper.wp_mono (fun a' w' h' => ?_) (hst (fun i => listed.getD i true) a w h hun (fun e he hb => ?_)))
    · refine ih _ a' w' (by simp [hs]) (by have := left_set hun; omega) (hI _ _ a' w' (fun j hj => ?_) h')
      by_cases hji : j = i
      · subst hji
        rw [upd_self]
        have : j < listed.size := by omega
        simp [this]
      · rw [upd_ne _ hji, getD_set_ne true (Ne.symm hji)]
    · have h1 := hall e he hb
      rcases Nat.lt_or_ge e.on listed.size with h' | h'
      · simpa [h'] using h1
      · simp [Array.getElem?_eq_none h'] at h1

theorem region {id : Nat} {a : Act} {w : World} {l : List Oper} (hm : P.follows .mixedOrders = true) (hd : downB .any l = true) (I : (Nat → Bool) → Act → World → Prop)
    (hI : ∀ L L' a w, (∀ i, i < l.length → L i = L' i) → I L a w → I L' a w) (h0 : ∀ L, (∀ i, i < l.length → L i = false) → I L a w.drew) (hstep : each (Step P .any Q I) 0 l)
    (hend : ∀ L a w, (∀ i, i < l.length → L i = true) → I L a w → Q .normal a w) : (Code.region id l.toArray true).wp P Q a w := by
  refine wp_region_any hm ?_
  have := wpAny_owed (md := .any) (Q := Q) hd hI hstep hend l.toArray.size (Array.replicate l.toArray.size false) a w.drew (by simp) (by simp [left]) (h0 _ (fun i hi => by simp [hi]))
  exact this

end
end Go.Proofs.Ytmcajjdijjcpkaa.Owed
