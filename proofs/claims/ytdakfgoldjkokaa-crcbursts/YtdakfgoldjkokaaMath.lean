/- The check sum of layer 2 as plain mathematics over the natural numbers: a step is linear over xor and can be undone, so that sealed bytes of which bits within 32 side by side are turned are sealed no more. No word of the program. -/
namespace Go.Proofs.Ytdakfgoldjkokaa.Crc

/-- One bit moved down. -/
def mv (x : Nat) : Nat := if x % 2 = 1 then x / 2 ^^^ 3988292384 else x / 2

/-- n bits moved down. -/
def mvs : Nat → Nat → Nat
  | 0, x => x
  | n + 1, x => mvs n (mv x)

/-- A byte taken in. -/
def stp (x c : Nat) : Nat := mvs 8 (x ^^^ c)

/-- Bytes taken in. -/
def run (x : Nat) (l : List UInt8) : Nat := l.foldl (fun x c => stp x c.toNat) x

/-- The sum. -/
def sm (l : List UInt8) : Nat := 4294967295 - run 4294967295 l

/-- Four bytes, the lowest first. -/
def le4 (s : Nat) : List UInt8 := [s.toUInt8, (s / 256).toUInt8, (s / 65536).toUInt8, (s / 16777216).toUInt8]

theorem le4_length (s : Nat) : (le4 s).length = 4 := rfl

theorem xor_mod2 (x y : Nat) : (x ^^^ y) % 2 = (x % 2 + y % 2) % 2 := by
  have h := Nat.testBit_xor x y 0
  simp only [Nat.testBit_zero] at h
  have hz := Nat.mod_two_eq_zero_or_one (x ^^^ y)
  rcases Nat.mod_two_eq_zero_or_one x with hx | hx <;> rcases Nat.mod_two_eq_zero_or_one y with hy | hy <;> rw [hx, hy] at h ⊢ <;> rcases hz with hz | hz <;> rw [hz] at h ⊢ <;> first | rfl | (exact absurd h (by decide))

theorem xor_same {a b c : Nat} (h : a ^^^ b = c) : a = c ^^^ b := by
  rw [← h, Nat.xor_assoc, Nat.xor_self, Nat.xor_zero]
theorem xor_none {a b : Nat} (h : a ^^^ b = 0) : a = b := by
  have := xor_same h
  rwa [Nat.zero_xor] at this

theorem xor_div2 (x y : Nat) : (x ^^^ y) / 2 = x / 2 ^^^ y / 2 := by
  apply Nat.eq_of_testBit_eq
  intro i
  simp [Nat.testBit_div_two, Nat.testBit_xor]

theorem mv_xor (x y : Nat) : mv (x ^^^ y) = mv x ^^^ mv y := by
  unfold mv
  rw [xor_mod2, xor_div2]
  rcases Nat.mod_two_eq_zero_or_one x with hx | hx <;> rcases Nat.mod_two_eq_zero_or_one y with hy | hy <;> simp only [hx, hy]
  · simp
  · simp [Nat.xor_assoc]
  · simp
    rw [Nat.xor_assoc, Nat.xor_comm (y / 2), ← Nat.xor_assoc]
  · simp
    rw [Nat.xor_assoc, ← Nat.xor_assoc 3988292384, Nat.xor_comm 3988292384 (y / 2), Nat.xor_assoc (y / 2), Nat.xor_self, Nat.xor_zero]

theorem mv_lt {x : Nat} (h : x < 4294967296) : mv x < 4294967296 := by
  unfold mv
  split
  · exact Nat.xor_lt_two_pow (n := 32) (by omega) (by omega)
  · omega

theorem mv_zero {x : Nat} (h : x < 4294967296) (h0 : mv x = 0) : x = 0 := by
  unfold mv at h0
  split at h0
  · have : x / 2 = 3988292384 := xor_none h0
    omega
  · omega

theorem mv_double (x : Nat) : mv (2 * x) = x := by
  unfold mv
  rw [if_neg (by omega)]
  omega

theorem mvs_xor (n x y : Nat) : mvs n (x ^^^ y) = mvs n x ^^^ mvs n y := by
  induction n generalizing x y with
  | zero => rfl
  | succ n ih => show mvs n (mv (x ^^^ y)) = _; rw [mv_xor, ih]; rfl

theorem mvs_lt (n : Nat) {x : Nat} (h : x < 4294967296) : mvs n x < 4294967296 := by
  induction n generalizing x with
  | zero => exact h
  | succ n ih => exact ih (mv_lt h)

theorem mvs_zero (n : Nat) {x : Nat} (h : x < 4294967296) (h0 : mvs n x = 0) : x = 0 := by
  induction n generalizing x with
  | zero => exact h0
  | succ n ih => exact mv_zero h (ih (mv_lt h) h0)

theorem mvs_nil (n : Nat) : mvs n 0 = 0 := by
  induction n with
  | zero => rfl
  | succ n ih => exact ih

theorem mvs_add (n m x : Nat) : mvs (n + m) x = mvs m (mvs n x) := by
  induction n generalizing x with
  | zero => rw [Nat.zero_add]; rfl
  | succ n ih => rw [Nat.succ_add]; exact ih (mv x)

theorem mvs_pow (n x : Nat) : mvs n (2 ^ n * x) = x := by
  induction n generalizing x with
  | zero => show 1 * x = x; omega
  | succ n ih =>
    show mvs n (mv (2 ^ (n + 1) * x)) = x
    have : 2 ^ (n + 1) * x = 2 * (2 ^ n * x) := by rw [Nat.pow_succ, Nat.mul_comm (2 ^ n) 2, Nat.mul_assoc]
    rw [this, mv_double, ih]

theorem mvs_inj (n : Nat) {x y : Nat} (hx : x < 4294967296) (hy : y < 4294967296) (h : mvs n x = mvs n y) : x = y := by
  have h1 : mvs n (x ^^^ y) = 0 := by rw [mvs_xor, h, Nat.xor_self]
  exact xor_none (mvs_zero n (Nat.xor_lt_two_pow (n := 32) hx hy) h1)

theorem stp_lt {x : Nat} (c : UInt8) (h : x < 4294967296) : stp x c.toNat < 4294967296 :=
  mvs_lt 8 (Nat.xor_lt_two_pow (n := 32) h (by have := c.toNat_lt; omega))

theorem run_lt (l : List UInt8) {x : Nat} (h : x < 4294967296) : run x l < 4294967296 := by
  induction l generalizing x with
  | nil => exact h
  | cons c l ih => exact ih (stp_lt c h)

theorem run_append (x : Nat) (a b : List UInt8) : run x (a ++ b) = run (run x a) b := by
  unfold run; rw [List.foldl_append]

theorem run_cons (x : Nat) (c : UInt8) (l : List UInt8) : run x (c :: l) = run (stp x c.toNat) l := rfl

theorem sm_lt (l : List UInt8) : sm l < 4294967296 := by unfold sm; omega

/-- The state behind bytes that are all taken in: the state ahead moves down by their bits. -/
theorem run_xor (l : List UInt8) (x y : Nat) : run (x ^^^ y) l = run x l ^^^ mvs (8 * l.length) y := by
  induction l generalizing x y with
  | nil => rfl
  | cons c l ih =>
    rw [run_cons, run_cons]
    have e : stp (x ^^^ y) c.toNat = stp x c.toNat ^^^ mvs 8 y := by
      unfold stp
      rw [Nat.xor_assoc, Nat.xor_comm y, ← Nat.xor_assoc, mvs_xor]
    rw [e, ih, ← mvs_add]
    congr 2
    simp only [List.length_cons]
    omega

/-- A byte that is xored with y. -/
theorem run_set (l : List UInt8) (x p : Nat) (y : UInt8) (hp : p < l.length) : run x (l.set p (l[p] ^^^ y)) = run x l ^^^ mvs (8 * (l.length - p)) y.toNat := by
  induction l generalizing x p with
  | nil => simp at hp
  | cons c l ih =>
    cases p with
    | zero =>
      show run (stp x (c ^^^ y).toNat) l = run (stp x c.toNat) l ^^^ _
      have e : stp x (c ^^^ y).toNat = stp x c.toNat ^^^ mvs 8 y.toNat := by
        unfold stp
        rw [UInt8.toNat_xor, ← Nat.xor_assoc, mvs_xor]
      rw [e, run_xor, ← mvs_add]
      congr 2
      simp only [List.length_cons]
      omega
    | succ p =>
      have hp' : p < l.length := by simpa using hp
      show run (stp x c.toNat) (l.set p (l[p] ^^^ y)) = run (stp x c.toNat) l ^^^ _
      rw [ih _ p hp']
      congr 2
      simp only [List.length_cons]
      omega

/-- Two parts of a number whose bits are apart. -/
theorem add_xor (n a b : Nat) (ha : a < 2 ^ n) : a + 2 ^ n * b = a ^^^ 2 ^ n * b := by
  apply Nat.eq_of_testBit_eq
  intro i
  rw [Nat.add_comm, Nat.testBit_xor, Nat.testBit_two_pow_mul_add b ha, Nat.testBit_two_pow_mul]
  by_cases h : i < n
  · simp [h, Nat.not_le.2 h]
  · have hh : n ≤ i := Nat.not_lt.1 h
    have : a.testBit i = false := Nat.testBit_lt_two_pow (Nat.lt_of_lt_of_le ha (Nat.pow_le_pow_right (by decide) hh))
    simp [h, hh, this]

theorem ofNat_mod (s : Nat) : s.toUInt8.toNat = s % 256 := by simp

/-- Four bytes taken in. -/
theorem run_le4 (x s : Nat) (hs : s < 4294967296) : run x (le4 s) = mvs 32 (x ^^^ s) := by
  show stp (stp (stp (stp x _) _) _) _ = _
  rw [ofNat_mod, ofNat_mod, ofNat_mod, ofNat_mod]
  unfold stp
  rw [mvs_xor 8 x, mvs_xor 8 (mvs 8 x ^^^ _), mvs_xor 8 (mvs 8 x), mvs_xor 8 (mvs 8 (mvs 8 x) ^^^ mvs 8 (mvs 8 (s % 256)) ^^^ _)]
  have e3 : s / 16777216 % 256 = s / 16777216 := by omega
  rw [e3]
  have d3 : s / 65536 = s / 65536 % 256 ^^^ 2 ^ 8 * (s / 16777216) := by
    rw [← add_xor 8 _ _ (Nat.mod_lt _ (by decide))]; omega
  have d2 : s / 256 = s / 256 % 256 ^^^ 2 ^ 8 * (s / 65536) := by
    rw [← add_xor 8 _ _ (Nat.mod_lt _ (by decide))]; omega
  have d1 : s = s % 256 ^^^ 2 ^ 8 * (s / 256) := by
    rw [← add_xor 8 _ _ (Nat.mod_lt _ (by decide))]; omega
  have k3 : mvs 8 (s / 65536) = mvs 8 (s / 65536 % 256) ^^^ s / 16777216 := by
    conv => lhs; rw [d3, mvs_xor, mvs_pow]
  have k2 : mvs 8 (s / 256) = mvs 8 (s / 256 % 256) ^^^ s / 65536 := by
    conv => lhs; rw [d2, mvs_xor, mvs_pow]
  have k1 : mvs 8 s = mvs 8 (s % 256) ^^^ s / 256 := by
    conv => lhs; rw [d1, mvs_xor, mvs_pow]
  have e32 : ∀ z, mvs 32 z = mvs 8 (mvs 8 (mvs 8 (mvs 8 z))) := fun z => by
    rw [← mvs_add, ← mvs_add, ← mvs_add]
  rw [e32, mvs_xor 8 x s, k1]
  simp only [mvs_xor, k2, k3, Nat.xor_assoc]

/-- The state that all sealed bytes lead to. -/
def fin : Nat := mvs 32 4294967295

theorem fin_lt : fin < 4294967296 := mvs_lt 32 (by decide)

theorem not_xor {r : Nat} (h : r < 4294967296) : r ^^^ (4294967295 - r) = 4294967295 := by
  have h1 : 4294967295 - r = 2 ^ 32 - (r + 1) := by omega
  apply Nat.eq_of_testBit_eq
  intro i
  rw [Nat.testBit_xor, h1, Nat.testBit_two_pow_sub_succ h]
  have e : (4294967295 : Nat) = 2 ^ 32 - 1 := by decide
  rw [e, Nat.testBit_two_pow_sub_one]
  by_cases hi : i < 32
  · simp [hi]
  · have : r.testBit i = false := Nat.testBit_lt_two_pow (Nat.lt_of_lt_of_le h (show 2 ^ 32 ≤ 2 ^ i from Nat.pow_le_pow_right (by decide) (Nat.not_lt.1 hi)))
    simp [hi, this]

theorem run_seal (l : List UInt8) : run 4294967295 (l ++ le4 (sm l)) = fin := by
  rw [run_append, run_le4 _ _ (sm_lt l)]
  unfold sm fin
  rw [not_xor (run_lt l (by decide))]

/-- Four bytes are those of a number. -/
theorem le4_of (a b c d : UInt8) : [a, b, c, d] = le4 (a.toNat + 256 * b.toNat + 65536 * c.toNat + 16777216 * d.toNat) ∧ a.toNat + 256 * b.toNat + 65536 * c.toNat + 16777216 * d.toNat < 4294967296 := by
  have ha := a.toNat_lt
  have hb := b.toNat_lt
  have hc := c.toNat_lt
  have hd := d.toNat_lt
  refine ⟨?_, by omega⟩
  unfold le4
  have : ∀ (x : UInt8) (n : Nat), n % 256 = x.toNat → x = n.toUInt8 := fun x n h => by
    apply UInt8.toNat_inj.1
    rw [ofNat_mod, h]
  rw [← this a _ (by omega), ← this b _ (by omega), ← this c _ (by omega), ← this d _ (by omega)]

/-- SEALED: the last four bytes are the sum of those ahead. -/
def sealed (l : List UInt8) : Bool := l.drop (l.length - 4) == le4 (sm (l.take (l.length - 4)))

theorem sealed_iff (l : List UInt8) (h : 4 ≤ l.length) : sealed l = true ↔ run 4294967295 l = fin := by
  have hsplit : l.take (l.length - 4) ++ l.drop (l.length - 4) = l := List.take_append_drop _ _
  constructor
  · intro hs
    have hs' : l.drop (l.length - 4) = le4 (sm (l.take (l.length - 4))) := by simpa [sealed] using hs
    rw [hs'] at hsplit
    rw [← hsplit]
    exact run_seal _
  · intro hr
    have hlen : (l.drop (l.length - 4)).length = 4 := by rw [List.length_drop]; omega
    generalize hq : l.drop (l.length - 4) = q at hlen hsplit
    match q, hlen with
    | [a, b, c, d], _ =>
      obtain ⟨e, hlt⟩ := le4_of a b c d
      generalize a.toNat + 256 * b.toNat + 65536 * c.toNat + 16777216 * d.toNat = s at e hlt
      rw [e] at hsplit hq
      rw [← hsplit, run_append, run_le4 _ _ hlt] at hr
      have hlt2 := run_lt (l.take (l.length - 4)) (x := 4294967295) (by decide)
      have h2 := mvs_inj 32 (Nat.xor_lt_two_pow (n := 32) hlt2 hlt) (by decide) hr
      have h3 : s = sm (l.take (l.length - 4)) := by
        have h4 := not_xor hlt2
        rw [Nat.xor_comm] at h2 h4
        rw [xor_same h2]
        exact (xor_same h4).symm
      unfold sealed
      rw [hq, h3]
      exact beq_self_eq_true _

theorem sealed_seal (l : List UInt8) : sealed (l ++ le4 (sm l)) = true :=
  (sealed_iff _ (by rw [List.length_append, le4_length]; omega)).2 (run_seal l)

/-- What is sealed, and another state: not sealed. -/
theorem sealed_not (l : List UInt8) (h : 4 ≤ l.length) (n y : Nat) (hy : y < 4294967296) (h0 : y ≠ 0) (hr : run 4294967295 l = fin ^^^ mvs n y) : sealed l = false := by
  cases hs : sealed l with
  | false => rfl
  | true =>
    exfalso
    apply h0
    rw [(sealed_iff l h).1 hs] at hr
    apply mvs_zero n hy
    have : fin ^^^ (fin ^^^ mvs n y) = 0 := by rw [← hr, Nat.xor_self]
    rwa [← Nat.xor_assoc, Nat.xor_self, Nat.zero_xor] at this

/-- A bit that is turned, as the bits of the burst. -/
theorem turn_bit (N j f i : Nat) (hj : j = f + i) (hN : j < 8 * N) : mvs (8 * (N - j / 8)) (2 ^ (j % 8)) = mvs (8 * N - f) (2 ^ i) := by
  have h1 : 8 * (N - j / 8) = j % 8 + (8 * N - j) := by omega
  have h2 : 8 * N - f = i + (8 * N - j) := by omega
  have a := mvs_pow (j % 8) 1
  have b := mvs_pow i 1
  rw [Nat.mul_one] at a b
  rw [h1, h2, mvs_add, mvs_add, a, b]

theorem mod_bit (b i : Nat) : b % 2 ^ (i + 1) = b % 2 ^ i ^^^ (if b / 2 ^ i % 2 = 1 then 2 ^ i else 0) := by
  have h1 : b % 2 ^ (i + 1) = b % 2 ^ i + 2 ^ i * (b / 2 ^ i % 2) := by rw [Nat.pow_succ, Nat.mod_mul]
  rw [h1, add_xor i _ _ (Nat.mod_lt _ (Nat.pow_pos (by decide)))]
  rcases Nat.mod_two_eq_zero_or_one (b / 2 ^ i) with h | h <;> simp [h]

end Go.Proofs.Ytdakfgoldjkokaa.Crc
