/- The walk of VecMissing. -/
import Derived.Test.YtbeehmcoeblbcaaBounds
import Derived.Test.YtbeehmcoeblbcaaRefCheck
namespace Go.Proofs.Ytbeehmcoeblbcaa
open Go.RowKit

theorem two_boxes (a b : List Int) (w : World) (ha : a.length = 13) (hb : b.length = 13) : ∀ w0, w0 = (w.alloc (.cells (vals a).toArray 23)).alloc (.cells (vals b).toArray 23) →
    At w0 w.heap.size a ∧ At w0 (w.heap.size + 1) b ∧ Below w.heap.size w w0 := by
  rintro w0 rfl
  exact ⟨(at_new w a ha).alloc _, at_next _ (by simp) b hb, ((Below.refl _ _).alloc (Nat.le_refl _) _).alloc (by simp) _⟩

set_option maxHeartbeats 2000000 in
set_option maxRecDepth 100000 in
theorem missing_no (a b : List Int) (w : World) (ha : a.length = 13) (hb : b.length = 13) (hc : ¬ (chk a = true ∧ chk b = true)) :
    Calls Try.prog 7 #[V a, V b] w fun e w' => e = .returned (.bool true) ∧ Below w.heap.size w w' := by
  have hCA := fun w1 => refCheck_any a w1 ha
  have hCB := fun w1 => refCheck_any b w1 hb
  obtain ⟨h1, h2, hbel⟩ := two_boxes a b w ha hb _ rfl
  have hcase : chk a = false ∨ (chk a = true ∧ chk b = false) := by
    cases e : chk a
    · exact .inl rfl
    · cases e2 : chk b
      · exact .inr ⟨rfl, rfl⟩
      · exact absurd ⟨e, e2⟩ hc
  clear ha hb hc
  generalize chk a = x at *
  generalize chk b = y at *
  go_enter Try.func7, Try.ntmps7
  go_wp2_with (first | refine load_atg _ rfl rfl _ rfl h1 ?_ | refine load_atg _ rfl rfl _ rfl h2 ?_)
  refine (hCA _).mono ?_
  rintro e w1 ⟨rfl, hb1⟩
  replace h2 := h2.later hb1
  replace hbel := below_on hbel hb1
  clear hb1 h1
  rcases hcase with rfl | ⟨rfl, rfl⟩
  · go_wp2_with fail
    refine (heads_any _).mono ?_
    rintro e w2 ⟨rfl, hb2⟩
    go_wp2
    go_ret
    exact ⟨rfl, below_on hbel hb2⟩
  · go_wp2_with (refine load_atg _ rfl rfl _ rfl h2 ?_)
    refine (hCB _).mono ?_
    rintro e w2 ⟨rfl, hb2⟩
    replace hbel := below_on hbel hb2
    go_wp2_with fail
    refine (heads_any _).mono ?_
    rintro e w3 ⟨rfl, hb3⟩
    go_wp2
    go_ret
    exact ⟨rfl, below_on hbel hb3⟩

/-- What holds behind the operations of L of the region that adds a dot. -/
def MI (w3 : World) (v y : List Int) (lv : Value) (k : Nat) (g o : Nat) (p s : Int) (N : Nat) (L : Nat → Bool) (x8 x9 x29 x30 x31 x32 x33 x34 x35 x36 x37 : Value) (w' : World) : Prop :=
  (Below w3.heap.size w3 w' ∧ At w' w3.heap.size v ∧ N ≤ w'.heap.size) ∧ (L 0 = true → x30 = V v) ∧ (L 1 = true → x31 = lv) ∧ (L 2 = true → x32 = .int .i64 k) ∧ (L 3 = true → x33 = .pointer (some ⟨g, o, none⟩)) ∧ (L 4 = true → x34 = D p s) ∧ (L 5 = true → x35 = .tuple #[V y, .int .i64 0]) ∧ (L 6 = true → x29 = .tuple #[V y, .int .i64 0]) ∧ (L 7 = true → x36 = V y) ∧ (L 8 = true → x37 = .int .i64 0) ∧ (L 11 = true → x9 = .int .i64 0) ∧
  (L 9 = true → Blk w' x8 N (if L 10 = true then y else zeros)) ∧ (L 10 = true → L 9 = true)

section
variable {w3 w' w'' : World} {v y : List Int} {lv : Value} {k g o : Nat} {p s : Int} {N : Nat} {L : Nat → Bool} {x8 x9 x29 x30 x31 x32 x33 x34 x35 x36 x37 : Value}
theorem MI.later (h : MI w3 v y lv k g o p s N L x8 x9 x29 x30 x31 x32 x33 x34 x35 x36 x37 w') (hb : Below w'.heap.size w' w'') : MI w3 v y lv k g o p s N L x8 x9 x29 x30 x31 x32 x33 x34 x35 x36 x37 w'' := by
  obtain ⟨hS, h0, h1, h2, h3, h4, h5, h6, h7, h8, h11, h9, h10⟩ := h
  exact ⟨⟨hS.1.trans (hb.mono (by have := hS.1.size; omega)), hS.2.1.later hb, Nat.le_trans hS.2.2 hb.size⟩, h0, h1, h2, h3, h4, h5, h6, h7, h8, h11, fun e => (h9 e).later hb, h10⟩
theorem MI.congr {L' : Nat → Bool} (hL : ∀ i, i < 12 → L i = L' i) (h : MI w3 v y lv k g o p s N L x8 x9 x29 x30 x31 x32 x33 x34 x35 x36 x37 w') : MI w3 v y lv k g o p s N L' x8 x9 x29 x30 x31 x32 x33 x34 x35 x36 x37 w' := by
  unfold MI at *
  rw [hL 0 (by decide), hL 1 (by decide), hL 2 (by decide), hL 3 (by decide), hL 4 (by decide), hL 5 (by decide), hL 6 (by decide), hL 7 (by decide), hL 8 (by decide), hL 9 (by decide), hL 10 (by decide), hL 11 (by decide)] at h
  exact h
theorem MI.v0 (h : MI w3 v y lv k g o p s N L x8 x9 x29 x30 x31 x32 x33 x34 x35 x36 x37 w') : MI w3 v y lv k g o p s N (Owed.upd L 0) x8 x9 x29 (V v) x31 x32 x33 x34 x35 x36 x37 w' := by
  obtain ⟨hS, h0, h1, h2, h3, h4, h5, h6, h7, h8, h11, h9, h10⟩ := h
  refine ⟨hS, fun _ => rfl, fun e => h1 (by rwa [Owed.upd_ne L (by decide)] at e), fun e => h2 (by rwa [Owed.upd_ne L (by decide)] at e), fun e => h3 (by rwa [Owed.upd_ne L (by decide)] at e), fun e => h4 (by rwa [Owed.upd_ne L (by decide)] at e), fun e => h5 (by rwa [Owed.upd_ne L (by decide)] at e), fun e => h6 (by rwa [Owed.upd_ne L (by decide)] at e), fun e => h7 (by rwa [Owed.upd_ne L (by decide)] at e), fun e => h8 (by rwa [Owed.upd_ne L (by decide)] at e), fun e => h11 (by rwa [Owed.upd_ne L (by decide)] at e), ?_, ?_⟩
  all_goals rw [Owed.upd_ne L (by decide), Owed.upd_ne L (by decide)]
  · exact h9
  · exact h10
theorem MI.v1 (h : MI w3 v y lv k g o p s N L x8 x9 x29 x30 x31 x32 x33 x34 x35 x36 x37 w') : MI w3 v y lv k g o p s N (Owed.upd L 1) x8 x9 x29 x30 (lv) x32 x33 x34 x35 x36 x37 w' := by
  obtain ⟨hS, h0, h1, h2, h3, h4, h5, h6, h7, h8, h11, h9, h10⟩ := h
  refine ⟨hS, fun e => h0 (by rwa [Owed.upd_ne L (by decide)] at e), fun _ => rfl, fun e => h2 (by rwa [Owed.upd_ne L (by decide)] at e), fun e => h3 (by rwa [Owed.upd_ne L (by decide)] at e), fun e => h4 (by rwa [Owed.upd_ne L (by decide)] at e), fun e => h5 (by rwa [Owed.upd_ne L (by decide)] at e), fun e => h6 (by rwa [Owed.upd_ne L (by decide)] at e), fun e => h7 (by rwa [Owed.upd_ne L (by decide)] at e), fun e => h8 (by rwa [Owed.upd_ne L (by decide)] at e), fun e => h11 (by rwa [Owed.upd_ne L (by decide)] at e), ?_, ?_⟩
  all_goals rw [Owed.upd_ne L (by decide), Owed.upd_ne L (by decide)]
  · exact h9
  · exact h10
theorem MI.v2 (h : MI w3 v y lv k g o p s N L x8 x9 x29 x30 x31 x32 x33 x34 x35 x36 x37 w') : MI w3 v y lv k g o p s N (Owed.upd L 2) x8 x9 x29 x30 x31 (.int .i64 k) x33 x34 x35 x36 x37 w' := by
  obtain ⟨hS, h0, h1, h2, h3, h4, h5, h6, h7, h8, h11, h9, h10⟩ := h
  refine ⟨hS, fun e => h0 (by rwa [Owed.upd_ne L (by decide)] at e), fun e => h1 (by rwa [Owed.upd_ne L (by decide)] at e), fun _ => rfl, fun e => h3 (by rwa [Owed.upd_ne L (by decide)] at e), fun e => h4 (by rwa [Owed.upd_ne L (by decide)] at e), fun e => h5 (by rwa [Owed.upd_ne L (by decide)] at e), fun e => h6 (by rwa [Owed.upd_ne L (by decide)] at e), fun e => h7 (by rwa [Owed.upd_ne L (by decide)] at e), fun e => h8 (by rwa [Owed.upd_ne L (by decide)] at e), fun e => h11 (by rwa [Owed.upd_ne L (by decide)] at e), ?_, ?_⟩
  all_goals rw [Owed.upd_ne L (by decide), Owed.upd_ne L (by decide)]
  · exact h9
  · exact h10
theorem MI.v3 (h : MI w3 v y lv k g o p s N L x8 x9 x29 x30 x31 x32 x33 x34 x35 x36 x37 w') : MI w3 v y lv k g o p s N (Owed.upd L 3) x8 x9 x29 x30 x31 x32 (.pointer (some ⟨g, o, none⟩)) x34 x35 x36 x37 w' := by
  obtain ⟨hS, h0, h1, h2, h3, h4, h5, h6, h7, h8, h11, h9, h10⟩ := h
  refine ⟨hS, fun e => h0 (by rwa [Owed.upd_ne L (by decide)] at e), fun e => h1 (by rwa [Owed.upd_ne L (by decide)] at e), fun e => h2 (by rwa [Owed.upd_ne L (by decide)] at e), fun _ => rfl, fun e => h4 (by rwa [Owed.upd_ne L (by decide)] at e), fun e => h5 (by rwa [Owed.upd_ne L (by decide)] at e), fun e => h6 (by rwa [Owed.upd_ne L (by decide)] at e), fun e => h7 (by rwa [Owed.upd_ne L (by decide)] at e), fun e => h8 (by rwa [Owed.upd_ne L (by decide)] at e), fun e => h11 (by rwa [Owed.upd_ne L (by decide)] at e), ?_, ?_⟩
  all_goals rw [Owed.upd_ne L (by decide), Owed.upd_ne L (by decide)]
  · exact h9
  · exact h10
theorem MI.v4 (h : MI w3 v y lv k g o p s N L x8 x9 x29 x30 x31 x32 x33 x34 x35 x36 x37 w') : MI w3 v y lv k g o p s N (Owed.upd L 4) x8 x9 x29 x30 x31 x32 x33 (D p s) x35 x36 x37 w' := by
  obtain ⟨hS, h0, h1, h2, h3, h4, h5, h6, h7, h8, h11, h9, h10⟩ := h
  refine ⟨hS, fun e => h0 (by rwa [Owed.upd_ne L (by decide)] at e), fun e => h1 (by rwa [Owed.upd_ne L (by decide)] at e), fun e => h2 (by rwa [Owed.upd_ne L (by decide)] at e), fun e => h3 (by rwa [Owed.upd_ne L (by decide)] at e), fun _ => rfl, fun e => h5 (by rwa [Owed.upd_ne L (by decide)] at e), fun e => h6 (by rwa [Owed.upd_ne L (by decide)] at e), fun e => h7 (by rwa [Owed.upd_ne L (by decide)] at e), fun e => h8 (by rwa [Owed.upd_ne L (by decide)] at e), fun e => h11 (by rwa [Owed.upd_ne L (by decide)] at e), ?_, ?_⟩
  all_goals rw [Owed.upd_ne L (by decide), Owed.upd_ne L (by decide)]
  · exact h9
  · exact h10
theorem MI.v5 (h : MI w3 v y lv k g o p s N L x8 x9 x29 x30 x31 x32 x33 x34 x35 x36 x37 w') : MI w3 v y lv k g o p s N (Owed.upd L 5) x8 x9 x29 x30 x31 x32 x33 x34 (.tuple #[V y, .int .i64 0]) x36 x37 w' := by
  obtain ⟨hS, h0, h1, h2, h3, h4, h5, h6, h7, h8, h11, h9, h10⟩ := h
  refine ⟨hS, fun e => h0 (by rwa [Owed.upd_ne L (by decide)] at e), fun e => h1 (by rwa [Owed.upd_ne L (by decide)] at e), fun e => h2 (by rwa [Owed.upd_ne L (by decide)] at e), fun e => h3 (by rwa [Owed.upd_ne L (by decide)] at e), fun e => h4 (by rwa [Owed.upd_ne L (by decide)] at e), fun _ => rfl, fun e => h6 (by rwa [Owed.upd_ne L (by decide)] at e), fun e => h7 (by rwa [Owed.upd_ne L (by decide)] at e), fun e => h8 (by rwa [Owed.upd_ne L (by decide)] at e), fun e => h11 (by rwa [Owed.upd_ne L (by decide)] at e), ?_, ?_⟩
  all_goals rw [Owed.upd_ne L (by decide), Owed.upd_ne L (by decide)]
  · exact h9
  · exact h10
theorem MI.v6 (h : MI w3 v y lv k g o p s N L x8 x9 x29 x30 x31 x32 x33 x34 x35 x36 x37 w') : MI w3 v y lv k g o p s N (Owed.upd L 6) x8 x9 (.tuple #[V y, .int .i64 0]) x30 x31 x32 x33 x34 x35 x36 x37 w' := by
  obtain ⟨hS, h0, h1, h2, h3, h4, h5, h6, h7, h8, h11, h9, h10⟩ := h
  refine ⟨hS, fun e => h0 (by rwa [Owed.upd_ne L (by decide)] at e), fun e => h1 (by rwa [Owed.upd_ne L (by decide)] at e), fun e => h2 (by rwa [Owed.upd_ne L (by decide)] at e), fun e => h3 (by rwa [Owed.upd_ne L (by decide)] at e), fun e => h4 (by rwa [Owed.upd_ne L (by decide)] at e), fun e => h5 (by rwa [Owed.upd_ne L (by decide)] at e), fun _ => rfl, fun e => h7 (by rwa [Owed.upd_ne L (by decide)] at e), fun e => h8 (by rwa [Owed.upd_ne L (by decide)] at e), fun e => h11 (by rwa [Owed.upd_ne L (by decide)] at e), ?_, ?_⟩
  all_goals rw [Owed.upd_ne L (by decide), Owed.upd_ne L (by decide)]
  · exact h9
  · exact h10
theorem MI.v7 (h : MI w3 v y lv k g o p s N L x8 x9 x29 x30 x31 x32 x33 x34 x35 x36 x37 w') : MI w3 v y lv k g o p s N (Owed.upd L 7) x8 x9 x29 x30 x31 x32 x33 x34 x35 (V y) x37 w' := by
  obtain ⟨hS, h0, h1, h2, h3, h4, h5, h6, h7, h8, h11, h9, h10⟩ := h
  refine ⟨hS, fun e => h0 (by rwa [Owed.upd_ne L (by decide)] at e), fun e => h1 (by rwa [Owed.upd_ne L (by decide)] at e), fun e => h2 (by rwa [Owed.upd_ne L (by decide)] at e), fun e => h3 (by rwa [Owed.upd_ne L (by decide)] at e), fun e => h4 (by rwa [Owed.upd_ne L (by decide)] at e), fun e => h5 (by rwa [Owed.upd_ne L (by decide)] at e), fun e => h6 (by rwa [Owed.upd_ne L (by decide)] at e), fun _ => rfl, fun e => h8 (by rwa [Owed.upd_ne L (by decide)] at e), fun e => h11 (by rwa [Owed.upd_ne L (by decide)] at e), ?_, ?_⟩
  all_goals rw [Owed.upd_ne L (by decide), Owed.upd_ne L (by decide)]
  · exact h9
  · exact h10
theorem MI.v8 (h : MI w3 v y lv k g o p s N L x8 x9 x29 x30 x31 x32 x33 x34 x35 x36 x37 w') : MI w3 v y lv k g o p s N (Owed.upd L 8) x8 x9 x29 x30 x31 x32 x33 x34 x35 x36 (.int .i64 0) w' := by
  obtain ⟨hS, h0, h1, h2, h3, h4, h5, h6, h7, h8, h11, h9, h10⟩ := h
  refine ⟨hS, fun e => h0 (by rwa [Owed.upd_ne L (by decide)] at e), fun e => h1 (by rwa [Owed.upd_ne L (by decide)] at e), fun e => h2 (by rwa [Owed.upd_ne L (by decide)] at e), fun e => h3 (by rwa [Owed.upd_ne L (by decide)] at e), fun e => h4 (by rwa [Owed.upd_ne L (by decide)] at e), fun e => h5 (by rwa [Owed.upd_ne L (by decide)] at e), fun e => h6 (by rwa [Owed.upd_ne L (by decide)] at e), fun e => h7 (by rwa [Owed.upd_ne L (by decide)] at e), fun _ => rfl, fun e => h11 (by rwa [Owed.upd_ne L (by decide)] at e), ?_, ?_⟩
  all_goals rw [Owed.upd_ne L (by decide), Owed.upd_ne L (by decide)]
  · exact h9
  · exact h10
theorem MI.v11 (h : MI w3 v y lv k g o p s N L x8 x9 x29 x30 x31 x32 x33 x34 x35 x36 x37 w') : MI w3 v y lv k g o p s N (Owed.upd L 11) x8 (.int .i64 0) x29 x30 x31 x32 x33 x34 x35 x36 x37 w' := by
  obtain ⟨hS, h0, h1, h2, h3, h4, h5, h6, h7, h8, h11, h9, h10⟩ := h
  refine ⟨hS, fun e => h0 (by rwa [Owed.upd_ne L (by decide)] at e), fun e => h1 (by rwa [Owed.upd_ne L (by decide)] at e), fun e => h2 (by rwa [Owed.upd_ne L (by decide)] at e), fun e => h3 (by rwa [Owed.upd_ne L (by decide)] at e), fun e => h4 (by rwa [Owed.upd_ne L (by decide)] at e), fun e => h5 (by rwa [Owed.upd_ne L (by decide)] at e), fun e => h6 (by rwa [Owed.upd_ne L (by decide)] at e), fun e => h7 (by rwa [Owed.upd_ne L (by decide)] at e), fun e => h8 (by rwa [Owed.upd_ne L (by decide)] at e), fun _ => rfl, ?_, ?_⟩
  all_goals rw [Owed.upd_ne L (by decide), Owed.upd_ne L (by decide)]
  · exact h9
  · exact h10
theorem MI.v9 (h : MI w3 v y lv k g o p s N L x8 x9 x29 x30 x31 x32 x33 x34 x35 x36 x37 w') (hL : L 9 = false) : MI w3 v y lv k g o p s N (Owed.upd L 9) (.pointer (some ⟨w'.heap.size, 0, none⟩)) x9 x29 x30 x31 x32 x33 x34 x35 x36 x37 (w'.alloc (.cells (vals zeros).toArray 23)) := by
  have hN := h.1.2.2
  obtain ⟨hS, h0, h1, h2, h3, h4, h5, h6, h7, h8, h11, h9, h10⟩ := h.later ((Below.refl _ _).alloc (Nat.le_refl _) (.cells (vals zeros).toArray 23))
  have e10 : L 10 = false := by
    cases e : L 10
    · rfl
    · have := h10 e
      rw [hL] at this; cases this
  refine ⟨hS, fun e => h0 (by rwa [Owed.upd_ne L (by decide)] at e), fun e => h1 (by rwa [Owed.upd_ne L (by decide)] at e), fun e => h2 (by rwa [Owed.upd_ne L (by decide)] at e), fun e => h3 (by rwa [Owed.upd_ne L (by decide)] at e), fun e => h4 (by rwa [Owed.upd_ne L (by decide)] at e), fun e => h5 (by rwa [Owed.upd_ne L (by decide)] at e), fun e => h6 (by rwa [Owed.upd_ne L (by decide)] at e), fun e => h7 (by rwa [Owed.upd_ne L (by decide)] at e), fun e => h8 (by rwa [Owed.upd_ne L (by decide)] at e), fun e => h11 (by rwa [Owed.upd_ne L (by decide)] at e), ?_, ?_⟩
  · rw [Owed.upd_ne L (show 10 ≠ 9 by decide), e10]
    exact fun _ => ⟨w'.heap.size, rfl, hN, at_new w' zeros rfl⟩
  · rw [Owed.upd_ne L (show 10 ≠ 9 by decide), e10]
    exact fun e => by cases e
theorem MI.v10 (h : MI w3 v y lv k g o p s N L x8 x9 x29 x30 x31 x32 x33 x34 x35 x36 x37 w') (hN : w3.heap.size < N) (h13 : y.length = 13) (e9 : L 9 = true) {q : Nat} (hq : x8 = .pointer (some ⟨q, 0, none⟩)) (hNq : N ≤ q) {l : List Int} (ha : At w' q l) : MI w3 v y lv k g o p s N (Owed.upd L 10) x8 x9 x29 x30 x31 x32 x33 x34 x35 x36 x37 (w'.setRow q (vals y).toArray) := by
  obtain ⟨hS, h0, h1, h2, h3, h4, h5, h6, h7, h8, h11, h9, h10⟩ := h
  refine ⟨⟨below_setRow hS.1 (by omega) _, hS.2.1.rowOther (by omega) _, by rw [setRow_size]; exact hS.2.2⟩, fun e => h0 (by rwa [Owed.upd_ne L (by decide)] at e), fun e => h1 (by rwa [Owed.upd_ne L (by decide)] at e), fun e => h2 (by rwa [Owed.upd_ne L (by decide)] at e), fun e => h3 (by rwa [Owed.upd_ne L (by decide)] at e), fun e => h4 (by rwa [Owed.upd_ne L (by decide)] at e), fun e => h5 (by rwa [Owed.upd_ne L (by decide)] at e), fun e => h6 (by rwa [Owed.upd_ne L (by decide)] at e), fun e => h7 (by rwa [Owed.upd_ne L (by decide)] at e), fun e => h8 (by rwa [Owed.upd_ne L (by decide)] at e), fun e => h11 (by rwa [Owed.upd_ne L (by decide)] at e), ?_, ?_⟩
  · rw [Owed.upd_self]
    exact fun _ => ⟨q, hq, hNq, ha.row h13⟩
  · rw [Owed.upd_ne L (show 9 ≠ 10 by decide)]
    exact fun _ => e9
end

theorem wp_pure {op : Oper} {a : Act} {w : World} {K : Act → World → Prop} {Q : Exit → Act → World → Prop} {v : Value} (hv : (execOp a.eval op).run Try.prog w = .ok (.value v) w) (h : K (a.put op.dst v) w) : op.wp Try.prog a w K Q := by
  unfold Oper.wp
  rw [hv]
  exact h
theorem wp_load_dot {op : Oper} {a : Act} {w : World} {K : Act → World → Prop} {Q : Exit → Act → World → Prop} (x : Operand) (ho : op.op = .load 25 x) (b f : Nat) (hx : a.eval x = .pointer (some ⟨b, f, none⟩)) {p s : Int} (hc : DotAt w b f p s)
    (h : K (a.put op.dst (D p s)) w) : op.wp Try.prog a w K Q := by
  unfold Oper.wp execOp
  simp only [ho, hx, Sem.run_bind, hc.load, Result.andThen_ok, Sem.run_pure]
  exact h

set_option maxHeartbeats 4000000 in
set_option maxRecDepth 100000 in
theorem missing_walk (a b : List Int) (w : World) (ha : a.length = 13) (hb : b.length = 13) (hca : chk a = true) (hcb : chk b = true) :
    Calls Try.prog 7 #[V a, V b] w fun e w' => e = .returned (.bool true) ∧ Below w.heap.size w w' := by
  have hCA := fun w1 => refCheck_any a w1 ha
  have hCB := fun w1 => refCheck_any b w1 hb
  have hCM := fun w1 => missing_ok a b w1 ha hb hca hcb
  rw [hca] at hCA
  rw [hcb] at hCB
  obtain ⟨h1, h2, hbel⟩ := two_boxes a b w ha hb _ rfl
  go_enter Try.func7, Try.ntmps7
  go_wp2_with (first | refine load_atg _ rfl rfl _ rfl h1 ?_ | refine load_atg _ rfl rfl _ rfl h2 ?_)
  refine (hCA _).mono ?_
  rintro e w1 ⟨rfl, hb1⟩
  replace h1 := h1.later hb1
  replace h2 := h2.later hb1
  replace hbel := below_on hbel hb1
  clear hb1 hCA
  go_wp2_with (first | refine load_atg _ rfl rfl _ rfl h1 ?_ | refine load_atg _ rfl rfl _ rfl h2 ?_)
  refine (hCB _).mono ?_
  rintro e w2 ⟨rfl, hb2⟩
  replace h1 := h1.later hb2
  replace h2 := h2.later hb2
  replace hbel := below_on hbel hb2
  clear hb2 hCB
  go_wp2_with (first | refine load_atg _ rfl rfl _ rfl h1 ?_ | refine load_atg _ rfl rfl _ rfl h2 ?_)
  refine (hCM _).mono ?_
  rintro e w3 ⟨lv, rfl, hown, hb3⟩
  replace h1 := h1.later hb3
  replace h2 := h2.later hb3
  replace hbel := below_on hbel hb3
  have hd := own_dhas hown (ms_length a b 13)
  clear hb3 hCM hown
  have hx := store_new w3 a ha
  have hb4 : Below w3.heap.size w3 ((w3.alloc (.cells (vals zeros).toArray 23)).setRow w3.heap.size (vals a).toArray) := store_below (Below.refl _ _) a
  go_wp2_with (first | refine load_atg _ rfl rfl _ rfl h1 ?_ | refine store_at rfl _ _ rfl _ _ rfl rfl (at_new w3 zeros rfl) ha ?_)
  have HG : Hid (∀ k (h : k < (ms a b 13).length), Good a b (ms a b 13) k h) := ms_good ha hb hca hcb
  have HFu : Hid ((ms a b 13).length < 4096 → acc a (ms a b 13) = jn a b) := ms_full ha hb hca hcb
  obtain ⟨p0, cp, rfl, hlen, hr⟩ := hd
  have HR : Hid (0 < (ms a b 13).length → ∃ g o, p0 = some ⟨g, o, none⟩ ∧ ∀ i (h : i < (ms a b 13).length), DotAt w3 g (o + i * 2) (ms a b 13)[i].1 (ms a b 13)[i].2) := hr
  clear hr
  have HA0 : Hid (∀ i, i < 13 → 0 ≤ a.getD i 0 ∧ a.getD i 0 ≤ 1048576) := chk_at ha hca
  have HB0 : Hid (∀ i, i < 13 → 0 ≤ b.getD i 0 ∧ b.getD i 0 ≤ 1048576) := chk_at hb hcb
  have HLa : Hid (a.length = 13) := ha
  have HLb : Hid (b.length = 13) := hb
  clear ha hb hca hcb
  generalize ms a b 13 = l at *
  go_loopw [7] (fun vi wr => ∃ k : Nat, vi = .int .i64 k ∧ k ≤ l.length ∧ At wr w3.heap.size (acc a (l.take k)) ∧ Below w3.heap.size w3 wr) (fun vi _ => l.length - (intOf vi).toNat)
  case atStart => exact ⟨0, rfl, by omega, hx, hb4⟩
  case round =>
    obtain ⟨k, rfl, hk, h7, hbw⟩ := hrel
    clear hx hb4
    by_cases hlt : k < l.length
    · have hi1 : (k : Int) < (l.length : Int) := by omega
      have hgood := HG.out k hlt
      obtain ⟨g, o0, rfl, hdots⟩ := HR.out (by omega)
      have hdk := hdots k hlt
      have HY0 := acc_take (a := a) hlt
      have hvl := acc_length HLa.out (l.take k)
      have hprev : ∀ m (hm : m < l.length), m + 1 = k → l[m].1 ≤ l[k].1 := hgood.2.2.2.2.2
      obtain ⟨g1, g2, g3, g4, g5, -⟩ := hgood
      obtain ⟨n, hn⟩ : ∃ n : Nat, l[k].1 = (n : Int) := ⟨l[k].1.toNat, by omega⟩
      have hn' : ((n : Int)).toNat = n := by omega
      generalize l[k].1 = p at *
      subst hn
      rw [hn'] at g3 g4 g5 HY0
      generalize l[k].2 = s at *
      obtain ⟨v, HV⟩ : ∃ v, Hid (acc a (l.take k) = v) := ⟨_, rfl⟩
      rw [HV.out] at h7 HY0 hvl g3
      obtain ⟨y, HY1⟩ : ∃ y, Hid (v.set n s = y) := ⟨_, rfl⟩
      have hy : y.length = 13 := by rw [← HY1.out, List.length_set]; exact hvl
      have HY : Hid (acc a (l.take (k + 1)) = y) := by
        show _ = _
        rw [HY0, HY1.out]
      have hA := HA0.out n (by omega)
      have hB := HB0.out n (by omega)
      have hCAdd := fun w1 => add_ok v n s w1 hvl (by omega) (by omega) (by omega) g3 (by omega)
      rw [HY1.out] at hCAdd
      have hHB := fun w1 => has_peer b n s w1 HLb.out (by omega) (by omega) hB.1
      have hHA := fun w1 => has_peer a n s w1 HLa.out (by omega) (by omega) hA.1
      rw [show (decide (1 ≤ s) && decide (s ≤ b.getD n 0)) = true by rw [Bool.and_eq_true, decide_eq_true_iff, decide_eq_true_iff]; omega] at hHB
      rw [show (decide (1 ≤ s) && decide (s ≤ a.getD n 0)) = false by rw [Bool.and_eq_false_iff]; exact .inr (decide_eq_false (by omega))] at hHA
      have hX := h7.lt
      clear HY0 g3 g4 g5 hA hB HG HFu HR
      go_wp2
      refine Owed.region (by kernel_rfl) (by kernel_rfl) (fun L (act : Act) w' => ∃ x8 x9 x29 x30 x31 x32 x33 x34 x35 x36 x37, act = ({ tmps := #[V a, V b, .pointer (some ⟨w.heap.size, 0, none⟩), .pointer (some ⟨w.heap.size + 1, 0, none⟩), u4, .slice (some ⟨g, o0, none⟩) l.length cp, .pointer (some ⟨w3.heap.size, 0, none⟩), .int .i64 k, x8, x9, V a, .bool true, .bool false, .bool false, V b, .bool true, .bool false, .bool false, undef, V a, V b, .slice (some ⟨g, o0, none⟩) l.length cp, V a, .int .i64 k, .slice (some ⟨g, o0, none⟩) l.length cp, .int .i64 l.length, .bool true, u27, u28, x29, x30, x31, x32, x33, x34, x35, x36, x37, u38, u39, u40, u41, u42, u43, u44, u45, u46, u47, u48, u49, u50, u51, u52, u53, u54, u55, u56, u57, u58, u59, u60, u61, u62, u63, u64, u65, u66, u67, u68, u69, u70, u71, u72, u73, u74, u75, undef, undef, undef, undef, undef, undef, undef, undef, undef, undef, undef, undef, undef], defers := [] } : Act) ∧ MI w3 v y (.slice (some ⟨g, o0, none⟩) l.length cp) k g (o0 + k * 2) n s wr.heap.size L x8 x9 x29 x30 x31 x32 x33 x34 x35 x36 x37 w')
        (fun L L' act w' hL ⟨x8, x9, x29, x30, x31, x32, x33, x34, x35, x36, x37, e, h⟩ => ⟨x8, x9, x29, x30, x31, x32, x33, x34, x35, x36, x37, e, h.congr hL⟩)
        (fun L hL => ⟨u8, u9, u29, u30, u31, u32, u33, u34, u35, u36, u37, rfl, ⟨hbw.drew, h7, Nat.le_refl _⟩, fun e => (by rw [hL 0 (by decide)] at e; cases e), fun e => (by rw [hL 1 (by decide)] at e; cases e), fun e => (by rw [hL 2 (by decide)] at e; cases e), fun e => (by rw [hL 3 (by decide)] at e; cases e), fun e => (by rw [hL 4 (by decide)] at e; cases e), fun e => (by rw [hL 5 (by decide)] at e; cases e), fun e => (by rw [hL 6 (by decide)] at e; cases e), fun e => (by rw [hL 7 (by decide)] at e; cases e), fun e => (by rw [hL 8 (by decide)] at e; cases e), fun e => (by rw [hL 11 (by decide)] at e; cases e), fun e => (by rw [hL 9 (by decide)] at e; cases e), fun e => (by rw [hL 10 (by decide)] at e; cases e)⟩) ⟨?_, ?_, ?_, ?_, ?_, ?_, ?_, ?_, ?_, ?_, ?_, ?_, trivial⟩ ?_
      · intro L act w1 ⟨x8, x9, x29, x30, x31, x32, x33, x34, x35, x36, x37, hact, h⟩ hL hdep; subst hact
        refine wp_load_at _ rfl _ rfl h.1.2.1 ?_
        exact ⟨x8, x9, x29, V v, x31, x32, x33, x34, x35, x36, x37, rfl, h.v0⟩
      · intro L act w1 ⟨x8, x9, x29, x30, x31, x32, x33, x34, x35, x36, x37, hact, h⟩ hL hdep; subst hact
        refine wp_pure (v := .slice (some ⟨g, o0, none⟩) l.length cp) ?_ ?_
        focus go_simp
        exact ⟨x8, x9, x29, x30, .slice (some ⟨g, o0, none⟩) l.length cp, x32, x33, x34, x35, x36, x37, rfl, h.v1⟩
      · intro L act w1 ⟨x8, x9, x29, x30, x31, x32, x33, x34, x35, x36, x37, hact, h⟩ hL hdep; subst hact
        refine wp_pure (v := .int .i64 k) ?_ ?_
        focus go_simp
        exact ⟨x8, x9, x29, x30, x31, .int .i64 k, x33, x34, x35, x36, x37, rfl, h.v2⟩
      · intro L act w1 ⟨x8, x9, x29, x30, x31, x32, x33, x34, x35, x36, x37, hact, h⟩ hL hdep; subst hact
        have d1 := hdep ⟨1, .data⟩ (by simp) rfl
        obtain rfl := h.2.2.1 d1
        have d2 := hdep ⟨2, .data⟩ (by simp) rfl
        obtain rfl := h.2.2.2.1 d2
        refine wp_pure (v := .pointer (some ⟨g, o0 + k * 2, none⟩)) ?_ ?_
        focus go_simp
        exact ⟨x8, x9, x29, x30, .slice (some ⟨g, o0, none⟩) l.length cp, .int .i64 k, .pointer (some ⟨g, o0 + k * 2, none⟩), x34, x35, x36, x37, rfl, h.v3⟩
      · intro L act w1 ⟨x8, x9, x29, x30, x31, x32, x33, x34, x35, x36, x37, hact, h⟩ hL hdep; subst hact
        have d3 := hdep ⟨3, .data⟩ (by simp) rfl
        obtain rfl := h.2.2.2.2.1 d3
        refine wp_load_dot _ rfl _ _ rfl (hdk.later h.1.1) ?_
        exact ⟨x8, x9, x29, x30, x31, x32, .pointer (some ⟨g, o0 + k * 2, none⟩), D n s, x35, x36, x37, rfl, h.v4⟩
      · intro L act w1 ⟨x8, x9, x29, x30, x31, x32, x33, x34, x35, x36, x37, hact, h⟩ hL hdep; subst hact
        have d0 := hdep ⟨0, .data⟩ (by simp) rfl
        obtain rfl := h.2.1 d0
        have d4 := hdep ⟨4, .data⟩ (by simp) rfl
        obtain rfl := h.2.2.2.2.2.1 d4
        refine wp_call2 rfl rfl rfl (by kernel_rfl) (hCAdd w1) fun w2 hb2 => ?_
        exact ⟨x8, x9, x29, V v, x31, x32, x33, D n s, .tuple #[V y, .int .i64 0], x36, x37, rfl, (h.later hb2).v5⟩
      · intro L act w1 ⟨x8, x9, x29, x30, x31, x32, x33, x34, x35, x36, x37, hact, h⟩ hL hdep; subst hact
        have d5 := hdep ⟨5, .data⟩ (by simp) rfl
        obtain rfl := h.2.2.2.2.2.2.1 d5
        refine wp_pure (v := .tuple #[V y, .int .i64 0]) ?_ ?_
        focus go_simp
        exact ⟨x8, x9, .tuple #[V y, .int .i64 0], x30, x31, x32, x33, x34, .tuple #[V y, .int .i64 0], x36, x37, rfl, h.v6⟩
      · intro L act w1 ⟨x8, x9, x29, x30, x31, x32, x33, x34, x35, x36, x37, hact, h⟩ hL hdep; subst hact
        have d6 := hdep ⟨6, .data⟩ (by simp) rfl
        obtain rfl := h.2.2.2.2.2.2.2.1 d6
        refine wp_pure (v := V y) ?_ ?_
        focus go_simp
        exact ⟨x8, x9, .tuple #[V y, .int .i64 0], x30, x31, x32, x33, x34, x35, V y, x37, rfl, h.v7⟩
      · intro L act w1 ⟨x8, x9, x29, x30, x31, x32, x33, x34, x35, x36, x37, hact, h⟩ hL hdep; subst hact
        have d6 := hdep ⟨6, .data⟩ (by simp) rfl
        obtain rfl := h.2.2.2.2.2.2.2.1 d6
        refine wp_pure (v := .int .i64 0) ?_ ?_
        focus go_simp
        exact ⟨x8, x9, .tuple #[V y, .int .i64 0], x30, x31, x32, x33, x34, x35, x36, .int .i64 0, rfl, h.v8⟩
      · intro L act w1 ⟨x8, x9, x29, x30, x31, x32, x33, x34, x35, x36, x37, hact, h⟩ hL hdep; subst hact
        refine wp_alloc_at rfl ?_
        exact ⟨.pointer (some ⟨w1.heap.size, 0, none⟩), x9, x29, x30, x31, x32, x33, x34, x35, x36, x37, rfl, h.v9 hL⟩
      · intro L act w1 ⟨x8, x9, x29, x30, x31, x32, x33, x34, x35, x36, x37, hact, h⟩ hL hdep; subst hact
        have d9 := hdep ⟨9, .data⟩ (by simp) rfl
        have d7 := hdep ⟨7, .data⟩ (by simp) rfl
        obtain rfl := h.2.2.2.2.2.2.2.2.1 d7
        obtain ⟨q, hq, hNq, hat⟩ := h.2.2.2.2.2.2.2.2.2.2.2.1 d9
        have h' := h.v10 hX hy d9 hq hNq hat
        subst hq
        refine wp_store_at _ _ rfl q y rfl rfl hat hy ?_
        exact ⟨_, x9, x29, x30, x31, x32, x33, x34, x35, V y, x37, rfl, h'⟩
      · intro L act w1 ⟨x8, x9, x29, x30, x31, x32, x33, x34, x35, x36, x37, hact, h⟩ hL hdep; subst hact
        have d8 := hdep ⟨8, .data⟩ (by simp) rfl
        obtain rfl := h.2.2.2.2.2.2.2.2.2.1 d8
        refine wp_pure (v := .int .i64 0) ?_ ?_
        focus go_simp
        exact ⟨x8, .int .i64 0, x29, x30, x31, x32, x33, x34, x35, x36, .int .i64 0, rfl, h.v11⟩
      rintro L act w5 hL ⟨x8, x9, x29, x30, x31, x32, x33, x34, x35, x36, x37, rfl, hS, q0, q1, q2, q3, q4, q5, q6, q7, q8, q11, h8, -⟩
      obtain rfl := q0 (hL 0 (by decide))
      obtain rfl := q1 (hL 1 (by decide))
      obtain rfl := q2 (hL 2 (by decide))
      obtain rfl := q3 (hL 3 (by decide))
      obtain rfl := q4 (hL 4 (by decide))
      obtain rfl := q5 (hL 5 (by decide))
      obtain rfl := q6 (hL 6 (by decide))
      obtain rfl := q7 (hL 7 (by decide))
      obtain rfl := q8 (hL 8 (by decide))
      obtain rfl := q11 (hL 11 (by decide))
      have h8' := h8 (hL 9 (by decide))
      rw [if_pos (hL 10 (by decide))] at h8'
      obtain ⟨q, rfl, hqN, h8y⟩ := h8'
      obtain ⟨hbw5, h7w, -⟩ := hS
      have hdk5 := hdk.later hbw5
      have hqX : w3.heap.size < q := by omega
      clear h8 hL hCAdd h7 hbw
      rcases Nat.eq_zero_or_pos k with hk0 | hkp
      · have hi0 : ¬ (0 : Int) < (k : Int) := by omega
        have hi00 : ¬ 0 < k := by omega
        clear hk0
        have hs : Calm.Stays (fun w' => At w' w.heap.size a ∧ At w' (w.heap.size + 1) b ∧ DotAt w' g (o0 + k * 2) n s ∧ Below w3.heap.size w3 w' ∧ At w' w3.heap.size v ∧ At w' q y) := fun w1 w2 h hb => ⟨h.1.later hb, h.2.1.later hb, h.2.2.1.later hb, h.2.2.2.1.trans (hb.mono h.2.2.2.1.size), h.2.2.2.2.1.later hb, h.2.2.2.2.2.later hb⟩
        go_wp2
        refine Calm.region (by kernel_rfl) (by kernel_rfl) (fun w' => At w' w.heap.size a ∧ At w' (w.heap.size + 1) b ∧ DotAt w' g (o0 + k * 2) n s ∧ Below w3.heap.size w3 w' ∧ At w' w3.heap.size v ∧ At w' q y) ⟨h1.later hbw5.drew, h2.later hbw5.drew, hdk5, hbw5.drew, h7w, h8y⟩ ?_
        clear hdk5 h7w h8y hbw5
        all_goals
          refine Calm.pure (v := ?_) (by rfl) ?_ ?_
          rotate_left
          focus (intro w hSw; go_simp <;> rfl)
          simp only [Act.put, List.setIfInBounds_toArray, List.set_cons_zero, List.set_cons_succ]
        all_goals
          refine Calm.pure (v := ?_) (by rfl) ?_ ?_
          rotate_left
          focus (intro w hSw; go_simp <;> rfl)
          simp only [Act.put, List.setIfInBounds_toArray, List.set_cons_zero, List.set_cons_succ]
        all_goals
          refine Calm.pure (v := ?_) (by rfl) ?_ ?_
          rotate_left
          focus (intro w hSw; go_simp <;> rfl)
          simp only [Act.put, List.setIfInBounds_toArray, List.set_cons_zero, List.set_cons_succ]
        all_goals
          first
            | (refine Calm.skip ?_ ?_; focus rfl)
            | (refine Calm.load (by rfl) _ rfl rfl (fun _ h => by go_split_ands; assumption) ?_)
          simp only [Act.put, List.setIfInBounds_toArray, List.set_cons_zero, List.set_cons_succ]
        all_goals
          first
            | (refine Calm.skip ?_ ?_; focus rfl)
            | (refine Calm.pure (v := ?_) (by rfl) ?_ ?_
               rotate_left
               focus (intro w hSw; go_simp <;> rfl))
          simp only [Act.put, List.setIfInBounds_toArray, List.set_cons_zero, List.set_cons_succ]
        all_goals
          first
            | (refine Calm.skip ?_ ?_; focus rfl)
            | (refine Calm.pure (v := ?_) (by rfl) ?_ ?_
               rotate_left
               focus (intro w hSw; go_simp <;> rfl))
          simp only [Act.put, List.setIfInBounds_toArray, List.set_cons_zero, List.set_cons_succ]
        all_goals
          first
            | (refine Calm.skip ?_ ?_; focus rfl)
            | (refine Calm.pure (v := ?_) (by rfl) ?_ ?_
               rotate_left
               focus (intro w hSw; go_simp <;> rfl))
          simp only [Act.put, List.setIfInBounds_toArray, List.set_cons_zero, List.set_cons_succ]
        all_goals
          first
            | (refine Calm.skip ?_ ?_; focus rfl)
            | (refine Calm.loadDot (by rfl) _ rfl rfl (fun _ h => by go_split_ands; assumption) ?_)
          simp only [Act.put, List.setIfInBounds_toArray, List.set_cons_zero, List.set_cons_succ]
        all_goals
          first
            | (refine Calm.skip ?_ ?_; focus rfl)
            | (refine Calm.call2 (by rfl) rfl rfl rfl (by kernel_rfl) hs hHB ?_)
          simp only [Act.put, List.setIfInBounds_toArray, List.set_cons_zero, List.set_cons_succ]
        all_goals
          first
            | (refine Calm.skip ?_ ?_; focus rfl)
            | (refine Calm.pure (v := ?_) (by rfl) ?_ ?_
               rotate_left
               focus (intro w hSw; go_simp <;> rfl))
          simp only [Act.put, List.setIfInBounds_toArray, List.set_cons_zero, List.set_cons_succ]
        all_goals
          refine Calm.pure (v := ?_) (by rfl) ?_ ?_
          rotate_left
          focus (intro w hSw; go_simp <;> rfl)
          simp only [Act.put, List.setIfInBounds_toArray, List.set_cons_zero, List.set_cons_succ]
        all_goals
          refine Calm.pure (v := ?_) (by rfl) ?_ ?_
          rotate_left
          focus (intro w hSw; go_simp <;> rfl)
          simp only [Act.put, List.setIfInBounds_toArray, List.set_cons_zero, List.set_cons_succ]
        all_goals
          first
            | (refine Calm.skip ?_ ?_; focus rfl)
            | (refine Calm.load (by rfl) _ rfl rfl (fun _ h => by go_split_ands; assumption) ?_)
          simp only [Act.put, List.setIfInBounds_toArray, List.set_cons_zero, List.set_cons_succ]
        all_goals
          first
            | (refine Calm.skip ?_ ?_; focus rfl)
            | (refine Calm.pure (v := ?_) (by rfl) ?_ ?_
               rotate_left
               focus (intro w hSw; go_simp <;> rfl))
          simp only [Act.put, List.setIfInBounds_toArray, List.set_cons_zero, List.set_cons_succ]
        all_goals
          first
            | (refine Calm.skip ?_ ?_; focus rfl)
            | (refine Calm.pure (v := ?_) (by rfl) ?_ ?_
               rotate_left
               focus (intro w hSw; go_simp <;> rfl))
          simp only [Act.put, List.setIfInBounds_toArray, List.set_cons_zero, List.set_cons_succ]
        all_goals
          first
            | (refine Calm.skip ?_ ?_; focus rfl)
            | (refine Calm.pure (v := ?_) (by rfl) ?_ ?_
               rotate_left
               focus (intro w hSw; go_simp <;> rfl))
          simp only [Act.put, List.setIfInBounds_toArray, List.set_cons_zero, List.set_cons_succ]
        all_goals
          first
            | (refine Calm.skip ?_ ?_; focus rfl)
            | (refine Calm.loadDot (by rfl) _ rfl rfl (fun _ h => by go_split_ands; assumption) ?_)
          simp only [Act.put, List.setIfInBounds_toArray, List.set_cons_zero, List.set_cons_succ]
        all_goals
          first
            | (refine Calm.skip ?_ ?_; focus rfl)
            | (refine Calm.call2 (by rfl) rfl rfl rfl (by kernel_rfl) hs hHA ?_)
          simp only [Act.put, List.setIfInBounds_toArray, List.set_cons_zero, List.set_cons_succ]
        all_goals
          refine Calm.pure (v := ?_) (by rfl) ?_ ?_
          rotate_left
          focus (intro w hSw; go_simp <;> rfl)
          simp only [Act.put, List.setIfInBounds_toArray, List.set_cons_zero, List.set_cons_succ]
        all_goals
          refine Calm.pure (v := ?_) (by rfl) ?_ ?_
          rotate_left
          focus (intro w hSw; go_simp <;> rfl)
          simp only [Act.put, List.setIfInBounds_toArray, List.set_cons_zero, List.set_cons_succ]
        all_goals
          first
            | (refine Calm.skip ?_ ?_; focus rfl)
            | (refine Calm.pure (v := ?_) (by rfl) ?_ ?_
               rotate_left
               focus (intro w hSw; go_simp <;> rfl))
          simp only [Act.put, List.setIfInBounds_toArray, List.set_cons_zero, List.set_cons_succ]
        all_goals
          first
            | (refine Calm.skip ?_ ?_; focus rfl)
            | (refine Calm.pure (v := ?_) (by rfl) ?_ ?_
               rotate_left
               focus (intro w hSw; go_simp <;> rfl))
          simp only [Act.put, List.setIfInBounds_toArray, List.set_cons_zero, List.set_cons_succ]
        all_goals
          first
            | (refine Calm.skip ?_ ?_; focus rfl)
            | (refine Calm.pure (v := ?_) (by rfl) ?_ ?_
               rotate_left
               focus (intro w hSw; go_simp <;> rfl))
          simp only [Act.put, List.setIfInBounds_toArray, List.set_cons_zero, List.set_cons_succ]
        all_goals
          first
            | (refine Calm.skip ?_ ?_; focus rfl)
            | (refine Calm.pure (v := ?_) (by rfl) ?_ ?_
               rotate_left
               focus (intro w hSw; go_simp <;> rfl))
          simp only [Act.put, List.setIfInBounds_toArray, List.set_cons_zero, List.set_cons_succ]
        all_goals
          first
            | (refine Calm.skip ?_ ?_; focus rfl)
            | (refine Calm.pure (v := ?_) (by rfl) ?_ ?_
               rotate_left
               focus (intro w hSw; go_simp <;> rfl))
          simp only [Act.put, List.setIfInBounds_toArray, List.set_cons_zero, List.set_cons_succ]
        all_goals
          first
            | (refine Calm.skip ?_ ?_; focus rfl)
            | (refine Calm.pure (v := ?_) (by rfl) ?_ ?_
               rotate_left
               focus (intro w hSw; go_simp <;> rfl))
          simp only [Act.put, List.setIfInBounds_toArray, List.set_cons_zero, List.set_cons_succ]
        all_goals
          first
            | (refine Calm.skip ?_ ?_; focus rfl)
            | (refine Calm.pure (v := ?_) (by rfl) ?_ ?_
               rotate_left
               focus (intro w hSw; go_simp <;> rfl))
          simp only [Act.put, List.setIfInBounds_toArray, List.set_cons_zero, List.set_cons_succ]
        all_goals
          first
            | (refine Calm.skip ?_ ?_; focus rfl)
            | (refine Calm.pure (v := ?_) (by rfl) ?_ ?_
               rotate_left
               focus (intro w hSw; go_simp <;> rfl))
          simp only [Act.put, List.setIfInBounds_toArray, List.set_cons_zero, List.set_cons_succ]
        all_goals
          first
            | (refine Calm.skip ?_ ?_; focus rfl)
            | (refine Calm.pure (v := ?_) (by rfl) ?_ ?_
               rotate_left
               focus (intro w hSw; go_simp <;> rfl))
          simp only [Act.put, List.setIfInBounds_toArray, List.set_cons_zero, List.set_cons_succ]
        all_goals
          first
            | (refine Calm.skip ?_ ?_; focus rfl)
            | (refine Calm.pure (v := ?_) (by rfl) ?_ ?_
               rotate_left
               focus (intro w hSw; go_simp <;> rfl))
          simp only [Act.put, List.setIfInBounds_toArray, List.set_cons_zero, List.set_cons_succ]
        all_goals
          first
            | (refine Calm.skip ?_ ?_; focus rfl)
            | (refine Calm.pure (v := ?_) (by rfl) ?_ ?_
               rotate_left
               focus (intro w hSw; go_simp <;> rfl))
          simp only [Act.put, List.setIfInBounds_toArray, List.set_cons_zero, List.set_cons_succ]
        all_goals
          first
            | (refine Calm.skip ?_ ?_; focus rfl)
            | (refine Calm.pure (v := ?_) (by rfl) ?_ ?_
               rotate_left
               focus (intro w hSw; go_simp <;> rfl))
          simp only [Act.put, List.setIfInBounds_toArray, List.set_cons_zero, List.set_cons_succ]
        all_goals
          first
            | (refine Calm.skip ?_ ?_; focus rfl)
            | (refine Calm.pure (v := ?_) (by rfl) ?_ ?_
               rotate_left
               focus (intro w hSw; go_simp <;> rfl))
          simp only [Act.put, List.setIfInBounds_toArray, List.set_cons_zero, List.set_cons_succ]
        all_goals
          first
            | (refine Calm.skip ?_ ?_; focus rfl)
            | (refine Calm.pure (v := ?_) (by rfl) ?_ ?_
               rotate_left
               focus (intro w hSw; go_simp <;> rfl))
          simp only [Act.put, List.setIfInBounds_toArray, List.set_cons_zero, List.set_cons_succ]
        all_goals
          first
            | (refine Calm.skip ?_ ?_; focus rfl)
            | (refine Calm.pure (v := ?_) (by rfl) ?_ ?_
               rotate_left
               focus (intro w hSw; go_simp <;> rfl))
          simp only [Act.put, List.setIfInBounds_toArray, List.set_cons_zero, List.set_cons_succ]
        all_goals
          first
            | (refine Calm.skip ?_ ?_; focus rfl)
            | (refine Calm.pure (v := ?_) (by rfl) ?_ ?_
               rotate_left
               focus (intro w hSw; go_simp <;> rfl))
          simp only [Act.put, List.setIfInBounds_toArray, List.set_cons_zero, List.set_cons_succ]
        all_goals
          refine Calm.pure (v := ?_) (by rfl) ?_ ?_
          rotate_left
          focus (intro w hSw; go_simp <;> rfl)
          simp only [Act.put, List.setIfInBounds_toArray, List.set_cons_zero, List.set_cons_succ]
        rintro w9 ⟨_, _, _, hbw9, hv9, hy9⟩
        have R1 := hv9.row hy
        have R2 := below_setRow hbw9 (g := w3.heap.size) (Nat.le_refl _) (vals y).toArray
        go_wp2_with (first | refine load_atg _ rfl rfl _ rfl hy9 ?_ | refine store_at rfl _ _ rfl _ _ rfl rfl hv9 hy ?_)
        go_roundw
        case rel => exact ⟨k + 1, by simp, by omega, by rw [HY.out]; exact R1, R2⟩
        case measure => simp [intOf]; omega
      · obtain ⟨m, hm⟩ : ∃ m, k = m + 1 := ⟨k - 1, by omega⟩
        have hml : m < l.length := by omega
        have hdm := (hdots m hml).later hbw5
        have hpm := hprev m hml hm.symm
        generalize l[m].1 = pp at hdm hpm
        generalize l[m].2 = sp at hdm
        have hi0 : (0 : Int) < (k : Int) := by omega
        have hwk : IntKind.i64.wrap ((k : Int) - 1) = (m : Int) := by rw [IntKind.wrap_i64]; omega
        have hm1 : (0 : Int) ≤ (m : Int) := by omega
        have hm2 : (m : Int) < (l.length : Int) := by omega
        have hpn : ¬ (n : Int) < pp := by omega
        clear hm
        have hs : Calm.Stays (fun w' => At w' w.heap.size a ∧ At w' (w.heap.size + 1) b ∧ DotAt w' g (o0 + k * 2) n s ∧ w'.cell? ⟨g, o0 + k * 2, none⟩ = some (.int .i64 n) ∧ w'.cell? ⟨g, o0 + m * 2, none⟩ = some (.int .i64 pp) ∧ Below w3.heap.size w3 w' ∧ At w' w3.heap.size v ∧ At w' q y) := fun w1 w2 h hb => ⟨h.1.later hb, h.2.1.later hb, h.2.2.1.later hb, cell_later hb h.2.2.2.1, cell_later hb h.2.2.2.2.1, h.2.2.2.2.2.1.trans (hb.mono h.2.2.2.2.2.1.size), h.2.2.2.2.2.2.1.later hb, h.2.2.2.2.2.2.2.later hb⟩
        go_wp2
        refine Calm.region (by kernel_rfl) (by kernel_rfl) (fun w' => At w' w.heap.size a ∧ At w' (w.heap.size + 1) b ∧ DotAt w' g (o0 + k * 2) n s ∧ w'.cell? ⟨g, o0 + k * 2, none⟩ = some (.int .i64 n) ∧ w'.cell? ⟨g, o0 + m * 2, none⟩ = some (.int .i64 pp) ∧ Below w3.heap.size w3 w' ∧ At w' w3.heap.size v ∧ At w' q y) ⟨h1.later hbw5.drew, h2.later hbw5.drew, hdk5, hdk5.1, hdm.1, hbw5.drew, h7w, h8y⟩ ?_
        clear hdk5 h7w h8y hbw5 hdm
        all_goals
          refine Calm.pure (v := ?_) (by rfl) ?_ ?_
          rotate_left
          focus (intro w hSw; go_simp <;> rfl)
          simp only [Act.put, List.setIfInBounds_toArray, List.set_cons_zero, List.set_cons_succ]
        all_goals
          refine Calm.pure (v := ?_) (by rfl) ?_ ?_
          rotate_left
          focus (intro w hSw; go_simp <;> rfl)
          simp only [Act.put, List.setIfInBounds_toArray, List.set_cons_zero, List.set_cons_succ]
        all_goals
          refine Calm.pure (v := ?_) (by rfl) ?_ ?_
          rotate_left
          focus (intro w hSw; go_simp <;> rfl)
          simp only [Act.put, List.setIfInBounds_toArray, List.set_cons_zero, List.set_cons_succ]
        all_goals
          first
            | (refine Calm.skip ?_ ?_; focus rfl)
            | (refine Calm.load (by rfl) _ rfl rfl (fun _ h => by go_split_ands; assumption) ?_)
          simp only [Act.put, List.setIfInBounds_toArray, List.set_cons_zero, List.set_cons_succ]
        all_goals
          first
            | (refine Calm.skip ?_ ?_; focus rfl)
            | (refine Calm.pure (v := ?_) (by rfl) ?_ ?_
               rotate_left
               focus (intro w hSw; go_simp <;> rfl))
          simp only [Act.put, List.setIfInBounds_toArray, List.set_cons_zero, List.set_cons_succ]
        all_goals
          first
            | (refine Calm.skip ?_ ?_; focus rfl)
            | (refine Calm.pure (v := ?_) (by rfl) ?_ ?_
               rotate_left
               focus (intro w hSw; go_simp <;> rfl))
          simp only [Act.put, List.setIfInBounds_toArray, List.set_cons_zero, List.set_cons_succ]
        all_goals
          first
            | (refine Calm.skip ?_ ?_; focus rfl)
            | (refine Calm.pure (v := ?_) (by rfl) ?_ ?_
               rotate_left
               focus (intro w hSw; go_simp <;> rfl))
          simp only [Act.put, List.setIfInBounds_toArray, List.set_cons_zero, List.set_cons_succ]
        all_goals
          first
            | (refine Calm.skip ?_ ?_; focus rfl)
            | (refine Calm.loadDot (by rfl) _ rfl rfl (fun _ h => by go_split_ands; assumption) ?_)
          simp only [Act.put, List.setIfInBounds_toArray, List.set_cons_zero, List.set_cons_succ]
        all_goals
          first
            | (refine Calm.skip ?_ ?_; focus rfl)
            | (refine Calm.call2 (by rfl) rfl rfl rfl (by kernel_rfl) hs hHB ?_)
          simp only [Act.put, List.setIfInBounds_toArray, List.set_cons_zero, List.set_cons_succ]
        all_goals
          first
            | (refine Calm.skip ?_ ?_; focus rfl)
            | (refine Calm.pure (v := ?_) (by rfl) ?_ ?_
               rotate_left
               focus (intro w hSw; go_simp <;> rfl))
          simp only [Act.put, List.setIfInBounds_toArray, List.set_cons_zero, List.set_cons_succ]
        all_goals
          refine Calm.pure (v := ?_) (by rfl) ?_ ?_
          rotate_left
          focus (intro w hSw; go_simp <;> rfl)
          simp only [Act.put, List.setIfInBounds_toArray, List.set_cons_zero, List.set_cons_succ]
        all_goals
          refine Calm.pure (v := ?_) (by rfl) ?_ ?_
          rotate_left
          focus (intro w hSw; go_simp <;> rfl)
          simp only [Act.put, List.setIfInBounds_toArray, List.set_cons_zero, List.set_cons_succ]
        all_goals
          first
            | (refine Calm.skip ?_ ?_; focus rfl)
            | (refine Calm.load (by rfl) _ rfl rfl (fun _ h => by go_split_ands; assumption) ?_)
          simp only [Act.put, List.setIfInBounds_toArray, List.set_cons_zero, List.set_cons_succ]
        all_goals
          first
            | (refine Calm.skip ?_ ?_; focus rfl)
            | (refine Calm.pure (v := ?_) (by rfl) ?_ ?_
               rotate_left
               focus (intro w hSw; go_simp <;> rfl))
          simp only [Act.put, List.setIfInBounds_toArray, List.set_cons_zero, List.set_cons_succ]
        all_goals
          first
            | (refine Calm.skip ?_ ?_; focus rfl)
            | (refine Calm.pure (v := ?_) (by rfl) ?_ ?_
               rotate_left
               focus (intro w hSw; go_simp <;> rfl))
          simp only [Act.put, List.setIfInBounds_toArray, List.set_cons_zero, List.set_cons_succ]
        all_goals
          first
            | (refine Calm.skip ?_ ?_; focus rfl)
            | (refine Calm.pure (v := ?_) (by rfl) ?_ ?_
               rotate_left
               focus (intro w hSw; go_simp <;> rfl))
          simp only [Act.put, List.setIfInBounds_toArray, List.set_cons_zero, List.set_cons_succ]
        all_goals
          first
            | (refine Calm.skip ?_ ?_; focus rfl)
            | (refine Calm.loadDot (by rfl) _ rfl rfl (fun _ h => by go_split_ands; assumption) ?_)
          simp only [Act.put, List.setIfInBounds_toArray, List.set_cons_zero, List.set_cons_succ]
        all_goals
          first
            | (refine Calm.skip ?_ ?_; focus rfl)
            | (refine Calm.call2 (by rfl) rfl rfl rfl (by kernel_rfl) hs hHA ?_)
          simp only [Act.put, List.setIfInBounds_toArray, List.set_cons_zero, List.set_cons_succ]
        all_goals
          refine Calm.pure (v := ?_) (by rfl) ?_ ?_
          rotate_left
          focus (intro w hSw; go_simp <;> rfl)
          simp only [Act.put, List.setIfInBounds_toArray, List.set_cons_zero, List.set_cons_succ]
        all_goals
          refine Calm.pure (v := ?_) (by rfl) ?_ ?_
          rotate_left
          focus (intro w hSw; go_simp <;> rfl)
          simp only [Act.put, List.setIfInBounds_toArray, List.set_cons_zero, List.set_cons_succ]
        all_goals
          first
            | (refine Calm.skip ?_ ?_; focus rfl)
            | (refine Calm.pure (v := ?_) (by rfl) ?_ ?_
               rotate_left
               focus (intro w hSw; go_simp <;> rfl))
          simp only [Act.put, List.setIfInBounds_toArray, List.set_cons_zero, List.set_cons_succ]
        all_goals
          first
            | (refine Calm.skip ?_ ?_; focus rfl)
            | (refine Calm.pure (v := ?_) (by rfl) ?_ ?_
               rotate_left
               focus (intro w hSw; go_simp <;> rfl))
          simp only [Act.put, List.setIfInBounds_toArray, List.set_cons_zero, List.set_cons_succ]
        all_goals
          first
            | (refine Calm.skip ?_ ?_; focus rfl)
            | (refine Calm.pure (v := ?_) (by rfl) ?_ ?_
               rotate_left
               focus (intro w hSw; go_simp <;> rfl))
          simp only [Act.put, List.setIfInBounds_toArray, List.set_cons_zero, List.set_cons_succ]
        all_goals
          first
            | (refine Calm.skip ?_ ?_; focus rfl)
            | (refine Calm.pure (v := ?_) (by rfl) ?_ ?_
               rotate_left
               focus (intro w hSw; go_simp <;> rfl))
          simp only [Act.put, List.setIfInBounds_toArray, List.set_cons_zero, List.set_cons_succ]
        all_goals
          first
            | (refine Calm.skip ?_ ?_; focus rfl)
            | (refine Calm.pure (v := ?_) (by rfl) ?_ ?_
               rotate_left
               focus (intro w hSw; go_simp <;> rfl))
          simp only [Act.put, List.setIfInBounds_toArray, List.set_cons_zero, List.set_cons_succ]
        all_goals
          first
            | (refine Calm.skip ?_ ?_; focus rfl)
            | (refine Calm.pure (v := ?_) (by rfl) ?_ ?_
               rotate_left
               focus (intro w hSw; go_simp <;> rfl))
          simp only [Act.put, List.setIfInBounds_toArray, List.set_cons_zero, List.set_cons_succ]
        all_goals
          first
            | (refine Calm.skip ?_ ?_; focus rfl)
            | (refine Calm.pure (v := ?_) (by rfl) ?_ ?_
               rotate_left
               focus (intro w hSw; go_simp <;> rfl))
          simp only [Act.put, List.setIfInBounds_toArray, List.set_cons_zero, List.set_cons_succ]
        all_goals
          first
            | (refine Calm.skip ?_ ?_; focus rfl)
            | (refine Calm.pure (v := ?_) (by rfl) ?_ ?_
               rotate_left
               focus (intro w hSw; go_simp <;> rfl))
          simp only [Act.put, List.setIfInBounds_toArray, List.set_cons_zero, List.set_cons_succ]
        all_goals
          first
            | (refine Calm.skip ?_ ?_; focus rfl)
            | (refine Calm.pure (v := ?_) (by rfl) ?_ ?_
               rotate_left
               focus (intro w hSw; go_simp <;> rfl))
          simp only [Act.put, List.setIfInBounds_toArray, List.set_cons_zero, List.set_cons_succ]
        all_goals
          first
            | (refine Calm.skip ?_ ?_; focus rfl)
            | (refine Calm.pure (v := ?_) (by rfl) ?_ ?_
               rotate_left
               focus (intro w hSw; go_simp <;> rfl))
          simp only [Act.put, List.setIfInBounds_toArray, List.set_cons_zero, List.set_cons_succ]
        all_goals
          first
            | (refine Calm.skip ?_ ?_; focus rfl)
            | (refine Calm.pure (v := ?_) (by rfl) ?_ ?_
               rotate_left
               focus (intro w hSw; go_simp <;> rfl))
          simp only [Act.put, List.setIfInBounds_toArray, List.set_cons_zero, List.set_cons_succ]
        all_goals
          first
            | (refine Calm.skip ?_ ?_; focus rfl)
            | (refine Calm.pure (v := ?_) (by rfl) ?_ ?_
               rotate_left
               focus (intro w hSw; go_simp <;> rfl))
          simp only [Act.put, List.setIfInBounds_toArray, List.set_cons_zero, List.set_cons_succ]
        all_goals
          first
            | (refine Calm.skip ?_ ?_; focus rfl)
            | (refine Calm.pure (v := ?_) (by rfl) ?_ ?_
               rotate_left
               focus (intro w hSw; go_simp <;> rfl))
          simp only [Act.put, List.setIfInBounds_toArray, List.set_cons_zero, List.set_cons_succ]
        all_goals
          first
            | (refine Calm.skip ?_ ?_; focus rfl)
            | (refine Calm.pure (v := ?_) (by rfl) ?_ ?_
               rotate_left
               focus (intro w hSw; go_simp <;> rfl))
          simp only [Act.put, List.setIfInBounds_toArray, List.set_cons_zero, List.set_cons_succ]
        all_goals
          first
            | (refine Calm.skip ?_ ?_; focus rfl)
            | (refine Calm.pure (v := ?_) (by rfl) ?_ ?_
               rotate_left
               focus (intro w hSw; go_simp <;> rfl))
          simp only [Act.put, List.setIfInBounds_toArray, List.set_cons_zero, List.set_cons_succ]
        all_goals
          first
            | (refine Calm.skip ?_ ?_; focus rfl)
            | (refine Calm.pure (v := ?_) (by rfl) ?_ ?_
               rotate_left
               focus (intro w hSw; go_simp <;> rfl))
          simp only [Act.put, List.setIfInBounds_toArray, List.set_cons_zero, List.set_cons_succ]
        all_goals
          refine Calm.pure (v := ?_) (by rfl) ?_ ?_
          rotate_left
          focus (intro w hSw; go_simp <;> rfl)
          simp only [Act.put, List.setIfInBounds_toArray, List.set_cons_zero, List.set_cons_succ]
        rintro w9 ⟨_, _, _, _, _, hbw9, hv9, hy9⟩
        have R1 := hv9.row hy
        have R2 := below_setRow hbw9 (g := w3.heap.size) (Nat.le_refl _) (vals y).toArray
        go_wp2_with (first | refine load_atg _ rfl rfl _ rfl hy9 ?_ | refine store_at rfl _ _ rfl _ _ rfl rfl hv9 hy ?_)
        go_roundw
        case rel => exact ⟨k + 1, by simp, by omega, by rw [HY.out]; exact R1, R2⟩
        case measure => simp [intOf]; omega
    · have hkl : k = l.length := by omega
      subst hkl
      have h7' := h7
      rw [List.take_length] at h7'
      have hJ := fun w1 => join_any a b w1 HLa.out HLb.out
      rcases Nat.lt_or_ge l.length 4096 with hl4 | hl4
      · rw [HFu.out hl4] at h7'
        have heq := fun w1 => eq_arrays w1 (jn a b) (jn a b) (jn_length HLa.out HLb.out) (jn_length HLa.out HLb.out)
        rw [show (jn a b == jn a b) = true by simp] at heq
        clear HG HFu HR h7
        have hs : Calm.Stays (fun w' => At w' w.heap.size a ∧ At w' (w.heap.size + 1) b ∧ At w' w3.heap.size (jn a b) ∧ Below w3.heap.size w3 w') := fun w1 w2 h hb => ⟨h.1.later hb, h.2.1.later hb, h.2.2.1.later hb, h.2.2.2.trans (hb.mono h.2.2.2.size)⟩
        go_wp2
        have hi6 : ¬ (4096 : Int) ≤ (l.length : Int) := by omega
        refine Calm.region (by kernel_rfl) (by kernel_rfl) (fun w' => At w' w.heap.size a ∧ At w' (w.heap.size + 1) b ∧ At w' w3.heap.size (jn a b) ∧ Below w3.heap.size w3 w') ⟨h1.later hbw.drew, h2.later hbw.drew, h7', hbw.drew⟩ ?_
        all_goals
          refine Calm.pure (v := ?_) (by rfl) ?_ ?_
          rotate_left
          focus (intro w hSw; go_simp <;> rfl)
          simp only [Act.put, List.setIfInBounds_toArray, List.set_cons_zero, List.set_cons_succ]
        all_goals
          refine Calm.pure (v := ?_) (by rfl) ?_ ?_
          rotate_left
          focus (intro w hSw; go_simp <;> rfl)
          simp only [Act.put, List.setIfInBounds_toArray, List.set_cons_zero, List.set_cons_succ]
        all_goals
          refine Calm.pure (v := ?_) (by rfl) ?_ ?_
          rotate_left
          focus (intro w hSw; go_simp <;> rfl)
          simp only [Act.put, List.setIfInBounds_toArray, List.set_cons_zero, List.set_cons_succ]
        all_goals
          refine Calm.pure (v := ?_) (by rfl) ?_ ?_
          rotate_left
          focus (intro w hSw; go_simp <;> rfl)
          simp only [Act.put, List.setIfInBounds_toArray, List.set_cons_zero, List.set_cons_succ]
        all_goals
          first
            | (refine Calm.skip ?_ ?_; focus rfl)
            | (refine Calm.load (by rfl) _ rfl rfl (fun _ h => by go_split_ands; assumption) ?_)
          simp only [Act.put, List.setIfInBounds_toArray, List.set_cons_zero, List.set_cons_succ]
        all_goals
          first
            | (refine Calm.skip ?_ ?_; focus rfl)
            | (refine Calm.load (by rfl) _ rfl rfl (fun _ h => by go_split_ands; assumption) ?_)
          simp only [Act.put, List.setIfInBounds_toArray, List.set_cons_zero, List.set_cons_succ]
        all_goals
          first
            | (refine Calm.skip ?_ ?_; focus rfl)
            | (refine Calm.load (by rfl) _ rfl rfl (fun _ h => by go_split_ands; assumption) ?_)
          simp only [Act.put, List.setIfInBounds_toArray, List.set_cons_zero, List.set_cons_succ]
        all_goals
          first
            | (refine Calm.skip ?_ ?_; focus rfl)
            | (refine Calm.call2 (by rfl) rfl rfl rfl (by kernel_rfl) hs hJ ?_)
          simp only [Act.put, List.setIfInBounds_toArray, List.set_cons_zero, List.set_cons_succ]
        all_goals
          first
            | (refine Calm.skip ?_ ?_; focus rfl)
            | (refine Calm.pure (v := ?_) (by rfl) ?_ ?_
               rotate_left
               focus (intro w hSw; go_simp <;> rfl))
          simp only [Act.put, List.setIfInBounds_toArray, List.set_cons_zero, List.set_cons_succ]
        all_goals
          refine Calm.pure (v := ?_) (by rfl) ?_ ?_
          rotate_left
          focus (intro w hSw; go_simp <;> rfl)
          simp only [Act.put, List.setIfInBounds_toArray, List.set_cons_zero, List.set_cons_succ]
        all_goals
          refine Calm.pure (v := ?_) (by rfl) ?_ ?_
          rotate_left
          focus (intro w hSw; go_simp <;> rfl)
          simp only [Act.put, List.setIfInBounds_toArray, List.set_cons_zero, List.set_cons_succ]
        all_goals
          first
            | (refine Calm.skip ?_ ?_; focus rfl)
            | (refine Calm.call0 (by rfl) rfl (by kernel_rfl) hs heads_any ?_)
          simp only [Act.put, List.setIfInBounds_toArray, List.set_cons_zero, List.set_cons_succ]
        all_goals
          refine Calm.pure (v := ?_) (by rfl) ?_ ?_
          rotate_left
          focus (intro w hSw; go_simp <;> rfl)
          simp only [Act.put, List.setIfInBounds_toArray, List.set_cons_zero, List.set_cons_succ]
        all_goals
          refine Calm.pure (v := ?_) (by rfl) ?_ ?_
          rotate_left
          focus (intro w hSw; go_simp <;> rfl)
          simp only [Act.put, List.setIfInBounds_toArray, List.set_cons_zero, List.set_cons_succ]
        rintro w9 ⟨_, _, _, hbw9⟩
        go_wp2
        go_ret
        exact ⟨rfl, below_on hbel hbw9⟩
      · have hi4 : (4096 : Int) ≤ (l.length : Int) := by omega
        clear HG HFu HR h7
        have hs : Calm.Stays (fun w' => At w' w.heap.size a ∧ At w' (w.heap.size + 1) b ∧ At w' w3.heap.size (acc a l) ∧ Below w3.heap.size w3 w') := fun w1 w2 h hb => ⟨h.1.later hb, h.2.1.later hb, h.2.2.1.later hb, h.2.2.2.trans (hb.mono h.2.2.2.size)⟩
        go_wp2
        refine Calm.region (by kernel_rfl) (by kernel_rfl) (fun w' => At w' w.heap.size a ∧ At w' (w.heap.size + 1) b ∧ At w' w3.heap.size (acc a l) ∧ Below w3.heap.size w3 w') ⟨h1.later hbw.drew, h2.later hbw.drew, h7', hbw.drew⟩ ?_
        all_goals
          refine Calm.pure (v := ?_) (by rfl) ?_ ?_
          rotate_left
          focus (intro w hSw; go_simp <;> rfl)
          simp only [Act.put, List.setIfInBounds_toArray, List.set_cons_zero, List.set_cons_succ]
        all_goals
          refine Calm.pure (v := ?_) (by rfl) ?_ ?_
          rotate_left
          focus (intro w hSw; go_simp <;> rfl)
          simp only [Act.put, List.setIfInBounds_toArray, List.set_cons_zero, List.set_cons_succ]
        all_goals
          refine Calm.pure (v := ?_) (by rfl) ?_ ?_
          rotate_left
          focus (intro w hSw; go_simp <;> rfl)
          simp only [Act.put, List.setIfInBounds_toArray, List.set_cons_zero, List.set_cons_succ]
        all_goals
          refine Calm.pure (v := ?_) (by rfl) ?_ ?_
          rotate_left
          focus (intro w hSw; go_simp <;> rfl)
          simp only [Act.put, List.setIfInBounds_toArray, List.set_cons_zero, List.set_cons_succ]
        all_goals
          first
            | (refine Calm.skip ?_ ?_; focus rfl)
            | (refine Calm.load (by rfl) _ rfl rfl (fun _ h => by go_split_ands; assumption) ?_)
          simp only [Act.put, List.setIfInBounds_toArray, List.set_cons_zero, List.set_cons_succ]
        all_goals
          first
            | (refine Calm.skip ?_ ?_; focus rfl)
            | (refine Calm.load (by rfl) _ rfl rfl (fun _ h => by go_split_ands; assumption) ?_)
          simp only [Act.put, List.setIfInBounds_toArray, List.set_cons_zero, List.set_cons_succ]
        all_goals
          first
            | (refine Calm.skip ?_ ?_; focus rfl)
            | (refine Calm.load (by rfl) _ rfl rfl (fun _ h => by go_split_ands; assumption) ?_)
          simp only [Act.put, List.setIfInBounds_toArray, List.set_cons_zero, List.set_cons_succ]
        all_goals
          first
            | (refine Calm.skip ?_ ?_; focus rfl)
            | (refine Calm.call2 (by rfl) rfl rfl rfl (by kernel_rfl) hs hJ ?_)
          simp only [Act.put, List.setIfInBounds_toArray, List.set_cons_zero, List.set_cons_succ]
        all_goals
          first
            | (refine Calm.skip ?_ ?_; focus rfl)
            | (refine Calm.pure (v := ?_) (by rfl) ?_ ?_
               rotate_left
               focus (intro w hSw; go_simp <;> rfl))
          simp only [Act.put, List.setIfInBounds_toArray, List.set_cons_zero, List.set_cons_succ]
        all_goals
          refine Calm.pure (v := ?_) (by rfl) ?_ ?_
          rotate_left
          focus (intro w hSw; go_simp <;> rfl)
          simp only [Act.put, List.setIfInBounds_toArray, List.set_cons_zero, List.set_cons_succ]
        all_goals
          refine Calm.pure (v := ?_) (by rfl) ?_ ?_
          rotate_left
          focus (intro w hSw; go_simp <;> rfl)
          simp only [Act.put, List.setIfInBounds_toArray, List.set_cons_zero, List.set_cons_succ]
        all_goals
          first
            | (refine Calm.skip ?_ ?_; focus rfl)
            | (refine Calm.call0 (by rfl) rfl (by kernel_rfl) hs heads_any ?_)
          simp only [Act.put, List.setIfInBounds_toArray, List.set_cons_zero, List.set_cons_succ]
        all_goals
          refine Calm.pure (v := ?_) (by rfl) ?_ ?_
          rotate_left
          focus (intro w hSw; go_simp <;> rfl)
          simp only [Act.put, List.setIfInBounds_toArray, List.set_cons_zero, List.set_cons_succ]
        all_goals
          refine Calm.pure (v := ?_) (by rfl) ?_ ?_
          rotate_left
          focus (intro w hSw; go_simp <;> rfl)
          simp only [Act.put, List.setIfInBounds_toArray, List.set_cons_zero, List.set_cons_succ]
        rintro w9 ⟨_, _, _, hbw9⟩
        go_wp2
        go_ret
        exact ⟨rfl, below_on hbel hbw9⟩

theorem missing_all (a b : List Int) (w : World) (ha : a.length = 13) (hb : b.length = 13) :
    Calls Try.prog 7 #[V a, V b] w fun e w' => e = .returned (.bool true) ∧ Below w.heap.size w w' := by
  by_cases h : chk a = true ∧ chk b = true
  · exact missing_walk a b w ha hb h.1 h.2
  · exact missing_no a b w ha hb h

end Go.Proofs.Ytbeehmcoeblbcaa
