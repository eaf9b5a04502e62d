import Derived.Test.YtmcajjdijjcpkaaP16
import Derived.Laws.AppendOwn
/- A clone of a row of trees; the function tree of package copies: a tree that is the same, all of it new. -/
namespace Go.Proofs.Ytmcajjdijjcpkaa
open Go.RowKit
open Idn (ID)

/-- No node has many Kids. -/
def nar : Tr → Prop
  | ⟨_, len, kids⟩ => len ≤ 1000 ∧ ∀ i, nar (kids i)
/-- The call answers the tree t, all of it new. -/
abbrev GivesN (t : Tr) (w : World) (e : Ending) (w' : World) : Prop := ∃ n p l c, e = .returned (TV n p l c) ∧ Nw w.heap.size w' (fun w2 => Lies w2 t (TV n p l c)) ∧ Below w.heap.size w w'
theorem size_put (w : World) (q o : Nat) (u v : Value) : (w.setCells q o [u, v]).heap.size = w.heap.size := by
  unfold World.setCells World.setCells World.setCells
  simp [World.setCell]
theorem put_other {w : World} {b k : Nat} (h : k ≠ b) (o : Nat) (u v : Value) : (w.setCells b o [u, v]).heap[k]? = w.heap[k]? := by
  unfold World.setCells World.setCells World.setCells
  rw [Below.heap_setCell _ _ _ _ h, Below.heap_setCell _ _ _ _ h]
theorem Nw.put {M : Nat} {w : World} {P : World → Prop} (h : Nw M w P) {q : Nat} (hq : q < M) (o : Nat) (u v : Value) : Nw M (w.setCells q o [u, v]) P := fun w2 h2 => h w2 fun b h0 h1 => (h2 b h0 (by rw [size_put]; exact h1)).trans (put_other (by omega) o u v)
theorem rw_put {w : World} {b : Nat} {t : TypeId} {cs : Array Value} (h : Rw w b t cs) (o : Nat) (u v : Value) : ∃ cs', Rw (w.setCells b o [u, v]) b t cs' ∧ cs'.size = cs.size := by
  refine ⟨(cs.setIfInBounds o u).setIfInBounds (o + 1) v, ?_, by simp⟩
  unfold Rw at *
  unfold World.setCells World.setCells World.setCells
  simp [World.setCell, Array.getElem?_modify, h]
theorem lies_val {w : World} {t : Tr} {n : Int} {p : Option Addr} {l c : Nat} (h : Lies w t (TV n p l c)) : n = t.n ∧ l = t.len := by
  obtain ⟨m, len, kids⟩ := t
  obtain ⟨_, _, p', c', e, _⟩ := h
  simp at e
  exact ⟨e.1, e.2.2.1⟩

theorem kids_row {w : World} {g o : Nat} : ∀ l : Nat, (∀ i, i < l → ∃ n0 p0 l0 c0, Tat w g (o + i * 2) n0 p0 l0 c0) → ∃ cs : List Value, cs.length = l * 2 ∧ (∀ (j : Nat) (u : Value), cs[j]? = some u → w.cell? ⟨g, o + j, none⟩ = some u) ∧ ∀ u ∈ cs, u.oneCell' = true
  | 0, _ => ⟨[], rfl, fun j u h => by simp at h, fun u h => by cases h⟩
  | l + 1, h => by
    obtain ⟨cs, h1, h2, h3⟩ := kids_row l fun i hi => h i (by omega)
    obtain ⟨n0, p0, l0, c0, ht⟩ := h l (by omega)
    refine ⟨cs ++ [.int .i64 n0, .slice p0 l0 c0], by simp only [List.length_append, h1, List.length_cons, List.length_nil]; omega, fun j u hu => ?_, fun u hu => ?_⟩
    · rcases Nat.lt_or_ge j cs.length with hj | hj
      · rw [List.getElem?_append_left hj] at hu
        exact h2 j u hu
      · rw [List.getElem?_append_right hj] at hu
        obtain ⟨d, rfl⟩ : ∃ d, j = l * 2 + d := ⟨j - l * 2, by omega⟩
        rw [h1, show l * 2 + d - l * 2 = d by omega] at hu
        match d with
        | 0 => simp at hu; subst hu; exact ht.1
        | 1 => simp at hu; subst hu; have := ht.2; rwa [show o + l * 2 + 1 = o + (l * 2 + 1) by omega] at this
        | d + 2 => simp at hu
    · simp only [List.mem_append, List.mem_cons, List.not_mem_nil, or_false] at hu
      rcases hu with hu | rfl | rfl
      · exact h3 u hu
      · simp [Value.oneCell']
      · simp [Value.oneCell']
/-- A row of trees lies behind a value. -/
abbrev Kd (w : World) (p : Option Addr) (l : Nat) : Prop := 0 < l → ∃ g o, p = some ⟨g, o, none⟩ ∧ ∀ i, i < l → ∃ n0 p0 l0 c0, Tat w g (o + i * 2) n0 p0 l0 c0
theorem eqlIn_nil (w : World) (d : Nat) (a : Option Addr) (l c : Nat) : (Op.equalIn (d + 1) 22 (.slice a l c) (.slice none 0 0)).run Try.prog w = .ok a.isNone w := by
  cases a <;> simp [Op.equalIn, run_underlying Try.underlying22]
theorem eql_nil (w : World) (a : Option Addr) (l c : Nat) : (binOp .eql 22 (.slice a l c) (.slice none 0 0)).run Try.prog w = .ok (.bool a.isNone) w := by
  have h : (Op.equal 22 (.slice a l c) (.slice none 0 0)).run Try.prog w = .ok a.isNone w := eqlIn_nil w 9999 a l c
  simp [binOp, h]
set_option maxHeartbeats 2000000 in
set_option maxRecDepth 100000 in
theorem cloneT_any (p : Option Addr) (l c : Nat) (w : World) (hl : l ≤ 1000) (hk : Kd w p l) : Calls Try.prog 88 #[.slice p l c] w fun e w' => ∃ p' c', e = .returned (.slice p' l c') ∧ (0 < l → ∃ q cur, p' = some ⟨q, 0, none⟩ ∧ w.heap.size ≤ q ∧ Rw w' q 24 cur ∧ l * 2 ≤ cur.size ∧ ∀ g o, p = some ⟨g, o, none⟩ → ∀ i, i < l → ∀ n0 p0 l0 c0, Tat w g (o + i * 2) n0 p0 l0 c0 → Tat w' q (i * 2) n0 p0 l0 c0) ∧ Below w.heap.size w w' := by
  obtain ⟨i0, hi, hz0, hz1, hz2⟩ := info_parts info24
  cases p with
  | none =>
    have hl0 : l = 0 := by
      rcases Nat.eq_zero_or_pos l with h0 | h0
      · exact h0
      · obtain ⟨g, o, e, _⟩ := hk h0
        cases e
    subst hl0
    have E := fun w => eql_nil w none 0 c
    simp only [Option.isNone_none] at E
    go_enter Try.func88, Try.ntmps88
    go_wp2
    go_ret
    exact ⟨none, 0, rfl, fun h => absurd h (by omega), Below.refl _ _⟩
  | some ad =>
    obtain ⟨cs, HL, HD, h1⟩ : ∃ cs : List Value, cs.length = l * 2 ∧ (∀ (j : Nat) (u : Value), cs[j]? = some u → w.cell? (ad.add j) = some u) ∧ ∀ u ∈ cs, u.oneCell' = true := by
      rcases Nat.eq_zero_or_pos l with h0 | h0
      · subst h0
        exact ⟨[], rfl, fun j u h => by simp at h, fun u h => by cases h⟩
      · obtain ⟨g, o, e, hks⟩ := hk h0
        cases e
        obtain ⟨cs, a, b, d⟩ := kids_row l hks
        exact ⟨cs, a, fun j u h => by rw [Addr.add_mid]; exact b j u h, d⟩
    have hown : (w.alloc (.cells #[] 24)).ownsRow w.heap.size 24 2 (.slice (some ⟨w.heap.size, 0, none⟩) 0 0) 0 [] := World.ownsRow_made w #[] 0 (Nat.le_refl _) (Nat.zero_le _) (by simp)
    have hbel : Below w.heap.size w (w.alloc (.cells #[] 24)) := (Below.refl _ _).alloc (Nat.le_refl _) _
    have HC : Hid (∀ (j : Nat) (u : Value), cs[j]? = some u → (w.alloc (.cells #[] 24)).cell? (ad.add j) = some u) := fun j u hu => by
      have h2 := HD j u hu
      have hlt : (ad.add j).block < w.heap.size := World.block_lt_of_cell? w _ h2
      rw [World.cell?_of_block (w := w) (hbel.block _ hlt)]
      exact h2
    have HLL : Hid (cs.length = l * 2) := HL
    have HDD : Hid (∀ (j : Nat) (u : Value), cs[j]? = some u → w.cell? (ad.add j) = some u) := HD
    clear HD HL hk
    have E := fun w => eql_nil w (some ad) l c
    simp only [Option.isNone_some] at E
    go_enter Try.func88, Try.ntmps88
    go_wp2_with (first | (at_builtin; refine wpList_append_own _ rfl _ _ 22 rfl w.heap.size 24 i0 _ 2 32 Try.underlying22 hi hz0 hz1 hz2 rfl (by decide) _ _ _ rfl hown ad l c cs rfl HLL.out HC.out h1 ?c3 ?c4 ?c5 ?_))
    case c3 => unfold maxLen; omega
    case c4 => omega
    case c5 => simp
    intro v2 w2 hown2 hg2 _
    go_wp2_with fail
    go_ret
    have hown2 : w2.ownsRow w.heap.size 24 2 v2 l cs := by simpa using hown2
    have hb := hbel.grown hg2 (by simp) (fun q hq => by simp [Value.ownBlock] at hq; omega)
    rcases hown2.2 with ⟨rfl, h⟩ | ⟨q, cap, cur, rfl, hq, hrow, h1, h2, h3, h4⟩
    · have hl0 : l = 0 := by simpa using h
      subst hl0
      exact ⟨none, 0, rfl, fun h => absurd h (by omega), hb⟩
    · refine ⟨some ⟨q, 0, none⟩, cap, rfl, fun _ => ⟨q, cur, rfl, hq, hrow, by omega, ?_⟩, hb⟩
      intro g o e i hi n0 p0 l0 c0 ht
      cases e
      have key : ∀ j, j < l * 2 → ∀ u, w.cell? ⟨g, o + j, none⟩ = some u → w2.cell? ⟨q, j, none⟩ = some u := fun j hj u hu => by
        have hj' : j < cs.length := by rw [HLL.out]; exact hj
        have e1 := HDD.out j _ (List.getElem?_eq_getElem hj')
        rw [Addr.add_mid, hu] at e1
        have e2 := (Option.some.inj e1).symm
        have hr : Rw w2 q 24 cur := hrow
        rw [hr.cell, ← Array.getElem?_toList, ← List.getElem?_take_of_lt hj, h4, List.getElem?_eq_getElem hj', e2]
      refine ⟨key _ (by omega) _ ht.1, key _ (by omega) _ ?_⟩
      have := ht.2
      rwa [show o + i * 2 + 1 = o + (i * 2 + 1) by omega] at this
theorem set1_other {w : World} {b k : Nat} (h : k ≠ b) (o : Nat) (u : Value) : (w.setCells b o [u]).heap[k]? = w.heap[k]? := by
  unfold World.setCells World.setCells
  exact Below.heap_setCell _ _ _ _ h
theorem set1_below {B : Nat} {a w : World} (h : Below B a w) {q o : Nat} (hq : B ≤ q) (u : Value) : Below B a (w.setCells q o [u]) := by
  unfold World.setCells World.setCells
  exact h.setCell hq _
theorem bx_kids {w : World} {b : Nat} {n : Int} {p : Option Addr} {l c : Nat} (h : Bx w b n p l c) (p' : Option Addr) (l' c' : Nat) : Bx (w.setCell ⟨b, 1, none⟩ (.slice p' l' c')) b n p' l' c' := by
  have := rw_setCell (t := 24) h 1 (.slice p' l' c')
  have h2 : Rw (w.setCell ⟨b, 1, none⟩ (.slice p' l' c')) b 24 #[.int .i64 n, .slice p' l' c'] := by simpa using this
  exact h2
/-- A tree that is all new, of whatever form. -/
def nwT (i M : Nat) (t : Tr) : Facts.Fact := ([i], fun vs w => ∃ n p l c, vs = [TV n p l c] ∧ Nw M w (fun w2 => Lies w2 t (TV n p l c)))
theorem nwT_get {i M : Nat} {t : Tr} {x : Nat → Value} {w : World} (h : Facts.holds (nwT i M t) x w) : ∃ n p l c, x i = TV n p l c ∧ Nw M w (fun w2 => Lies w2 t (TV n p l c)) := by simpa [Facts.holds, nwT] using h
theorem nwT_put {i M : Nat} {t : Tr} {x : Nat → Value} {w : World} {n : Int} {p : Option Addr} {l c : Nat} (h : Nw M w (fun w2 => Lies w2 t (TV n p l c))) : Facts.holds (nwT i M t) (Facts.put x i (TV n p l c)) w := ⟨n, p, l, c, by simp [Facts.put, nwT], h⟩
theorem nwT_stays (i M : Nat) (t : Tr) : staysF (nwT i M t) := fun _ _ _ ⟨n, p, l, c, e, h⟩ hb => ⟨n, p, l, c, e, h.later hb⟩
theorem wp_index {op : Oper} {a : Act} {w : World} {K : Act → World → Prop} {Q : Exit → Act → World → Prop} (x y : Operand) (ho : op.op = .indexAddr 22 x y) (q l c k : Nat) (hx : a.eval x = .slice (some ⟨q, 0, none⟩) l c) (hy : a.eval y = .int .i64 k) (hk : k < l) (h : K (a.put op.dst (.pointer (some ⟨q, k * 2, none⟩))) w) : op.wp Try.prog a w K Q := by
  have hi1 : (k : Int) < (l : Int) := by omega
  have e : (execOp a.eval op).run Try.prog w = .ok (.value (.pointer (some ⟨q, k * 2, none⟩))) w := by
    unfold execOp
    simp only [ho, hx, hy]
    go_simp
  unfold Oper.wp
  rw [e]
  exact h
/-- What a round finds: those that are copied, all new, and those that are as they were, with what is known of their calls. -/
def LoopI (w : World) (p1 : Option Addr) (l : Nat) (kids : Fin l → Tr) (B k : Nat) (wr : World) : Prop := 0 < l → ∃ q cur, p1 = some ⟨q, 0, none⟩ ∧ B + 2 ≤ q ∧ Rw wr q 24 cur ∧ l * 2 ≤ cur.size ∧
  (∀ i (hi : i < l), i < k → ∃ n0 p0 l0 c0, Tat wr q (i * 2) n0 p0 l0 c0 ∧ Nw (q + 1) wr (fun w2 => Lies w2 (kids ⟨i, hi⟩) (TV n0 p0 l0 c0))) ∧
  ∀ i (hi : i < l), k ≤ i → ∃ n0 p0 l0 c0, Tat wr q (i * 2) n0 p0 l0 c0 ∧ ∀ w1, Below w.heap.size w w1 → Calls Try.prog 62 #[TV n0 p0 l0 c0] w1 (GivesN (kids ⟨i, hi⟩) w1)
set_option maxHeartbeats 8000000 in
set_option maxRecDepth 100000 in
theorem copy_tr : ∀ (t : Tr) (n : Int) (p : Option Addr) (l c : Nat) (w : World), Lies w t (TV n p l c) → nar t → Calls Try.prog 62 #[TV n p l c] w (GivesN t w)
  | ⟨m, len, kids⟩, n, p, l, c, w, ⟨hnb, hl, p', c', e, hk⟩, hnar => by
    have RR : Hid (∀ (i : Nat) (hi : i < len) (n0 : Int) (p0 : Option Addr) (l0 c0 : Nat) (w1 : World), Lies w1 (kids ⟨i, hi⟩) (TV n0 p0 l0 c0) → Calls Try.prog 62 #[TV n0 p0 l0 c0] w1 (GivesN (kids ⟨i, hi⟩) w1)) := fun i hi n0 p0 l0 c0 w1 h => copy_tr (kids ⟨i, hi⟩) n0 p0 l0 c0 w1 h (hnar.2 ⟨i, hi⟩)
    simp at e
    obtain ⟨rfl, rfl, rfl, rfl⟩ := e
    have hlen : l ≤ 1000 := hnar.1
    have HL : Hid (l ≤ maxLen) := hl
    have HNB : Hid (-9223372036854775808 ≤ n ∧ n ≤ 9223372036854775807) := hnb
    obtain ⟨h1, h2, hbel⟩ := two_box w n p l c 0 none 0 0 _ rfl
    have hK : Kd w p l := fun h0 => by
      obtain ⟨g, o, e, hks⟩ := hk h0
      exact ⟨g, o, e, fun i hi => by obtain ⟨n0, p0, l0, c0, t0, _⟩ := hks i hi; exact ⟨n0, p0, l0, c0, t0⟩⟩
    have rc := fun w1 (hb : Below w.heap.size w w1) => cloneT_any p l c w1 hlen (fun h0 => by
      obtain ⟨g, o, e, hks⟩ := hK h0
      exact ⟨g, o, e, fun i hi => by obtain ⟨n0, p0, l0, c0, t0⟩ := hks i hi; exact ⟨n0, p0, l0, c0, t0.later hb⟩⟩)
    have HR : Hid (∀ (g o : Nat), p = some ⟨g, o, none⟩ → ∀ i, (hi : i < l) → ∃ n0 p0 l0 c0, Tat w g (o + i * 2) n0 p0 l0 c0 ∧ ∀ w1, Below w.heap.size w w1 → Calls Try.prog 62 #[TV n0 p0 l0 c0] w1 (GivesN (kids ⟨i, hi⟩) w1)) := by
      intro g o hp i hi
      obtain ⟨g', o', e, hks⟩ := hk (by omega)
      rw [hp] at e
      cases e
      obtain ⟨n0, p0, l0, c0, t0, k0⟩ := hks i hi
      exact ⟨n0, p0, l0, c0, t0, fun w1 hb => RR.out i hi n0 p0 l0 c0 w1 (k0.later hb)⟩
    have HKK : Hid (Kd w p l) := hK
    clear hK hk RR hnar hnb hl
    have g1 := h1.cell1
    go_enter Try.func62, Try.ntmps62
    go_wp2_with fail
    refine (rc _ hbel).mono ?_
    rintro e w1 ⟨p1, c1, rfl, H1, hb1⟩
    replace h1 := h1.later hb1
    replace h2 := h2.later hb1
    have hb0 := hbel
    replace hbel := below_on hbel hb1
    have gc := h1.cell1
    have gf := rw_frozen (t := 24) h1 1
    have x1 := bx_kids h1 p1 l c1
    have x2 : Bx (w1.setCell ⟨w.heap.size, 1, none⟩ (.slice p1 l c1)) (w.heap.size + 1) 0 none 0 0 := (Below.heap_setCell w1 ⟨w.heap.size, 1, none⟩ _ _ (by simp)).trans h2
    have hbel2 : Below w.heap.size w (w1.setCell ⟨w.heap.size, 1, none⟩ (.slice p1 l c1)) := hbel.setCell (Nat.le_refl _) _
    have HLI : LoopI w p1 l kids w.heap.size 0 (w1.setCell ⟨w.heap.size, 1, none⟩ (.slice p1 l c1)) := fun h0 => by
      obtain ⟨q, cur, e, hq, hrow, hcs, ht⟩ := H1 h0
      have hq2 : w.heap.size + 2 ≤ q := by simpa using hq
      have same : (w1.setCell ⟨w.heap.size, 1, none⟩ (.slice p1 l c1)).heap[q]? = w1.heap[q]? := Below.heap_setCell w1 ⟨w.heap.size, 1, none⟩ _ _ (by simp; omega)
      refine ⟨q, cur, e, hq2, same.trans hrow, hcs, fun i hi h => absurd h (by omega), fun i hi _ => ?_⟩
      obtain ⟨g, o, e2, _⟩ := HKK.out h0
      obtain ⟨n0, p0, l0, c0, t0, hC⟩ := HR.out g o e2 i hi
      exact ⟨n0, p0, l0, c0, tat_same (ht g o e2 i hi _ _ _ _ (t0.later hb0)) same, hC⟩
    generalize hw : w1.setCell ⟨w.heap.size, 1, none⟩ (.slice p1 l c1) = v at x1 x2 hbel2 HLI
    clear g1 rc HR HKK H1 hb0 hb1
    have g1 := x1.cell1
    go_wp2_with (first | rw [hw])
    clear hw gc gf h1 h2 hbel
    go_loopw [12] (fun vi wr => ∃ k : Nat, vi = .int .i64 k ∧ k ≤ l ∧ Bx wr w.heap.size n p1 l c1 ∧ Bx wr (w.heap.size + 1) 0 none 0 0 ∧ LoopI w p1 l kids w.heap.size k wr ∧ Below w.heap.size w wr) (fun vi _ => l - (intOf vi).toNat)
    case atStart => exact ⟨0, rfl, by omega, x1, x2, HLI, hbel2⟩
    case round =>
      clear x1 x2 HLI hbel2 g1
      obtain ⟨k, rfl, hk, h1, h2, HLI, hbel⟩ := hrel
      by_cases hlt : k < l
      · obtain ⟨q, cur, rfl, hq, hrow, hcs, HD, HT⟩ := HLI (by omega)
        obtain ⟨n0, p0, l0, c0, t0, hC⟩ := HT k hlt (Nat.le_refl _)
        have hi1 : (k : Int) < (l : Int) := by omega
        have m5 := bx_new wr 0 none 0 0
        have b5 := new_box wr n0 p0 l0 c0
        have hb1 := new_below wr n0 p0 l0 c0
        generalize hw : (wr.alloc (.cells #[.int .i64 0, .slice none 0 0] 24)).setRow wr.heap.size #[.int .i64 n0, .slice p0 l0 c0] = v at b5 hb1
        have g1 := h1.cell1
        have h1' := h1.later hb1
        have h2' := h2.later hb1
        have hrow' := hrow.later hb1
        have hbel' := below_on hbel hb1
        go_wp2_with (first | rw [hw] | refine load_t _ rfl rfl _ _ rfl t0 ?_ | refine store_t rfl _ _ rfl _ n0 p0 l0 c0 rfl rfl m5 ?_)
        clear m5 hw t0 h1 h2 hrow hbel
        generalize wr.heap.size = g5 at b5 ⊢
        have hql := hrow'.lt
        have hS : Calm.Stays (fun w' => Below v.heap.size v w') := fun wa wb h hb => below_on h hb
        have hF : Facts.Stay [eqF 0 (.pointer (some ⟨w.heap.size, 1, none⟩)), eqF 1 (.slice (some ⟨q, 0, none⟩) l c1), eqF 2 (.int .i64 k), eqF 3 (TV n0 p0 l0 c0), nwT 4 (q + 1) (kids ⟨k, hlt⟩)] := stay_of (by simp only [List.forall_mem_cons]; exact ⟨eqF_stays _ _, eqF_stays _ _, eqF_stays _ _, eqF_stays _ _, nwT_stays _ _ _, fun _ h => by cases h⟩)
        refine Facts.regionTail (by kernel_rfl) (by kernel_rfl) 5 (by decide) (by kernel_rfl) (fun w' => Below v.heap.size v w') (fun x => { tmps := #[TV n p l c, Value.pointer (some { block := w.heap.size, off := 0 }), Value.pointer (some { block := w.heap.size + 1, off := 0 }), Value.int IntKind.i64 ↑k, Value.pointer (some { block := g5, off := 0 }), Value.pointer (some { block := w.heap.size, off := 1 }), Value.slice p l c, Value.slice (some { block := q, off := 0 }) l c1, Value.pointer (some { block := w.heap.size, off := 1 }), Value.pointer (some { block := w.heap.size, off := 1 }), Value.slice (some { block := q, off := 0 }) l c1, Value.int IntKind.i64 ↑l, Value.int IntKind.i64 ↑k, Value.bool true, Value.int IntKind.i64 ↑k, Value.pointer (some { block := q, off := k * 2 }), TV n0 p0 l0 c0, x 0, x 1, x 2, x 3, x 4, u22, u23, undef], defers := [] }) [eqF 0 (.pointer (some ⟨w.heap.size, 1, none⟩)), eqF 1 (.slice (some ⟨q, 0, none⟩) l c1), eqF 2 (.int .i64 k), eqF 3 (TV n0 p0 l0 c0), nwT 4 (q + 1) (kids ⟨k, hlt⟩)] _ rfl rfl (by kernel_rfl) (fun i => match i with | 0 => u17 | 1 => u18 | 2 => u19 | 3 => u20 | _ => u21) rfl (Below.refl _ _).drew ⟨?_, ?_, ?_, ?_, ?_, ?_, ?_, trivial⟩ ?_
        · exact fun _ => Facts.pure hS hF (fun _ _ => rfl) rfl (fun x wv hSw hd => by
            go_simp)
        · exact fun _ => Facts.pure hS hF (fun _ _ => rfl) rfl (fun x wv hSw hd => by
            have d0 := eqF_get (hd ⟨0, .data⟩ (by simp) rfl _ rfl)
            have g := (h1'.later hSw).cell1
            simp only [d0]
            go_simp)
        · exact fun _ => Facts.pure hS hF (fun _ _ => rfl) rfl (fun x wv hSw hd => by
            go_simp)
        · exact fun _ => Facts.loadT hS hF (fun _ _ => rfl) _ rfl rfl (fun x wv hSw hd => by rfl) (fun wv hSw => (b5.later hSw).tat)
        · refine fun _ => Facts.call1F hS hF (fun _ _ => rfl) rfl (by kernel_rfl) rfl (fun x wv hSw hd => ?_)
          have d3 := eqF_get (hd ⟨3, .data⟩ (by simp) rfl _ rfl)
          have hc := hC wv (below_on hbel' hSw)
          rw [← d3] at hc
          exact hc.mono fun _ _ ⟨n, p, l, c, he, hN, hb⟩ => ⟨_, he, hb, nwT_put (hN.mono (by have := hSw.size; omega))⟩
        · exact fun h => absurd h (by decide)
        · exact fun h => absurd h (by decide)
        rintro x w9 hSw hf
        have e0 := eqF_get (hf 0 _ rfl)
        have e1 := eqF_get (hf 1 _ rfl)
        have e2 := eqF_get (hf 2 _ rfl)
        have e3 := eqF_get (hf 3 _ rfl)
        obtain ⟨n5, p5, l5, c5, e4, hN⟩ := nwT_get (hf 4 _ rfl)
        clear hf hF hS hC
        simp only [e0, e1, e2, e3, e4]
        clear e0 e1 e2 e3 e4
        refine wp_index _ _ rfl q l _ k rfl rfl hlt ?_
        have y1 := h1'.later hSw
        have y2 := h2'.later hSw
        have hrow9 := hrow'.later hSw
        have hbel9 := below_on hbel' hSw
        have hth : w9.there q (k * 2) 2 := there_row hrow9 _ (by omega)
        have v0 := tat_put hth n5 p5 l5 c5
        obtain ⟨cur2, hrow2, hcs2⟩ := rw_put hrow9 (k * 2) (.int .i64 n5) (.slice p5 l5 c5)
        have hL2 : LoopI w (some ⟨q, 0, none⟩) l kids w.heap.size (k + 1) (w9.setCells q (k * 2) [.int .i64 n5, .slice p5 l5 c5]) := fun _ => by
          refine ⟨q, cur2, rfl, hq, hrow2, by omega, fun i hi h => ?_, fun i hi h => ?_⟩
          · by_cases e : i = k
            · subst e
              exact ⟨n5, p5, l5, c5, v0, hN.put (by omega) _ _ _⟩
            · obtain ⟨n0, p0, l0, c0, ht, hn⟩ := HD i hi (by omega)
              exact ⟨n0, p0, l0, c0, tat_apart ((ht.later hb1).later hSw) (by omega) _ _ _ _, ((hn.later hb1).later hSw).put (by omega) _ _ _⟩
          · obtain ⟨n0, p0, l0, c0, ht, hn⟩ := HT i hi (by omega)
            exact ⟨n0, p0, l0, c0, tat_apart ((ht.later hb1).later hSw) (by omega) _ _ _ _, hn⟩
        have x1 : Bx (w9.setCells q (k * 2) [.int .i64 n5, .slice p5 l5 c5]) w.heap.size n (some ⟨q, 0, none⟩) l c1 := (put_other (by omega) _ _ _).trans y1
        have x2 : Bx (w9.setCells q (k * 2) [.int .i64 n5, .slice p5 l5 c5]) (w.heap.size + 1) 0 none 0 0 := (put_other (by omega) _ _ _).trans y2
        have hbel2 := below_put hbel9 (q := q) (o := k * 2) (by omega) n5 p5 l5 c5
        refine wp_store_mid 24 _ _ rfl q (k * 2) #[.int .i64 n5, .slice p5 l5 c5] rfl rfl hth size24 (by simp [Value.oneCell']) ?_
        refine Facts.tailWp_nil ?_
        generalize w9.setCells q (k * 2) [.int .i64 n5, .slice p5 l5 c5] = w4 at x1 x2 hL2 hbel2
        clear y1 y2 hrow9 hbel9 hth v0 hrow2 hN hb1 HD HT hSw hbel' h1' h2' hrow' b5
        go_wp2
        go_roundw
        case rel => exact ⟨k + 1, by simp, by omega, x1, x2, hL2, hbel2⟩
        case measure => simp [intOf]; omega
      · have hk' : k = l := by omega
        subst hk'
        have g0 := h1.cell0
        have g1 := h1.cell1
        have R := below_setRow hbel (g := w.heap.size + 1) (by omega) #[.int .i64 n, .slice p1 k c1]
        have HP : Hid (Nw w.heap.size (wr.setRow (w.heap.size + 1) #[.int .i64 n, .slice p1 k c1]) (fun w2 => Lies w2 ⟨n, k, kids⟩ (TV n p1 k c1))) := show Nw _ _ _ from fun w2 hw2 => by
          refine ⟨HNB.out, HL.out, p1, c1, rfl, fun h0 => ?_⟩
          obtain ⟨q, cur, rfl, hq, hrow, hcs, HD, _⟩ := HLI h0
          have hql := hrow.lt
          refine ⟨q, 0, rfl, fun i hi => ?_⟩
          obtain ⟨n0, p0, l0, c0, ht, hn⟩ := HD i hi hi
          have eq : w2.heap[q]? = wr.heap[q]? := (hw2 q (by omega) (by simpa using hql)).trans (setRow_other _ _ _ _ (by omega))
          refine ⟨n0, p0, l0, c0, ?_, hn w2 fun b h0 h1 => (hw2 b (by omega) (by simpa using h1)).trans (setRow_other _ _ _ _ (by omega))⟩
          rw [Nat.zero_add]
          exact tat_same ht eq
        clear HLI hbel
        go_wp2_with (first | refine load_t _ rfl rfl _ _ rfl h1.tat ?_ | refine store_t rfl _ _ rfl _ n p1 k c1 rfl rfl h2 ?_)
        exact bodyPost_ret (results_t rfl rfl (h2.row _ _ _ _)) rfl ⟨_, _, _, _, rfl, HP.out, R⟩
end Go.Proofs.Ytmcajjdijjcpkaa
/- How many parts a tree has: partsLeft of package stamp; Size and Few of the document's answer. -/
namespace Go.Proofs.Ytmcajjdijjcpkaa
open Go.RowKit
open Idn (ID)

def sumN : Nat → (Nat → Nat) → Nat
  | 0, _ => 0
  | k + 1, f => sumN k f + f k
/-- How many nodes. -/
def sz : Tr → Nat
  | ⟨_, len, kids⟩ => 1 + sumN len fun i => if h : i < len then sz (kids ⟨i, h⟩) else 0
theorem sumN_le : ∀ (k n : Nat) (f : Nat → Nat), k ≤ n → sumN k f ≤ sumN n f
  | k, 0, f, h => by
    obtain rfl : k = 0 := by omega
    exact Nat.le_refl _
  | k, n + 1, f, h => by
    rcases Nat.lt_or_ge k (n + 1) with h1 | h1
    · have := sumN_le k n f (by omega)
      simp only [sumN]
      omega
    · obtain rfl : k = n + 1 := by omega
      exact Nat.le_refl _
theorem sumN_at (n : Nat) (f : Nat → Nat) (k : Nat) (h : k < n) : sumN k f + f k ≤ sumN n f := sumN_le (k + 1) n f h
theorem sumN_ge : ∀ (n : Nat) (f : Nat → Nat), (∀ i, i < n → 1 ≤ f i) → n ≤ sumN n f
  | 0, _, _ => Nat.le_refl _
  | n + 1, f, h => by
    have := sumN_ge n f fun i hi => h i (by omega)
    have := h n (by omega)
    simp only [sumN]
    omega
theorem sz_pos : ∀ t : Tr, 1 ≤ sz t
  | ⟨_, _, _⟩ => by
    unfold sz
    omega
theorem nar_of_sz : ∀ t : Tr, sz t ≤ 1000 → nar t
  | ⟨n, len, kids⟩, h => by
    have RR : ∀ (i : Nat) (hi : i < len), sz (kids ⟨i, hi⟩) ≤ 1000 → nar (kids ⟨i, hi⟩) := fun i hi => nar_of_sz (kids ⟨i, hi⟩)
    unfold sz at h
    unfold nar
    constructor
    · have := sumN_ge len (fun i => if h : i < len then sz (kids ⟨i, h⟩) else 0) fun i hi => by simp only [hi, dif_pos]; exact sz_pos _
      omega
    · rintro ⟨i, hi⟩
      have := sumN_at len (fun i => if h : i < len then sz (kids ⟨i, h⟩) else 0) i hi
      simp only [hi, dif_pos] at this
      exact RR i hi (by omega)

set_option maxHeartbeats 2000000 in
set_option maxRecDepth 100000 in
theorem size_sz : ∀ (t : Tr) (most : Int) (n : Int) (p : Option Addr) (l c : Nat) (w : World), Lies w t (TV n p l c) → 0 ≤ most → most ≤ 1000 →
    Calls Try.prog 56 #[TV n p l c, .int .i64 most] w fun e w' => ∃ z : Int, e = .returned (.int .i64 z) ∧ 1 ≤ z ∧ z ≤ most + 1 ∧ (z ≤ most → (sz t : Int) = z) ∧ Below w.heap.size w w'
  | ⟨m, len, kids⟩, most, n, p, l, c, w, ⟨_, hl, p', c', e, hk⟩, hm0, hm1 => by
    have RR : Hid (∀ (i : Nat) (hi : i < len) (mo : Int) (n0 : Int) (p0 : Option Addr) (l0 c0 : Nat) (w1 : World), Lies w1 (kids ⟨i, hi⟩) (TV n0 p0 l0 c0) → 0 ≤ mo → mo ≤ 1000 → Calls Try.prog 56 #[TV n0 p0 l0 c0, .int .i64 mo] w1 fun e w' => ∃ z : Int, e = .returned (.int .i64 z) ∧ 1 ≤ z ∧ z ≤ mo + 1 ∧ (z ≤ mo → (sz (kids ⟨i, hi⟩) : Int) = z) ∧ Below w1.heap.size w1 w') := fun i hi mo n0 p0 l0 c0 w1 h h0 h1 => size_sz (kids ⟨i, hi⟩) mo n0 p0 l0 c0 w1 h h0 h1
    simp at e
    obtain ⟨rfl, rfl, rfl, rfl⟩ := e
    obtain ⟨h1, hbel⟩ := one_box w n p l c _ rfl
    obtain ⟨f, HF⟩ : ∃ f : Nat → Nat, Hid (∀ i (hi : i < l), f i = sz (kids ⟨i, hi⟩)) := ⟨fun i => if h : i < l then sz (kids ⟨i, h⟩) else 0, show ∀ i, _ from fun i hi => by simp only [hi, dif_pos]⟩
    have HT : Hid (sz ⟨n, l, kids⟩ = 1 + sumN l f) := by
      show _ = _
      unfold sz
      congr 1
      have : ∀ k, k ≤ l → sumN k (fun i => if h : i < l then sz (kids ⟨i, h⟩) else 0) = sumN k f := by
        intro k
        induction k with
        | zero => intro _; rfl
        | succ k ih =>
          intro hk
          simp only [sumN]
          rw [ih (by omega), HF.out k (by omega), dif_pos (by omega)]
      exact this l (Nat.le_refl _)
    obtain ⟨T, HT2⟩ : ∃ T : Nat, Hid (sz ⟨n, l, kids⟩ = T) := ⟨_, rfl⟩
    rw [HT2.out] at HT
    have rr : ∀ i, i < l → ∃ g o n0 p0 l0 c0, p = some ⟨g, o, none⟩ ∧ Tat w g (o + i * 2) n0 p0 l0 c0 ∧ ∀ w1, Below w.heap.size w w1 → ∀ mo : Int, 0 ≤ mo → mo ≤ 1000 → Calls Try.prog 56 #[TV n0 p0 l0 c0, .int .i64 mo] w1 fun e w' => ∃ z : Int, e = .returned (.int .i64 z) ∧ 1 ≤ z ∧ z ≤ mo + 1 ∧ (z ≤ mo → (f i : Int) = z) ∧ Below w1.heap.size w1 w' := by
      intro i hi
      obtain ⟨g, o, hp, hks⟩ := hk (by omega)
      obtain ⟨n0, p0, l0, c0, t0, k0⟩ := hks i hi
      refine ⟨g, o, n0, p0, l0, c0, hp, t0, fun w1 hb mo h0 h1 => ?_⟩
      rw [HF.out i hi]
      exact RR.out i hi mo n0 p0 l0 c0 w1 (k0.later hb) h0 h1
    clear hk RR HF
    have HR : Hid (∀ i, i < l → ∃ g o n0 p0 l0 c0, p = some ⟨g, o, none⟩ ∧ Tat w g (o + i * 2) n0 p0 l0 c0 ∧ ∀ w1, Below w.heap.size w w1 → ∀ mo : Int, 0 ≤ mo → mo ≤ 1000 → Calls Try.prog 56 #[TV n0 p0 l0 c0, .int .i64 mo] w1 fun e w' => ∃ z : Int, e = .returned (.int .i64 z) ∧ 1 ≤ z ∧ z ≤ mo + 1 ∧ (z ≤ mo → (f i : Int) = z) ∧ Below w1.heap.size w1 w') := rr
    clear rr
    have hml : l ≤ 9223372036854775807 := by unfold maxLen at hl; omega
    rw [HT2.out]
    clear HT2
    go_enter Try.func56, Try.ntmps56
    go_wp2
    go_loopw [5, 6] (fun vz vi wr => ∃ (k : Nat) (z : Int), vi = .int .i64 k ∧ vz = .int .i64 z ∧ k ≤ l ∧ 1 ≤ z ∧ z ≤ most + 1 ∧ Hid (z ≤ most → (z : Int) = 1 + (sumN k f : Nat)) ∧ Bx wr w.heap.size n p l c ∧ Below w.heap.size w wr) (fun _ vi _ => l - (intOf vi).toNat)
    case atStart => exact ⟨0, 1, rfl, rfl, by omega, by omega, by omega, (show _ → _ from fun _ => rfl), h1, hbel⟩
    case round =>
      clear h1 hbel
      obtain ⟨k, z, rfl, rfl, hk, hz1, hz2, HS, h1, hbel⟩ := hrel
      have g1 := h1.cell1
      by_cases hlt : k < l
      · by_cases hzm : z ≤ most
        · obtain ⟨g, o, n0, p0, l0, c0, rfl, t0, hC⟩ := HR.out k hlt
          replace t0 := t0.later hbel
          replace hC := hC wr hbel (most - z) (by omega) (by omega)
          have hi1 : (k : Int) < (l : Int) := by omega
          have hS := HS.out hzm
          clear HR HS
          have HS : Hid (z = 1 + (sumN k f : Nat)) := hS
          clear hS
          go_wp2_with (refine load_t _ rfl rfl _ _ rfl t0 ?_)
          refine hC.mono ?_
          rintro e w1 ⟨s, rfl, hs1, hs2, hs3, hb1⟩
          replace h1 := h1.later hb1
          replace hbel := below_on hbel hb1
          have HS2 : Hid (z + s ≤ most → (z + s : Int) = 1 + (sumN (k + 1) f : Nat)) := show _ → _ from fun h => by
            have := hs3 (by omega)
            have := HS.out
            simp only [sumN]
            omega
          clear hC hb1 t0 g1 hs3 HS
          go_wp2
          go_roundw
          case rel => exact ⟨k + 1, z + s, by simp, by simp, by omega, by omega, by omega, HS2, h1, hbel⟩
          case measure => simp [intOf]; omega
        · have hi1 : (k : Int) < (l : Int) := by omega
          have hi2 : ¬ z ≤ most := hzm
          have H9 : Hid (z ≤ most → (T : Int) = z) := show _ → _ from fun h => absurd h hzm
          clear HR HS
          go_wp2
          go_ret
          exact ⟨_, rfl, hz1, hz2, H9.out, hbel⟩
      · have hk : k = l := by omega
        subst hk
        have H9 : Hid (z ≤ most → (T : Int) = z) := show _ → _ from fun h => by
          have := HS.out h
          have := HT.out
          omega
        clear HR HS
        go_wp2
        go_ret
        exact ⟨_, rfl, hz1, hz2, H9.out, hbel⟩
set_option maxHeartbeats 2000000 in
set_option maxRecDepth 100000 in
theorem few_sz (t : Tr) (n : Int) (p : Option Addr) (l c : Nat) (w : World) (h : Lies w t (TV n p l c)) : Calls Try.prog 29 #[TV n p l c] w fun e w' => ∃ b : Bool, e = .returned (.bool b) ∧ (b = true → sz t ≤ 120) ∧ Below w.heap.size w w' := by
  obtain ⟨h1, hbel⟩ := one_box w n p l c _ rfl
  have hC := size_sz t 120 n p l c _ (h.later hbel) (by omega) (by omega)
  clear h
  go_enter Try.func29, Try.ntmps29
  go_wp2_with (refine load_t _ rfl rfl _ _ rfl h1.tat ?_)
  refine hC.mono ?_
  rintro e w1 ⟨s, rfl, hs1, hs2, hs3, hb1⟩
  replace hbel := below_on hbel hb1
  have HS : Hid (decide (s ≤ 120) = true → sz t ≤ 120) := show _ → _ from fun h => by
    have h' : s ≤ 120 := by simpa using h
    have := hs3 h'
    omega
  clear hC hb1 h1 hs3
  go_wp2
  go_ret
  exact ⟨_, rfl, HS.out, hbel⟩
/-- So many levels at most lie below it. -/
def dpt : Nat → Tr → Prop
  | 0, t => t.len = 0
  | d + 1, t => ∀ i, dpt d (t.kids i)
theorem dpt_kid {d : Nat} {n : Int} {len : Nat} {kids : Fin len → Tr} (h : dpt d ⟨n, len, kids⟩) (i : Nat) (hi : i < len) : 1 ≤ d ∧ dpt (d - 1) (kids ⟨i, hi⟩) := by
  cases d with
  | zero => exact absurd (show len = 0 from h) (by omega)
  | succ d => exact ⟨by omega, h ⟨i, hi⟩⟩
theorem dpt_of_sz : ∀ (d : Nat) (t : Tr), sz t ≤ d + 1 → dpt d t
  | 0, ⟨n, len, kids⟩, h => by
    show len = 0
    unfold sz at h
    rcases Nat.eq_zero_or_pos len with h0 | h0
    · exact h0
    · have := sumN_at len (fun i => if h : i < len then sz (kids ⟨i, h⟩) else 0) 0 h0
      simp only [h0, dif_pos] at this
      have := sz_pos (kids ⟨0, h0⟩)
      omega
  | d + 1, ⟨n, len, kids⟩, h => by
    rintro ⟨i, hi⟩
    unfold sz at h
    have := sumN_at len (fun i => if h : i < len then sz (kids ⟨i, h⟩) else 0) i hi
    simp only [hi, dif_pos] at this
    exact dpt_of_sz d (kids ⟨i, hi⟩) (by omega)

set_option maxHeartbeats 4000000 in
set_option maxRecDepth 100000 in
theorem parts_tr : ∀ (t : Tr) (D : Nat) (within left : Int) (n : Int) (p : Option Addr) (l c : Nat) (w : World), Lies w t (TV n p l c) → dpt D t → (D : Int) ≤ within → (sz t : Int) ≤ left → within ≤ 100000 → left ≤ 100000000 →
    Calls Try.prog 61 #[TV n p l c, .int .i64 within, .int .i64 left] w (Tells (.int .i64 (left - (sz t : Int))) w)
  | ⟨m, len, kids⟩, D, within, left, n, p, l, c, w, ⟨_, hl, p', c', e, hk⟩, hd, hw, hL, hw1, hL1 => by
    have RR : Hid (∀ (i : Nat) (hi : i < len) (wi le : Int) (n0 : Int) (p0 : Option Addr) (l0 c0 : Nat) (w1 : World), Lies w1 (kids ⟨i, hi⟩) (TV n0 p0 l0 c0) → (D : Int) - 1 ≤ wi → (sz (kids ⟨i, hi⟩) : Int) ≤ le → wi ≤ 100000 → le ≤ 100000000 → Calls Try.prog 61 #[TV n0 p0 l0 c0, .int .i64 wi, .int .i64 le] w1 (Tells (.int .i64 (le - (sz (kids ⟨i, hi⟩) : Int))) w1)) := fun i hi wi le n0 p0 l0 c0 w1 h a b c d => parts_tr (kids ⟨i, hi⟩) (D - 1) wi le n0 p0 l0 c0 w1 h (dpt_kid hd i hi).2 (by have := (dpt_kid hd i hi).1; omega) b c d
    have hD : ∀ i, i < len → 1 ≤ D := fun i hi => (dpt_kid hd i hi).1
    clear hd
    simp at e
    obtain ⟨rfl, rfl, rfl, rfl⟩ := e
    obtain ⟨h1, hbel⟩ := one_box w n p l c _ rfl
    obtain ⟨f, HF⟩ : ∃ f : Nat → Nat, Hid (∀ i (hi : i < l), f i = sz (kids ⟨i, hi⟩)) := ⟨fun i => if h : i < l then sz (kids ⟨i, h⟩) else 0, show ∀ i, _ from fun i hi => by simp only [hi, dif_pos]⟩
    have HT : Hid (sz ⟨n, l, kids⟩ = 1 + sumN l f) := by
      show _ = _
      unfold sz
      congr 1
      have : ∀ k, k ≤ l → sumN k (fun i => if h : i < l then sz (kids ⟨i, h⟩) else 0) = sumN k f := by
        intro k
        induction k with
        | zero => intro _; rfl
        | succ k ih =>
          intro hk
          simp only [sumN]
          rw [ih (by omega), HF.out k (by omega), dif_pos (by omega)]
      exact this l (Nat.le_refl _)
    obtain ⟨T, HT2⟩ : ∃ T : Nat, Hid (sz ⟨n, l, kids⟩ = T) := ⟨_, rfl⟩
    rw [HT2.out] at HT hL ⊢
    have HU : ∀ k, k < l → sumN k f + f k ≤ sumN l f := fun k hk => sumN_at l f k hk
    have rr : ∀ i, i < l → ∃ g o n0 p0 l0 c0, p = some ⟨g, o, none⟩ ∧ Tat w g (o + i * 2) n0 p0 l0 c0 ∧ ∀ w1, Below w.heap.size w w1 → ∀ wi le : Int, (D : Int) - 1 ≤ wi → (f i : Int) ≤ le → wi ≤ 100000 → le ≤ 100000000 → Calls Try.prog 61 #[TV n0 p0 l0 c0, .int .i64 wi, .int .i64 le] w1 (Tells (.int .i64 (le - (f i : Int))) w1) := by
      intro i hi
      obtain ⟨g, o, hp, hks⟩ := hk (by omega)
      obtain ⟨n0, p0, l0, c0, t0, k0⟩ := hks i hi
      refine ⟨g, o, n0, p0, l0, c0, hp, t0, fun w1 hb wi le a b c d => ?_⟩
      rw [HF.out i hi] at b ⊢
      exact RR.out i hi wi le n0 p0 l0 c0 w1 (k0.later hb) a b c d
    have HR : Hid (∀ i, i < l → ∃ g o n0 p0 l0 c0, p = some ⟨g, o, none⟩ ∧ Tat w g (o + i * 2) n0 p0 l0 c0 ∧ ∀ w1, Below w.heap.size w w1 → ∀ wi le : Int, (D : Int) - 1 ≤ wi → (f i : Int) ≤ le → wi ≤ 100000 → le ≤ 100000000 → Calls Try.prog 61 #[TV n0 p0 l0 c0, .int .i64 wi, .int .i64 le] w1 (Tells (.int .i64 (le - (f i : Int))) w1)) := rr
    have HUU : Hid (∀ k, k < l → sumN k f + f k ≤ sumN l f) := HU
    clear hk RR HF rr HT2 HU
    have hml : l ≤ 9223372036854775807 := by unfold maxLen at hl; omega
    have hT1 : 1 ≤ T := by have := HT.out; omega
    obtain ⟨res, HRES⟩ : ∃ r : Int, Hid (left - (T : Int) = r) := ⟨_, rfl⟩
    rw [HRES.out]
    have g1 := h1.cell1
    go_enter Try.func61, Try.ntmps61
    go_wp2
    go_loopw [2, 14] (fun vL vi wr => ∃ (k : Nat) (z : Int), vi = .int .i64 k ∧ vL = .int .i64 z ∧ k ≤ l ∧ Hid (z = left - 1 - (sumN k f : Nat)) ∧ Below w.heap.size w wr) (fun _ vi _ => l - (intOf vi).toNat)
    case atStart => exact ⟨0, left - 1, rfl, rfl, by omega, (show _ = _ by simp [sumN]), hbel⟩
    case round =>
      clear h1 hbel g1
      obtain ⟨k, z, rfl, rfl, hk, HS, hbel⟩ := hrel
      by_cases hlt : k < l
      · obtain ⟨g, o, n0, p0, l0, c0, rfl, t0, hC⟩ := HR.out k hlt
        replace t0 := t0.later hbel
        have hi1 : (k : Int) < (l : Int) := by omega
        have hD1 := hD k hlt
        have hz0 : (0 ≤ z ∧ z ≤ 100000000) ∧ (f k : Int) ≤ z ∧ (D : Int) - 1 ≤ within - 1 := by
          have := HS.out
          have := HUU.out k hlt
          have := HT.out
          omega
        obtain ⟨⟨hz1, hz2⟩, hz3, hz4⟩ := hz0
        have hz5 : ¬ z < 0 := by omega
        have hw0 : ¬ within = 0 := by omega
        have m5 := bx_new wr 0 none 0 0
        have b5 := new_box wr n0 p0 l0 c0
        have hb1 := new_below wr n0 p0 l0 c0
        generalize hw : (wr.alloc (.cells #[.int .i64 0, .slice none 0 0] 24)).setRow wr.heap.size #[.int .i64 n0, .slice p0 l0 c0] = v at b5 hb1
        replace hbel := below_on hbel hb1
        replace hC := hC v hbel (within - 1) z hz4 hz3 (by omega) (by omega)
        have HS2 : Hid (z - (f k : Int) = left - 1 - (sumN (k + 1) f : Nat)) := by
          show _ = _
          have := HS.out
          simp only [sumN]
          omega
        have hwb : -9223372036854775808 ≤ within := by omega
        obtain ⟨y, HY⟩ : ∃ y : Int, Hid (z - (f k : Int) = y) := ⟨_, rfl⟩
        rw [HY.out] at hC HS2
        clear hb1 HR HS HUU hz3 hz4
        go_wp2_with (first | rw [hw] | refine load_t _ rfl rfl _ _ rfl t0 ?_ | refine store_t rfl _ _ rfl _ n0 p0 l0 c0 rfl rfl m5 ?_ | refine load_t _ rfl rfl _ _ rfl b5.tat ?_)
        refine hC.mono ?_
        rintro e w3 ⟨rfl, hb1⟩
        replace hbel := below_on hbel hb1
        clear hC hb1 t0 m5 b5 hw hz1 hz2 hz5 hw0
        go_wp2
        go_roundw
        case rel => exact ⟨k + 1, y, by simp, rfl, by omega, HS2, hbel⟩
        case measure => simp [intOf]; omega
      · have hk : k = l := by omega
        subst hk
        obtain rfl : z = res := by
          have := HS.out
          have := HT.out
          have := HRES.out
          omega
        clear HR HS HUU
        go_wp2
        go_ret
        exact ⟨rfl, hbel⟩
set_option maxHeartbeats 1000000 in
set_option maxRecDepth 100000 in
theorem tree_tr (t : Tr) (D : Nat) (n : Int) (p : Option Addr) (l c : Nat) (w : World) (h : Lies w t (TV n p l c)) (hn : nar t) (hd : dpt D t) (hD : D ≤ 65536) (hz : sz t ≤ 16777216) : Calls Try.prog 32 #[TV n p l c] w (GivesN t w) := by
  obtain ⟨h1, h2, hbel⟩ := two_box w n p l c 0 none 0 0 _ rfl
  have r0 := fun w1 (hb : Below w.heap.size w w1) => parts_tr t D 65536 16777216 n p l c w1 (h.later hb) hd (by omega) (by omega) (by omega) (by omega)
  have r1 := fun w1 (hb : Below w.heap.size w w1) => copy_tr t n p l c w1 (h.later hb) hn
  obtain ⟨z, HZ⟩ : ∃ z : Int, Hid (16777216 - (sz t : Int) = z) := ⟨_, rfl⟩
  have hz0 : ¬ z < 0 := by have := HZ.out; omega
  rw [HZ.out] at r0
  clear h hn hd hz HZ hD
  go_enter Try.func32, Try.ntmps32
  go_wp2_with (refine load_t _ rfl rfl _ _ rfl h1.tat ?_)
  refine (r0 _ hbel).mono ?_
  rintro e w1 ⟨rfl, hb1⟩
  replace h1 := h1.later hb1
  replace h2 := h2.later hb1
  replace hbel := below_on hbel hb1
  clear hb1 r0
  go_wp2_with (refine load_t _ rfl rfl _ _ rfl h1.tat ?_)
  refine (r1 _ hbel).mono ?_
  rintro e w2 ⟨m, q, k, d, rfl, hN, hb1⟩
  have hlt := h2.lt
  have hsz := hbel.size
  replace h2 := h2.later hb1
  have R := below_setRow (below_on hbel hb1) (g := w.heap.size + 1) (by omega) #[.int .i64 m, .slice q k d]
  have hL := (hN.row (q := w.heap.size + 1) hlt #[.int .i64 m, .slice q k d]).mono hsz
  clear hb1 hbel hN h1 r1
  go_wp2_with (refine store_t rfl _ _ rfl _ m q k d rfl rfl h2 ?_)
  exact bodyPost_ret (results_t rfl rfl (h2.row _ _ _ _)) rfl ⟨_, _, _, _, rfl, hL, R⟩
end Go.Proofs.Ytmcajjdijjcpkaa
