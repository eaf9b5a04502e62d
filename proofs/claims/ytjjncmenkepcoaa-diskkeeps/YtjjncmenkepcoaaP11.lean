import Derived.Test.YtjjncmenkepcoaaP10
import Derived.Test.YtjjncmenkepcoaaP6
import Derived.Test.YtjjncmenkepcoaaP8
/- The search of the program for layer 22 for a file's name. -/
namespace Go.Proofs.Ytjjncmenkepcoaa
open Go.RowKit

/-- Where a name stands, or would stand, and whether it is there. -/
structure Fdx (l : List FV) (x : ByteArray) (p : Nat) (b : Bool) : Prop where
  le : p ≤ l.length
  is : b = true ↔ ∃ h : p < l.length, l[p].x = x
  lo : upf l → ∀ i (h : i < l.length), i < p → fn l[i] < bs x
  hi : upf l → ∀ i (h : i < l.length), p ≤ i → ¬ fn l[i] < bs x
def FdPost (l : List FV) (x : ByteArray) (w : World) (e : Ending) (w' : World) : Prop := ∃ (p : Nat) (b : Bool), e = .returned (.tuple #[.int .i64 p, .bool b]) ∧ Fdx l x p b ∧ Below w.heap.size w w'
theorem cmpS_zero {x y : ByteArray} : cmpS x y = 0 ↔ x = y := by
  unfold cmpS
  by_cases h1 : bs x < bs y
  · rw [if_pos h1]
    exact ⟨fun h => absurd h (by decide), fun h => absurd h1 (h ▸ Bs.irr _)⟩
  · rw [if_neg h1]
    by_cases h2 : bs y < bs x
    · rw [if_pos h2]
      exact ⟨fun h => absurd h (by decide), fun h => absurd h2 (h ▸ Bs.irr _)⟩
    · rw [if_neg h2]
      exact ⟨fun _ => bs_inj (Classical.byContradiction fun e => h2 (Bs.tri h1 e)), fun _ => rfl⟩
theorem cmpS_neg {x y : ByteArray} : cmpS x y < 0 ↔ bs x < bs y := by
  unfold cmpS
  by_cases h1 : bs x < bs y
  · rw [if_pos h1]
    exact ⟨fun _ => h1, fun _ => by decide⟩
  · rw [if_neg h1]
    by_cases h2 : bs y < bs x
    · rw [if_pos h2]
      exact ⟨fun h => absurd h (by decide), fun h => absurd h h1⟩
    · rw [if_neg h2]
      exact ⟨fun h => absurd h (by decide), fun h => absurd h h1⟩
theorem up_lt {l : List FV} (h : upf l) {i j : Nat} (hi : i < l.length) (hj : j < l.length) (hij : i < j) : fn l[i] < fn l[j] := by
  unfold upf at h
  rw [List.pairwise_iff_getElem] at h
  exact h i j hi hj hij
set_option maxHeartbeats 4000000 in
set_option maxRecDepth 100000 in
theorem search_any (l : List FV) (sl : Value) (x : ByteArray) (w : World) (h : FHas w sl l) (hn : l.length ≤ 1000000) : Calls Try.prog 62 #[sl, .string x, .func (.func 63) #[] #[]] w (FdPost l x w) := by
  obtain ⟨q, c, rfl⟩ := h.slice
  have H : Hid (FHas w (.slice q l.length c) l) := h
  clear h
  go_enter Try.func62, Try.ntmps62
  go_wp2
  go_loopw [9, 10] (fun vi vj wr => ∃ a b : Nat, vi = .int .i64 a ∧ vj = .int .i64 b ∧ a ≤ b ∧ b ≤ l.length ∧ Hid (upf l → ∀ j (h : j < l.length), j < a → fn l[j] < bs x) ∧ Hid (upf l → ∀ j (h : j < l.length), b ≤ j → ¬ fn l[j] < bs x) ∧ Below w.heap.size w wr) (fun vi vj _ => (intOf vj).toNat - (intOf vi).toNat)
  case atStart => exact ⟨0, l.length, rfl, rfl, by omega, by omega, (show upf l → ∀ j (_ : j < l.length), j < 0 → _ from fun _ j _ h => by omega), (show upf l → ∀ j (_ : j < l.length), l.length ≤ j → _ from fun _ j h h' => by omega), Below.refl _ _⟩
  case round =>
    obtain ⟨a, b, rfl, rfl, hab, hbl, HV, HW, hbel⟩ := hrel
    by_cases hlt : a < b
    · have hlt' : (a : Int) < (b : Int) := by omega
      obtain ⟨m, hm⟩ : ∃ m : Nat, m = (a + b) / 2 := ⟨_, rfl⟩
      have hmi : ((a : Int) + (b : Int)) / 2 = (m : Int) := by omega
      have hm1 : a ≤ m := by omega
      have hm2 : m < b := by omega
      have hml : m < l.length := by omega
      have hm0 : (0 : Int) ≤ (m : Int) := by omega
      have hml' : (m : Int) < (l.length : Int) := by omega
      obtain ⟨g, o, s1, rfl, d00, _⟩ := H.out.at m hml
      have d0 := range_later d00 hbel
      obtain ⟨f, HF⟩ := hid_ex l[m]
      rw [HF.out] at d0
      have C1 := findc_any f s1 x wr
      have zf : (Try.prog.info? 57).map (·.size) = some [Value.string f.x, s1, .int .i64 f.k].length := sizeF
      obtain ⟨z, HZ⟩ := hid_ex (cmpS f.x x)
      rw [HZ.out] at C1
      clear hm d00
      go_wp2_with (first | rw [hmi] | refine load_m 57 _ rfl rfl _ _ rfl d0 Try.underlying57 rfl zf ?_)
      refine C1.mono ?_
      clear C1 d0
      rintro e w1 ⟨rfl, hb1⟩
      by_cases hz : z < 0
      · have hx : fn l[m] < bs x := by rw [← HZ.out] at hz; have := cmpS_neg.1 hz; rw [HF.out]; exact this
        have HV2 : Hid (upf l → ∀ j (h : j < l.length), j < m + 1 → fn l[j] < bs x) := fun hu j h hj => by
          rcases Nat.lt_or_ge j m with h' | h'
          · exact Bs.trans (up_lt hu h hml h') hx
          · obtain rfl : j = m := by omega
            exact hx
        clear hx
        go_wp2_with fail
        go_roundw
        case rel => exact ⟨m + 1, b, by simp, rfl, by omega, by omega, HV2, HW, below_on hbel hb1⟩
        case measure => simp [intOf]; omega
      · have hx : ¬ fn l[m] < bs x := fun k => by rw [HF.out] at k; have := cmpS_neg.2 k; rw [HZ.out] at this; exact hz this
        have HW2 : Hid (upf l → ∀ j (h : j < l.length), m ≤ j → ¬ fn l[j] < bs x) := fun hu j h hj k => by
          rcases Nat.lt_or_ge m j with h' | h'
          · exact hx (Bs.trans (up_lt hu hml h h') k)
          · obtain rfl : j = m := by omega
            exact hx k
        clear hx
        go_wp2_with fail
        go_roundw
        case rel => exact ⟨a, m, rfl, rfl, by omega, by omega, HV, HW2, below_on hbel hb1⟩
        case measure => simp [intOf]; omega
    · obtain rfl : a = b := by omega
      have hlt' : ¬ (a : Int) < (a : Int) := by omega
      by_cases hal : a < l.length
      · have hal' : (a : Int) < (l.length : Int) := by omega
        have ha0 : (0 : Int) ≤ (a : Int) := by omega
        obtain ⟨g, o, s1, rfl, d00, _⟩ := H.out.at a hal
        have d0 := range_later d00 hbel
        obtain ⟨f, HF⟩ := hid_ex l[a]
        rw [HF.out] at d0
        have C1 := findc_any f s1 x wr
        have zf : (Try.prog.info? 57).map (·.size) = some [Value.string f.x, s1, .int .i64 f.k].length := sizeF
        obtain ⟨z, HZ⟩ := hid_ex (cmpS f.x x)
        rw [HZ.out] at C1
        clear d00
        go_wp2_with (first | refine load_m 57 _ rfl rfl _ _ rfl d0 Try.underlying57 rfl zf ?_)
        refine C1.mono ?_
        clear C1 d0
        rintro e w1 ⟨rfl, hb1⟩
        by_cases hz : z = 0
        · subst hz
          have HB : Hid (true = true ↔ ∃ h : a < l.length, l[a].x = x) := ⟨fun _ => ⟨hal, by rw [HF.out]; exact cmpS_zero.1 HZ.out⟩, fun _ => rfl⟩
          go_wp2_with fail
          refine bodyPost_ret (v := .tuple #[.int .i64 a, .bool true]) (by simp [results, Try.results62, go_sem]) rfl ?_
          exact ⟨a, true, rfl, ⟨hbl, by simpa using HB.out, HV.out, HW.out⟩, below_on hbel hb1⟩
        · have g0 : (z == 0) = false := by rw [beq_eq_false_iff_ne]; exact hz
          have HB : Hid (false = true ↔ ∃ h : a < l.length, l[a].x = x) := ⟨fun e => (by cases e), fun ⟨_, e⟩ => absurd (by rw [← HZ.out]; rw [HF.out] at e; exact cmpS_zero.2 e) hz⟩
          go_wp2_with fail
          refine bodyPost_ret (v := .tuple #[.int .i64 a, .bool false]) (by simp [results, Try.results62, go_sem]) rfl ?_
          exact ⟨a, false, rfl, ⟨hbl, by simpa using HB.out, HV.out, HW.out⟩, below_on hbel hb1⟩
      · have hal' : ¬ (a : Int) < (l.length : Int) := by omega
        have HB : Hid (false = true ↔ ∃ h : a < l.length, l[a].x = x) := ⟨fun e => (by cases e), fun ⟨h, _⟩ => absurd h hal⟩
        go_wp2_with fail
        refine bodyPost_ret (v := .tuple #[.int .i64 a, .bool false]) (by simp [results, Try.results62, go_sem]) rfl ?_
        exact ⟨a, false, rfl, ⟨hbl, by simpa using HB.out, HV.out, HW.out⟩, hbel⟩
theorem find_any (l : List FV) (sl : Value) (x : ByteArray) (w : World) (h : FHas w sl l) (hn : l.length ≤ 1000000) : Calls Try.prog 43 #[sl, .string x] w (FdPost l x w) := by
  have C1 := search_any l sl x w h hn
  go_enter Try.func43, Try.ntmps43
  go_wp2_with fail
  refine C1.mono ?_
  rintro e w1 ⟨p, b, rfl, hf, hb⟩
  go_wp2_with fail
  refine bodyPost_ret (v := .tuple #[.int .i64 p, .bool b]) (by simp [results, Try.results43, go_sem]) rfl ?_
  exact ⟨p, b, rfl, hf, hb⟩
end Go.Proofs.Ytjjncmenkepcoaa
/- Clones of rows of files and of bytes; a disk made anew: its files in a row of its own, the bytes of each in a row of their own. -/
namespace Go.Proofs.Ytjjncmenkepcoaa
open Go.RowKit

theorem equalIn_nil (w : World) (d : Nat) (t e : TypeId) (a : Option Addr) (l c : Nat) (h : Try.prog.underlying t = some (.slice e)) : (Op.equalIn (d + 1) t (.slice a l c) (.slice none 0 0)).run Try.prog w = .ok a.isNone w := by
  cases a <;> simp [Op.equalIn, run_underlying h]
theorem equal_nil (w : World) (t e : TypeId) (a : Option Addr) (l c : Nat) (h : Try.prog.underlying t = some (.slice e)) : (Op.equal t (.slice a l c) (.slice none 0 0)).run Try.prog w = .ok a.isNone w := equalIn_nil w 9999 t e a l c h
theorem eql_nil (w : World) (t e : TypeId) (a : Option Addr) (l c : Nat) (h : Try.prog.underlying t = some (.slice e)) : (binOp .eql t (.slice a l c) (.slice none 0 0)).run Try.prog w = .ok (.bool a.isNone) w := by
  simp [binOp, equal_nil w t e a l c h]
section
variable {w w' : World} {B B' e S n : Nat} {v : Value} {xs : List Value}
theorem own_keep (h : w.ownsRow B e S v n xs) (hk : ∀ b, v.ownBlock = some b → w'.heap[b]? = w.heap[b]?) : w'.ownsRow B e S v n xs := by
  refine ⟨h.1, ?_⟩
  rcases h.2 with h | ⟨g, cap, cur, rfl, hbg, hg, h1, h2, h3, h4⟩
  · exact .inl h
  · exact .inr ⟨g, cap, cur, rfl, hbg, (hk g rfl).trans hg, h1, h2, h3, h4⟩
theorem own_heap (h : w.ownsRow B e S v n xs) {b : Nat} (eb : v.ownBlock = some b) : B ≤ b ∧ ∃ cur, w.heap[b]? = some (.cells cur e) := by
  rcases h.2 with ⟨rfl, _⟩ | ⟨g, cap, cur, rfl, hbg, hg, _⟩
  · simp [Value.ownBlock] at eb
  · simp only [Value.ownBlock, Option.some.injEq] at eb
    subst eb
    exact ⟨hbg, cur, hg⟩
theorem own_base (h : w.ownsRow B e S v n xs) (hB : B' ≤ B) : w.ownsRow B' e S v n xs := ⟨h.1, h.2.elim .inl fun ⟨g, cap, cur, e, hb, r⟩ => .inr ⟨g, cap, cur, e, Nat.le_trans hB hb, r⟩⟩
/-- Rows of another type stay behind a write into one. -/
theorem own_apart {g e2 : Nat} {cur : Array Value} (h : w.ownsRow B e S v n xs) (hg : w.grownBy w' (some g)) (hc : w.heap[g]? = some (.cells cur e2)) (hne : e ≠ e2) : w'.ownsRow B e S v n xs := own_keep h fun b eb => by
  obtain ⟨_, cur2, h2⟩ := own_heap h eb
  refine hg.block b (Array.getElem?_eq_some_iff.1 h2).1 fun e3 => ?_
  cases e3
  rw [hc] at h2
  simp only [Option.some.injEq, Obj.cells.injEq] at h2
  exact hne h2.2.1.symm
end
set_option maxHeartbeats 1000000 in
set_option maxRecDepth 100000 in
theorem cloneFiles_any (v : Value) (ys : List (FV × Value)) (w : World) (h : SHas 3 w v ys.length (rows FV.cells ys)) (h1 : ∀ u ∈ rows FV.cells ys, u.oneCell' = true) (hn : ys.length ≤ 1000) : Calls Try.prog 60 #[v] w fun e w' => ∃ u, e = .returned u ∧ w'.ownsRow w.heap.size 57 3 u ys.length (rows FV.cells ys) ∧ Below w.heap.size w w' := by
  obtain ⟨i0, hi, hz0, hz1, hz2⟩ := info_split infoF
  have HL : Hid ((rows FV.cells ys).length = ys.length * 3) := rows_length FV.len ys
  obtain ⟨cs, HCS⟩ := hid_ex (rows FV.cells ys)
  rw [HCS.out] at h h1 HL ⊢
  obtain ⟨n, HN⟩ := hid_ex ys.length
  rw [HN.out] at h HL hn ⊢
  clear HCS HN
  obtain ⟨q, c, rfl⟩ := h.slice
  cases q with
  | none =>
    have hl0 : n = 0 := by
      rcases Nat.eq_zero_or_pos n with h0 | h0
      · exact h0
      · obtain ⟨g, o, e, _⟩ := h.at h0
        cases e
    subst hl0
    obtain rfl : cs = [] := List.eq_nil_of_length_eq_zero (by rw [HL.out])
    have E := fun w => eql_nil w 24 _ none 0 c Try.underlying24
    simp only [Option.isNone_none] at E
    go_enter Try.func60, Try.ntmps60
    go_wp2
    go_ret
    exact ⟨_, rfl, World.ownsRow_nil _ _ _ _, Below.refl _ _⟩
  | some ad =>
    have HD : Hid (∀ (j : Nat) (u : Value), cs[j]? = some u → w.cell? (ad.add j) = some u) := fun j u hu => by
      have h0 : 0 < n := by
        have := (List.getElem?_eq_some_iff.1 hu).1
        rw [HL.out] at this
        omega
      obtain ⟨g, o, e, hc⟩ := h.at h0
      simp only [Option.some.injEq] at e
      rw [e, Addr.add_mid]
      exact hc j u hu
    have hown : (w.alloc (.cells #[] 57)).ownsRow w.heap.size 57 3 (.slice (some ⟨w.heap.size, 0, none⟩) 0 0) 0 [] := World.ownsRow_made w #[] 0 (Nat.le_refl _) (Nat.zero_le _) (by simp)
    have hbel : Below w.heap.size w (w.alloc (.cells #[] 57)) := bel_alloc (Below.refl _ _) _
    have HC : Hid (∀ (j : Nat) (u : Value), cs[j]? = some u → (w.alloc (.cells #[] 57)).cell? (ad.add j) = some u) := fun j u hu => by
      have h2 := HD.out j u hu
      have hlt : (ad.add j).block < w.heap.size := World.block_lt_of_cell? w _ h2
      rw [World.cell?_of_block (w := w) (hbel.block _ hlt)]
      exact h2
    clear HD h
    have E := fun w => eql_nil w 24 _ (some ad) n c Try.underlying24
    simp only [Option.isNone_some] at E
    go_enter Try.func60, Try.ntmps60
    go_wp2_with (first | (at_builtin; refine wpList_append_own _ rfl _ _ 24 rfl w.heap.size 57 i0 _ 3 48 Try.underlying24 hi hz0 hz1 hz2 rfl (by decide) _ _ _ rfl hown ad n c cs rfl HL.out HC.out h1 ?c3 ?c4 ?c5 ?_))
    case c3 => unfold maxLen; omega
    case c4 => omega
    case c5 => simp
    intro v2 w2 hown2 hg2 _
    go_wp2_with fail
    go_ret
    have hown2 : w2.ownsRow w.heap.size 57 3 v2 n cs := by simpa using hown2
    exact ⟨_, rfl, hown2, hbel.grown hg2 (by simp) (fun q hq => by simp [Value.ownBlock] at hq; omega)⟩
set_option maxHeartbeats 1000000 in
set_option maxRecDepth 100000 in
theorem cloneBytes_any (v : Value) (l : List UInt8) (w : World) (h : DB w v l) (hn : l.length ≤ 5000000) : Calls Try.prog 40 #[v] w fun e w' => ∃ u, e = .returned u ∧ w'.ownsRow w.heap.size 5 1 u l.length (cel l) ∧ Below w.heap.size w w' := by
  obtain ⟨i0, hi, hz0, hz1, hz2⟩ := info_split info5
  have h1 := cel_one l
  have HL : Hid ((cel l).length = l.length * 1) := by rw [Nat.mul_one]; exact cel_length l
  obtain ⟨cs, HCS⟩ := hid_ex (cel l)
  replace h : SHas 1 w v l.length (cel l) := h
  rw [HCS.out] at h h1 HL ⊢
  obtain ⟨n, HN⟩ := hid_ex l.length
  rw [HN.out] at h HL hn ⊢
  clear HCS HN
  obtain ⟨q, c, rfl⟩ := h.slice
  cases q with
  | none =>
    have hl0 : n = 0 := by
      rcases Nat.eq_zero_or_pos n with h0 | h0
      · exact h0
      · obtain ⟨g, o, e, _⟩ := h.at h0
        cases e
    subst hl0
    obtain rfl : cs = [] := List.eq_nil_of_length_eq_zero (by rw [HL.out])
    have E := fun w => eql_nil w 22 _ none 0 c Try.underlying22
    simp only [Option.isNone_none] at E
    go_enter Try.func40, Try.ntmps40
    go_wp2
    go_ret
    exact ⟨_, rfl, World.ownsRow_nil _ _ _ _, Below.refl _ _⟩
  | some ad =>
    have HD : Hid (∀ (j : Nat) (u : Value), cs[j]? = some u → w.cell? (ad.add j) = some u) := fun j u hu => by
      have h0 : 0 < n := by
        have := (List.getElem?_eq_some_iff.1 hu).1
        rw [HL.out] at this
        omega
      obtain ⟨g, o, e, hc⟩ := h.at h0
      simp only [Option.some.injEq] at e
      rw [e, Addr.add_mid]
      exact hc j u hu
    have hown : (w.alloc (.cells #[] 5)).ownsRow w.heap.size 5 1 (.slice (some ⟨w.heap.size, 0, none⟩) 0 0) 0 [] := World.ownsRow_made w #[] 0 (Nat.le_refl _) (Nat.zero_le _) (by simp)
    have hbel : Below w.heap.size w (w.alloc (.cells #[] 5)) := bel_alloc (Below.refl _ _) _
    have HC : Hid (∀ (j : Nat) (u : Value), cs[j]? = some u → (w.alloc (.cells #[] 5)).cell? (ad.add j) = some u) := fun j u hu => by
      have h2 := HD.out j u hu
      have hlt : (ad.add j).block < w.heap.size := World.block_lt_of_cell? w _ h2
      rw [World.cell?_of_block (w := w) (hbel.block _ hlt)]
      exact h2
    clear HD h
    have E := fun w => eql_nil w 22 _ (some ad) n c Try.underlying22
    simp only [Option.isNone_some] at E
    go_enter Try.func40, Try.ntmps40
    go_wp2_with (first | (at_builtin; refine wpList_append_own _ rfl _ _ 22 rfl w.heap.size 5 i0 _ 1 1 Try.underlying22 hi hz0 hz1 hz2 rfl (by decide) _ _ _ rfl hown ad n c cs rfl HL.out HC.out h1 ?c3 ?c4 ?c5 ?_))
    case c3 => unfold maxLen; omega
    case c4 => omega
    case c5 => simp
    intro v2 w2 hown2 hg2 _
    go_wp2_with fail
    go_ret
    have hown2 : w2.ownsRow w.heap.size 5 1 v2 n cs := by simpa using hown2
    exact ⟨_, rfl, hown2, hbel.grown hg2 (by simp) (fun q hq => by simp [Value.ownBlock] at hq; omega)⟩
/-- Two files whose bytes do not lie in one block. -/
def Dif (a b : FV × Value) : Prop := ∀ k, a.2.ownBlock = some k → b.2.ownBlock ≠ some k
theorem Dif.symm {a b : FV × Value} (h : Dif a b) : Dif b a := fun k e1 e2 => h k e2 e1
/-- A row of files of one's own, with the bytes of each in a row of their own. -/
structure OwnG (w : World) (B : Nat) (v : Value) (ys : List (FV × Value)) : Prop where
  r : w.ownsRow B 57 3 v ys.length (rows FV.cells ys)
  o : ∀ y ∈ ys, w.ownsRow B 5 1 y.2 y.1.d.length (cel y.1.d)
  n : ys.Pairwise Dif
section
variable {w w' : World} {B B' : Nat} {v : Value} {ys : List (FV × Value)}
theorem OwnG.later (h : OwnG w B v ys) (hb : Below w.heap.size w w') : OwnG w' B v ys := ⟨own_later h.r hb, fun y hy => own_later (h.o y hy) hb, h.n⟩
theorem OwnG.base (h : OwnG w B v ys) (hB : B' ≤ B) : OwnG w B' v ys := ⟨own_base h.r hB, fun y hy => own_base (h.o y hy) hB, h.n⟩
theorem OwnG.has (h : OwnG w B v ys) : FHas w v (ys.map (·.1)) := ⟨ys, rfl, by rw [List.length_map]; exact own_sh h.r, fun y hy => own_sh (h.o y hy)⟩
/-- What keeps its blocks keeps it. -/
theorem OwnG.keep (h : OwnG w B v ys) (h1 : ∀ b, v.ownBlock = some b → w'.heap[b]? = w.heap[b]?) (h2 : ∀ y ∈ ys, ∀ b, y.2.ownBlock = some b → w'.heap[b]? = w.heap[b]?) : OwnG w' B v ys := ⟨own_keep h.r h1, fun y hy => own_keep (h.o y hy) (h2 y hy), h.n⟩
end
theorem own_one {w : World} {B e S n : Nat} {v : Value} {xs : List Value} (h : w.ownsRow B e S v n xs) : v.oneCell' = true := by
  obtain ⟨p, c, rfl⟩ := own_sl h
  rfl
theorem set_data {ys : List (FV × Value)} {k : Nat} (h : k < ys.length) (u : Value) : (rows FV.cells ys).set (k * 3 + 1) u = rows FV.cells (ys.set k (ys[k].1, u)) := by
  have e1 : ys = ys.take k ++ ys[k] :: ys.drop (k + 1) := by simp
  have e2 : rows FV.cells ys = rows FV.cells (ys.take k) ++ (FV.cells ys[k] ++ rows FV.cells (ys.drop (k + 1))) := by
    conv => lhs; rw [e1]
    rw [rows_append, rows_cons]
  have e3 : (rows FV.cells (ys.take k)).length = k * 3 := by
    rw [rows_length FV.len, List.length_take, Nat.min_eq_left (by omega)]
  rw [e2, List.set_append_right _ _ (by omega), e3, List.set_eq_take_append_cons_drop (l := ys), if_pos h, rows_append, rows_cons]
  congr 1
  rw [show k * 3 + 1 - k * 3 = 1 by omega]
  rfl
theorem set_safe {ys : List (FV × Value)} {k : Nat} (h : k < ys.length) (n : Int) : (rows FV.cells ys).set (k * 3 + 2) (.int .i64 n) = rows FV.cells (ys.set k (⟨ys[k].1.x, ys[k].1.d, n⟩, ys[k].2)) := by
  have e1 : ys = ys.take k ++ ys[k] :: ys.drop (k + 1) := by simp
  have e2 : rows FV.cells ys = rows FV.cells (ys.take k) ++ (FV.cells ys[k] ++ rows FV.cells (ys.drop (k + 1))) := by
    conv => lhs; rw [e1]
    rw [rows_append, rows_cons]
  have e3 : (rows FV.cells (ys.take k)).length = k * 3 := by
    rw [rows_length FV.len, List.length_take, Nat.min_eq_left (by omega)]
  rw [e2, List.set_append_right _ _ (by omega), e3, List.set_eq_take_append_cons_drop (l := ys), if_pos h, rows_append, rows_cons]
  congr 1
  rw [show k * 3 + 2 - k * 3 = 2 by omega]
  rfl
/-- What copies.Disk answers. -/
def CpPost (d : DV) (w : World) (e : Ending) (w' : World) : Prop := ∃ p c ys, e = .returned (DKV.of (.slice p d.fs.length c) d) ∧ ys.map (·.1) = d.fs ∧ OwnG w' w.heap.size (.slice p d.fs.length c) ys ∧ Below w.heap.size w w'
end Go.Proofs.Ytjjncmenkepcoaa
/- The function Disk of package copies. -/
namespace Go.Proofs.Ytjjncmenkepcoaa
open Go.RowKit

section
variable {w : World} {b o : Nat} {old : Value}
theorem store_b22 (h : w.cell? ⟨b, o, none⟩ = some old) (hf : w.frozen? ⟨b, o, none⟩ = false) (p : Option Addr) (n c : Nat) : (Instr.storeAt 22 (.pointer (some ⟨b, o, none⟩)) (.slice p n c)).run Try.prog w = .ok () (w.setCell ⟨b, o, none⟩ (.slice p n c)) := by simp [go_sem, h, hf]
theorem store_b24 (h : w.cell? ⟨b, o, none⟩ = some old) (hf : w.frozen? ⟨b, o, none⟩ = false) (p : Option Addr) (n c : Nat) : (Instr.storeAt 24 (.pointer (some ⟨b, o, none⟩)) (.slice p n c)).run Try.prog w = .ok () (w.setCell ⟨b, o, none⟩ (.slice p n c)) := by simp [go_sem, h, hf]
theorem store_b3 (h : w.cell? ⟨b, o, none⟩ = some old) (hf : w.frozen? ⟨b, o, none⟩ = false) (n : Int) : (Instr.storeAt 3 (.pointer (some ⟨b, o, none⟩)) (.int .i64 n)).run Try.prog w = .ok () (w.setCell ⟨b, o, none⟩ (.int .i64 n)) := by simp [go_sem, h, hf]
theorem store_b4 (h : w.cell? ⟨b, o, none⟩ = some old) (hf : w.frozen? ⟨b, o, none⟩ = false) (n : Bool) : (Instr.storeAt 4 (.pointer (some ⟨b, o, none⟩)) (.bool n)).run Try.prog w = .ok () (w.setCell ⟨b, o, none⟩ (.bool n)) := by simp [go_sem, h, hf]
end
theorem row_there {w : World} {B g n cap : Nat} {xs : List Value} (h : w.ownsRow B 57 3 (.slice (some ⟨g, 0, none⟩) n cap) n xs) (j : Nat) (hj : j < n * 3) : (∃ v, w.cell? ⟨g, j, none⟩ = some v) ∧ w.frozen? ⟨g, j, none⟩ = false := by
  refine ⟨?_, h.frozenAt j⟩
  rw [h.cellAt j hj]
  have : j < xs.length := by rw [h.1]; exact hj
  exact ⟨xs[j], by simp [this]⟩
theorem row_cur {w : World} {B g n cap : Nat} {xs : List Value} (h : w.ownsRow B 57 3 (.slice (some ⟨g, 0, none⟩) n cap) n xs) : B ≤ g ∧ ∃ cur, w.heap[g]? = some (.cells cur 57) := own_heap h rfl
theorem own_low {w w' : World} {B g e S n : Nat} {v : Value} {xs : List Value} (h : w.ownsRow B e S v n xs) (hg : w.grownBy w' (some g)) (hlt : g < B) : w'.ownsRow B e S v n xs := own_keep h fun b eb => hg.block b (h.lt b eb).2 fun e => by
  cases e
  have := (h.lt _ eb).1
  omega
/-- The first k have bytes of their own, not two in one block. -/
structure Cpd (w : World) (B : Nat) (qs : List (FV × Value)) (k : Nat) : Prop where
  o : ∀ i (h : i < qs.length), i < k → w.ownsRow B 5 1 qs[i].2 qs[i].1.d.length (cel qs[i].1.d)
  n : ∀ i j (hi : i < qs.length) (hj : j < qs.length), i < j → j < k → Dif qs[i] qs[j]
theorem Cpd.later {w w' : World} {B : Nat} {qs : List (FV × Value)} {k : Nat} (h : Cpd w B qs k) (hb : Below w.heap.size w w') : Cpd w' B qs k := ⟨fun i hi hk => own_later (h.o i hi hk) hb, h.n⟩
theorem Cpd.next {w w' w'' : World} {B g : Nat} {qs : List (FV × Value)} {k : Nat} (h : Cpd w B qs k) (hk : k < qs.length) (hb : Below w.heap.size w w') {u : Value} (hB : B ≤ w.heap.size) (ho : w'.ownsRow w.heap.size 5 1 u qs[k].1.d.length (cel qs[k].1.d)) (hg : w'.grownBy w'' (some g)) {cur : Array Value} (hc : w'.heap[g]? = some (.cells cur 57)) : Cpd w'' B (qs.set k (qs[k].1, u)) (k + 1) := by
  have hh := h.later hb
  refine ⟨fun i hi hik => ?_, fun i j hi hj hij hjk => ?_⟩
  · have hi' : i < qs.length := by simpa using hi
    rcases Nat.lt_or_ge i k with h' | h'
    · rw [List.getElem_set_ne (by omega)]
      exact own_apart (hh.o i hi' h') hg hc (by decide)
    · obtain rfl : i = k := by omega
      rw [List.getElem_set_self]
      exact own_apart (own_base ho hB) hg hc (by decide)
  · have hi' : i < qs.length := by simpa using hi
    have hj' : j < qs.length := by simpa using hj
    rcases Nat.lt_or_ge j k with h' | h'
    · rw [List.getElem_set_ne (by omega), List.getElem_set_ne (by omega)]
      exact h.n i j hi' hj' hij h'
    · obtain rfl : j = k := by omega
      rw [List.getElem_set_ne (by omega), List.getElem_set_self]
      intro b e1 e2
      have h1 := ((h.o i hi' hij).lt b e1).2
      have h2 := (ho.lt b e2).1
      omega
set_option maxHeartbeats 1000000 in
set_option maxRecDepth 100000 in
theorem copyDisk_any (d : DV) (sl : Value) (w : World) (h : FHas w sl d.fs) (hn : d.fs.length ≤ 1000) (hus : us d.fs ≤ 5000000) : Calls Try.prog 34 #[DKV.of sl d] w (CpPost d w) := by
  obtain ⟨ys, hm, hs, ho⟩ := h
  obtain ⟨q, c, rfl⟩ := hs.slice
  have hlen : ys.length = d.fs.length := by rw [← hm, List.length_map]
  have hone := FV.ones ho
  have HO : Hid (∀ y ∈ ys, DB w y.2 y.1.d) := ho
  have HU : Hid (∀ y ∈ ys, y.1.d.length ≤ 5000000) := fun y hy => Nat.le_trans (us_mem (by rw [← hm]; exact List.mem_map.2 ⟨y, hy, rfl⟩)) hus
  have HMM : Hid (ys.map (·.1) = d.fs) := hm
  have R0 := (rw_new w 26 #[.slice q d.fs.length c, .int .i64 d.room, .int .i64 d.arm, .bool d.dead]).alloc (.cells #[.slice none 0 0, .int .i64 0, .int .i64 0, .bool false] 26)
  have R1 := rw_next (w.alloc (.cells #[.slice q d.fs.length c, .int .i64 d.room, .int .i64 d.arm, .bool d.dead] 26)) (b := w.heap.size + 1) (by simp) 26 #[.slice none 0 0, .int .i64 0, .int .i64 0, .bool false]
  have hbel := bel_alloc (bel_alloc (Below.refl w.heap.size w) (.cells #[.slice q d.fs.length c, .int .i64 d.room, .int .i64 d.arm, .bool d.dead] 26)) (.cells #[.slice none 0 0, .int .i64 0, .int .i64 0, .bool false] 26)
  generalize hW : (w.alloc (.cells #[.slice q d.fs.length c, .int .i64 d.room, .int .i64 d.arm, .bool d.dead] 26)).alloc (.cells #[.slice none 0 0, .int .i64 0, .int .i64 0, .bool false] 26) = w0 at R0 R1 hbel
  have C1 := cloneFiles_any (.slice q d.fs.length c) ys w0 (by rw [hlen]; exact hs.later hbel) hone (by omega)
  rw [hlen] at C1
  have k0 : w0.cell? ⟨w.heap.size, 0, none⟩ = some (.slice q d.fs.length c) := R0.cell 0
  clear hone ho hm hs hus
  go_enter Try.func34, Try.ntmps34
  go_wp2_with (rw [hW])
  clear hW
  refine C1.mono ?_
  clear C1 k0
  rintro e w1 ⟨u, rfl, hown, hb1⟩
  obtain ⟨up, uc, rfl⟩ : ∃ p c, u = .slice p d.fs.length c := own_sl hown
  have hw0 : w.heap.size + 2 ≤ w0.heap.size := R1.lt
  replace R0 := R0.later hb1
  replace R1 := R1.later hb1
  replace hbel := below_on hbel hb1
  have HW : Hid (w1.ownsRow (w.heap.size + 2) 57 3 (.slice up d.fs.length uc) d.fs.length (rows FV.cells ys)) := own_base hown hw0
  have k0 : w1.cell? ⟨w.heap.size, 0, none⟩ = some (.slice q d.fs.length c) := R0.cell 0
  have f0 := R0.frozen 0
  clear hown hb1 hw0
  have R0w := R0.set 0 (.slice up d.fs.length uc)
  have R1w := R1.setOther (q := w.heap.size) (by omega) 0 (.slice up d.fs.length uc)
  have HWw := own_low HW.out (grown_cell w1 w.heap.size 0 (.slice up d.fs.length uc)) (by omega)
  replace hbel := hbel.setCell (p := ⟨w.heap.size, 0, none⟩) (Nat.le_refl _) (.slice up d.fs.length uc)
  replace R0w : Rw _ w.heap.size 26 #[.slice up d.fs.length uc, .int .i64 d.room, .int .i64 d.arm, .bool d.dead] := R0w
  have hbs : w1.heap.size = (w1.setCell ⟨w.heap.size, 0, none⟩ (.slice up d.fs.length uc)).heap.size := by simp
  generalize hW2 : w1.setCell ⟨w.heap.size, 0, none⟩ (.slice up d.fs.length uc) = w2 at R0w R1w HWw hbel hbs
  have HW2 : Hid (w2.ownsRow (w.heap.size + 2) 57 3 (.slice up d.fs.length uc) d.fs.length (rows FV.cells ys)) := HWw
  have k2 : w2.cell? ⟨w.heap.size, 0, none⟩ = some (.slice up d.fs.length uc) := R0w.cell 0
  clear HWw HW R0 R1
  go_wp2_with (rw [hW2])
  clear hW2 k0 f0 k2
  have hbs2 : w.heap.size + 2 ≤ w2.heap.size := R1w.lt
  go_loopw [12] (fun vk wr => ∃ (k : Nat) (qs : List (FV × Value)), vk = .int .i64 k ∧ k ≤ d.fs.length ∧ Hid (qs.map (·.1) = d.fs) ∧ Hid (wr.ownsRow (w.heap.size + 2) 57 3 (.slice up d.fs.length uc) d.fs.length (rows FV.cells qs)) ∧ Hid (Cpd wr (w.heap.size + 2) qs k) ∧ Hid (∀ i, k ≤ i → qs[i]? = ys[i]?) ∧ Rw wr w.heap.size 26 #[.slice up d.fs.length uc, .int .i64 d.room, .int .i64 d.arm, .bool d.dead] ∧ Rw wr (w.heap.size + 1) 26 #[.slice none 0 0, .int .i64 0, .int .i64 0, .bool false] ∧ Below w.heap.size w wr) (fun vk _ => d.fs.length - (intOf vk).toNat)
  case atStart => exact ⟨0, ys, rfl, by omega, HMM, HW2, ⟨fun i _ h => by omega, fun i j _ _ _ h => by omega⟩, (show ∀ i, 0 ≤ i → _ from fun _ _ => rfl), R0w, R1w, hbel⟩
  case round =>
    clear HW2 hbel R0w R1w
    obtain ⟨k, qs, rfl, hk, HM, HW, HC, HS, R0, R1, hb⟩ := hrel
    have hql0 : qs.length = d.fs.length := by have := congrArg List.length HM.out; simpa using this
    have hql : Hid (qs.length = d.fs.length) := hql0
    by_cases hlt : k < d.fs.length
    · have hlt' : (k : Int) < (d.fs.length : Int) := by omega
      have hkq : k < qs.length := by omega
      have hky : k < ys.length := by omega
      have hq : qs[k]? = some ys[k] := by rw [HS.out k (Nat.le_refl _)]; simp
      have hqe : qs[k] = ys[k] := by
        rw [List.getElem?_eq_getElem hkq] at hq
        exact Option.some.inj hq
      obtain ⟨g, rfl⟩ : ∃ g, up = some ⟨g, 0, none⟩ := by
        rcases HW.out.2 with ⟨e, h0⟩ | ⟨g, cap, cur, e, _⟩
        · omega
        · simp only [Value.slice.injEq] at e
          exact ⟨g, e.1⟩
      have d0 : wr.rangeAt g (k * 3) (FV.cells ys[k]) := fun j u hu => by
        rw [HW.out.cellAt (k * 3 + j) (by have := (List.getElem?_eq_some_iff.1 hu).1; rw [FV.len] at this; omega)]
        rw [← hqe] at hu
        exact rows_at FV.len qs k hkq j u hu
      have ho := (HO.out ys[k] (List.getElem_mem _)).later hb
      have hp := HU.out ys[k] (List.getElem_mem _)
      obtain ⟨⟨f, s1⟩, HX⟩ := hid_ex ys[k]
      have HX2 : Hid (qs[k] = (f, s1)) := by show _ = _; rw [hqe, HX.out]
      rw [HX.out] at d0 ho hp
      replace d0 : wr.rangeAt g (k * 3) [.string f.x, s1, .int .i64 f.k] := d0
      replace ho : DB wr s1 f.d := ho
      replace hp : f.d.length ≤ 5000000 := hp
      obtain ⟨p1, c1, rfl⟩ := SHas.slice ho
      have zf : (Try.prog.info? 57).map (·.size) = some [Value.string f.x, .slice p1 f.d.length c1, .int .i64 f.k].length := sizeF
      have RB := rw_new wr 57 #[.string f.x, .slice p1 f.d.length c1, .int .i64 f.k]
      have hba := bel_alloc (Below.refl wr.heap.size wr) (.cells #[.string f.x, .slice p1 f.d.length c1, .int .i64 f.k] 57)
      generalize hWB : wr.alloc (.cells #[.string f.x, .slice p1 f.d.length c1, .int .i64 f.k] 57) = wx at RB hba
      have k0 : wr.cell? ⟨w.heap.size, 0, none⟩ = some (.slice (some ⟨g, 0, none⟩) d.fs.length uc) := R0.cell 0
      clear hq hqe HX hql0
      go_upto_region 5 with (first | rw [hWB] | refine load_m 57 _ rfl rfl _ _ rfl d0 Try.underlying57 rfl zf ?_)
      clear hWB d0 zf k0
      have hbx := below_on hb hba
      have R0x := (R0.later hba).cell 0
      have hdx : DB wx (.slice p1 f.d.length c1) f.d := SHas.later ho hba
      have hS : wx.drew.cell? ⟨w.heap.size, 0, none⟩ = some (.slice (some ⟨g, 0, none⟩) d.fs.length uc) ∧ wx.drew.cell? ⟨wr.heap.size, 1, none⟩ = some (.slice p1 f.d.length c1) := ⟨R0x, RB.cell 1⟩
      have hdd : DB wx.drew (.slice p1 f.d.length c1) f.d := hdx
      have hbd : Below wr.heap.size wr wx.drew := hba.drew
      replace RB := RB.drew
      clear R0x hdx hba hbx ho
      refine HeldI.region (fun w' : World => w'.cell? ⟨w.heap.size, 0, none⟩ = some (.slice (some ⟨g, 0, none⟩) d.fs.length uc) ∧ w'.cell? ⟨wr.heap.size, 1, none⟩ = some (.slice p1 f.d.length c1)) (by kernel_rfl) ?_
      generalize wx.drew = wd at hS hdd hbd RB ⊢
      refine HeldI.pu 0 hS ?_
      refine HeldI.ce 1 (fun _ h => h.1) hS ?_
      refine HeldI.pu 2 hS ?_
      refine HeldI.pu 3 hS ?_
      refine HeldI.ce 4 (fun _ h => h.2) hS ?_
      refine HeldI.kn 5 (cloneBytes_any _ f.d wd hdd hp) ?_
      rintro e w6 ⟨u, rfl, hou, hb6⟩
      obtain ⟨pu, cu, rfl⟩ : ∃ p c, u = .slice p f.d.length c := own_sl hou
      have hb7 := below_on hbd hb6
      have hS6 : w6.cell? ⟨w.heap.size, 0, none⟩ = some (.slice (some ⟨g, 0, none⟩) d.fs.length uc) ∧ w6.cell? ⟨wr.heap.size, 1, none⟩ = some (.slice p1 f.d.length c1) := ⟨cell_later hb6 hS.1, cell_later hb6 hS.2⟩
      refine ⟨_, rfl, hS6, ?_⟩
      have hk0 : (0 : Int) ≤ (k : Int) := by omega
      refine HeldI.pu 6 hS6 ?_
      refine HeldI.pu 7 hS6 ?_
      have W6 := own_later HW.out hb7
      obtain ⟨hgB, cur, hgc⟩ := row_cur W6
      obtain ⟨⟨old, hold⟩, hfz⟩ := row_there W6 (k * 3 + 1) (by omega)
      obtain ⟨O7, G7⟩ := W6.stored (k * 3 + 1) (.slice pu f.d.length cu)
      rw [set_data hkq, HX2.out] at O7
      have hS7 : (w6.setCell ⟨g, k * 3 + 1, none⟩ (.slice pu f.d.length cu)).cell? ⟨w.heap.size, 0, none⟩ = some (.slice (some ⟨g, 0, none⟩) d.fs.length uc) ∧ (w6.setCell ⟨g, k * 3 + 1, none⟩ (.slice pu f.d.length cu)).cell? ⟨wr.heap.size, 1, none⟩ = some (.slice p1 f.d.length c1) := by
        have hg1 : g < wr.heap.size := (HW.out.lt g rfl).2
        rw [World.cell?_of_block (w := w6) (Below.heap_setCell w6 _ _ _ (show w.heap.size ≠ g by omega)), World.cell?_of_block (w := w6) (Below.heap_setCell w6 _ _ _ (show wr.heap.size ≠ g by omega))]
        exact hS6
      refine HeldI.ss 8 (store_b22 hold hfz pu f.d.length cu) hS7 ?_
      refine HeldI.dn ?_
      have HM2 : Hid ((qs.set k (f, .slice pu f.d.length cu)).map (·.1) = d.fs) := by
        show _ = _
        rw [List.map_set, HM.out]
        refine List.ext_getElem? fun i => ?_
        by_cases e : i = k
        · subst e
          rw [List.getElem?_set_self hlt, ← HM.out, List.getElem?_map, List.getElem?_eq_getElem hkq, HX2.out]
          rfl
        · rw [List.getElem?_set_ne (Ne.symm e)]
      have hC2 := Cpd.next HC.out hkq hb7 (B := w.heap.size + 2) (u := .slice pu f.d.length cu) R1.lt (by rw [HX2.out]; exact own_base hou hbd.size) G7 hgc
      rw [HX2.out] at hC2
      have HC2 : Hid (Cpd _ (w.heap.size + 2) (qs.set k (f, .slice pu f.d.length cu)) (k + 1)) := hC2
      have HW2 : Hid (World.ownsRow _ (w.heap.size + 2) 57 3 (.slice (some ⟨g, 0, none⟩) d.fs.length uc) d.fs.length (rows FV.cells (qs.set k (f, .slice pu f.d.length cu)))) := O7
      have HS2 : Hid (∀ i, k + 1 ≤ i → (qs.set k (f, .slice pu f.d.length cu))[i]? = ys[i]?) := fun i hi => by
        rw [List.getElem?_set_ne (by omega)]
        exact HS.out i (by omega)
      have R02 := (R0.later hb7).setOther (q := g) (by omega) (k * 3 + 1) (.slice pu f.d.length cu)
      have R12 := (R1.later hb7).setOther (q := g) (by omega) (k * 3 + 1) (.slice pu f.d.length cu)
      have hb2 := (below_on hb hb7).setCell (p := ⟨g, k * 3 + 1, none⟩) (show w.heap.size ≤ g by omega) (.slice pu f.d.length cu)
      clear hC2 O7 G7 W6 hS7 hS6 hS HM HW HC HS HX2 hou hb6 hb7 hdd hbd RB
      generalize w6.setCell ⟨g, k * 3 + 1, none⟩ (.slice pu f.d.length cu) = w8 at HW2 HC2 R02 R12 hb2 ⊢
      go_wp2_with fail
      go_roundw
      case rel => exact ⟨k + 1, _, by simp, by omega, HM2, HW2, HC2, HS2, R02, R12, hb2⟩
      case measure => simp [intOf]; omega
    · obtain rfl : k = d.fs.length := by omega
      have hlt' : ¬ ((d.fs.length : Int) < (d.fs.length : Int)) := by omega
      have HF : Hid (OwnG wr w.heap.size (.slice up d.fs.length uc) qs) := by
        refine ⟨?_, ?_, ?_⟩
        · rw [hql0]
          exact own_base HW.out (by omega)
        · intro y hy
          obtain ⟨i, hi, rfl⟩ := List.getElem_of_mem hy
          exact own_base (HC.out.o i hi (by omega)) (by omega)
        · rw [List.pairwise_iff_getElem]
          intro i j hi hj hij
          exact HC.out.n i j hi hj hij (by omega)
      have HX : Hid (∀ w', w' = wr.setRow (w.heap.size + 1) #[.slice up d.fs.length uc, .int .i64 d.room, .int .i64 d.arm, .bool d.dead] → OwnG w' w.heap.size (.slice up d.fs.length uc) qs) := by
        rintro w' rfl
        refine HF.out.keep (fun b eb => setRow_other _ _ _ _ fun e => ?_) fun y hy b eb => setRow_other _ _ _ _ fun e => ?_
        · have := (HW.out.lt b eb).1
          omega
        · obtain ⟨i, hi, rfl⟩ := List.getElem_of_mem hy
          have := ((HC.out.o i hi (by omega)).lt b eb).1
          omega
      have HM' := HM.out
      have R12 := R1.row #[.slice up d.fs.length uc, .int .i64 d.room, .int .i64 d.arm, .bool d.dead]
      have hb2 := below_setRow hb (g := w.heap.size + 1) (by omega) #[.slice up d.fs.length uc, .int .i64 d.room, .int .i64 d.arm, .bool d.dead]
      clear HW HC HS HF HM hql
      go_wp2_with (first | refine load_r 26 _ rfl rfl _ rfl R0 Try.underlying26 rfl size26 ?_ | refine store_r rfl 26 _ _ rfl _ _ rfl rfl R1 size26 rfl (by simp [Value.oneCell']) ?_)
      refine bodyPost_ret (results_r rfl rfl R12 rfl Try.underlying26 size26) rfl ⟨up, uc, qs, rfl, HM', HX.out _ rfl, hb2⟩
end Go.Proofs.Ytjjncmenkepcoaa
