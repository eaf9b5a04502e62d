/- The small functions of package counter: isBase, isAmount, markOf, cellOf, the document's amount; clones of slices. -/
import Derived.Test.YtfjpjodaaofgbaaSl
namespace Go.Proofs.Ytfjpjodaaofgbaa
open Go.RowKit

set_option maxRecDepth 100000 in
theorem isBase_any (n : Int) (w : World) : Calls Try.prog 32 #[.int .i64 n] w (Tells (.bool (wi n (-1152921504606846976) 1152921504606846976)) w) := by
  unfold wi
  go_enter Try.func32, Try.ntmps32
  go_wp2
  all_goals
    go_ret
    refine tells_bool ?_ ?_
    focus (first | (simp_all; done) | grind)
    repeat refine bel_alloc ?_ _
    exact Below.refl _ _
set_option maxRecDepth 100000 in
theorem refAmount_any (n : Int) (w : World) : Calls Try.prog 23 #[.int .i64 n] w (Tells (.bool (wi n (-1073741824) 1073741824)) w) := by
  unfold wi
  go_enter Try.func23, Try.ntmps23
  go_wp2
  all_goals
    go_ret
    refine tells_bool ?_ ?_
    focus (first | (simp_all; done) | grind)
    repeat refine bel_alloc ?_ _
    exact Below.refl _ _
/-- May it be an amount? -/
def ia (i n : Int) : Bool := decide (1 ≤ i) && wi n (-1073741824) 1073741824
set_option maxRecDepth 100000 in
theorem isAmount_any (p s i n : Int) (w : World) : Calls Try.prog 36 #[AV p s i n] w (Tells (.bool (ia i n)) w) := by
  unfold ia wi
  go_enter Try.func36, Try.ntmps36
  go_wp2
  all_goals
    go_ret
    refine tells_bool ?_ ?_
    focus (first | (simp_all; done) | grind)
    repeat refine bel_alloc ?_ _
    exact Below.refl _ _
set_option maxRecDepth 100000 in
theorem markOf_any (p s i n : Int) (w : World) : Calls Try.prog 38 #[AV p s i n] w (Tells (MV p s i) w) := by
  go_enter Try.func38, Try.ntmps38
  go_wp2
  exact bodyPost_ret (results_r rfl rfl (rw_next _ (by simp) 40 _) rfl Try.underlying40 size40) rfl ⟨rfl, bel_alloc (bel_alloc (Below.refl _ _) _) _⟩
set_option maxRecDepth 100000 in
theorem cellOf_any (b : Int) (q : Option Addr) (l c : Nat) (w : World) : Calls Try.prog 29 #[.int .i64 b, .slice q l c] w (Tells (CV 1 b (.slice q l c) (.slice none 0 0) (.slice none 0 0) (.slice none 0 0)) w) := by
  go_enter Try.func29, Try.ntmps29
  go_wp2
  exact bodyPost_ret (results_r rfl rfl (rw_next _ (by simp) 27 _) rfl Try.underlying27 size27) rfl ⟨rfl, bel_alloc (Below.refl _ _) _⟩
theorem equalIn_nil (w : World) (d : Nat) (t e : TypeId) (a : Option Addr) (l c : Nat) (h : Try.prog.underlying t = some (.slice e)) : (Op.equalIn (d + 1) t (.slice a l c) (.slice none 0 0)).run Try.prog w = .ok a.isNone w := by
  cases a <;> simp [Op.equalIn, run_underlying h]
theorem equal_nil (w : World) (t e : TypeId) (a : Option Addr) (l c : Nat) (h : Try.prog.underlying t = some (.slice e)) : (Op.equal t (.slice a l c) (.slice none 0 0)).run Try.prog w = .ok a.isNone w := equalIn_nil w 9999 t e a l c h
theorem eql_nil (w : World) (t e : TypeId) (a : Option Addr) (l c : Nat) (h : Try.prog.underlying t = some (.slice e)) : (binOp .eql t (.slice a l c) (.slice none 0 0)).run Try.prog w = .ok (.bool a.isNone) w := by
  simp [binOp, equal_nil w t e a l c h]
/-- What a clone comes to: a row of its own. -/
def ClPost (e S n : Nat) (xs : List Value) (w : World) (en : Ending) (w' : World) : Prop := ∃ u, en = .returned u ∧ w'.ownsRow w.heap.size e S u n xs ∧ Below w.heap.size w w'
set_option maxHeartbeats 1000000 in
set_option maxRecDepth 100000 in
theorem clone42_any (v : Value) (n : Nat) (xs : List Value) (w : World) (h : SHas 4 w v n xs) (hn : n ≤ 100) (h1 : ∀ u ∈ xs, u.oneCell' = true) : Calls Try.prog 44 #[v] w (ClPost 42 4 n xs w) := by
  obtain ⟨i0, hi, hz0, hz1, hz2⟩ := info_parts info42
  obtain ⟨hm, hl, ⟨rfl, rfl⟩ | ⟨ad, c, rfl, hd⟩⟩ := h
  · obtain rfl : xs = [] := List.eq_nil_of_length_eq_zero (by omega)
    have E := fun w => eql_nil w 22 _ none 0 0 Try.underlying22
    simp only [Option.isNone_none] at E
    go_enter Try.func44, Try.ntmps44
    go_wp2
    go_ret
    exact ⟨_, rfl, World.ownsRow_nil _ _ _ _, Below.refl _ _⟩
  · have HD : Hid (∀ (j : Nat) (u : Value), xs[j]? = some u → w.cell? (ad.add j) = some u) := fun j u hu => by
      have hj := (List.getElem?_eq_some_iff.1 hu).1
      have h0 : 0 < n := by
        rcases Nat.eq_zero_or_pos n with h | h
        · subst h; omega
        · exact h
      obtain ⟨g, o, rfl, hr⟩ := hd h0
      have := hr j u hu
      rwa [Addr.add_mid]
    have hown : (w.alloc (.cells #[] 42)).ownsRow w.heap.size 42 4 (.slice (some ⟨w.heap.size, 0, none⟩) 0 0) 0 [] := World.ownsRow_made w #[] 0 (Nat.le_refl _) (Nat.zero_le _) (by simp)
    have hbel : Below w.heap.size w (w.alloc (.cells #[] 42)) := bel_alloc (Below.refl _ _) _
    have HC : Hid (∀ (j : Nat) (u : Value), xs[j]? = some u → (w.alloc (.cells #[] 42)).cell? (ad.add j) = some u) := fun j u hu => by
      have h2 := HD.out j u hu
      have hlt : (ad.add j).block < w.heap.size := World.block_lt_of_cell? w _ h2
      rw [World.cell?_of_block (w := w) (hbel.block _ hlt)]
      exact h2
    clear hd HD
    have E := fun w => eql_nil w 22 _ (some ad) n c Try.underlying22
    simp only [Option.isNone_some] at E
    go_enter Try.func44, Try.ntmps44
    go_wp2_with (first | (at_builtin; refine wpList_append_own _ rfl _ _ 22 rfl w.heap.size 42 i0 (AV 0 0 0 0) 4 32 Try.underlying22 hi hz0 hz1 hz2 rfl (by decide) _ _ _ rfl hown ad n c xs rfl hl HC.out h1 ?c3 ?c4 ?c5 ?_))
    case c3 => unfold maxLen; omega
    case c4 => omega
    case c5 => simp
    intro v2 w2 hown2 hg2 _
    go_wp2_with fail
    go_ret
    refine ⟨_, rfl, ?_, hbel.grown hg2 (by simp) (fun q hq => by simp [Value.ownBlock] at hq; omega)⟩
    simpa using hown2
theorem info58 : (Try.prog.info? 58).map (fun i => (i.zero, i.size, i.bytes)) = some (some (.agg #[.int .i64 0, .int .i64 0, .int .i64 0, .int .i64 0, .string noS]), 5, 48) := by kernel_rfl
set_option maxHeartbeats 1000000 in
set_option maxRecDepth 100000 in
theorem clone58_any (v : Value) (n : Nat) (xs : List Value) (w : World) (h : SHas 5 w v n xs) (hn : n ≤ 100) (h1 : ∀ u ∈ xs, u.oneCell' = true) : Calls Try.prog 45 #[v] w (ClPost 58 5 n xs w) := by
  obtain ⟨i0, hi, hz0, hz1, hz2⟩ := info_parts info58
  obtain ⟨hm, hl, ⟨rfl, rfl⟩ | ⟨ad, c, rfl, hd⟩⟩ := h
  · obtain rfl : xs = [] := List.eq_nil_of_length_eq_zero (by omega)
    have E := fun w => eql_nil w 23 _ none 0 0 Try.underlying23
    simp only [Option.isNone_none] at E
    go_enter Try.func45, Try.ntmps45
    go_wp2
    go_ret
    exact ⟨_, rfl, World.ownsRow_nil _ _ _ _, Below.refl _ _⟩
  · have HD : Hid (∀ (j : Nat) (u : Value), xs[j]? = some u → w.cell? (ad.add j) = some u) := fun j u hu => by
      have hj := (List.getElem?_eq_some_iff.1 hu).1
      have h0 : 0 < n := by
        rcases Nat.eq_zero_or_pos n with h | h
        · subst h; omega
        · exact h
      obtain ⟨g, o, rfl, hr⟩ := hd h0
      have := hr j u hu
      rwa [Addr.add_mid]
    have hown : (w.alloc (.cells #[] 58)).ownsRow w.heap.size 58 5 (.slice (some ⟨w.heap.size, 0, none⟩) 0 0) 0 [] := World.ownsRow_made w #[] 0 (Nat.le_refl _) (Nat.zero_le _) (by simp)
    have hbel : Below w.heap.size w (w.alloc (.cells #[] 58)) := bel_alloc (Below.refl _ _) _
    have HC : Hid (∀ (j : Nat) (u : Value), xs[j]? = some u → (w.alloc (.cells #[] 58)).cell? (ad.add j) = some u) := fun j u hu => by
      have h2 := HD.out j u hu
      have hlt : (ad.add j).block < w.heap.size := World.block_lt_of_cell? w _ h2
      rw [World.cell?_of_block (w := w) (hbel.block _ hlt)]
      exact h2
    clear hd HD
    have E := fun w => eql_nil w 23 _ (some ad) n c Try.underlying23
    simp only [Option.isNone_some] at E
    go_enter Try.func45, Try.ntmps45
    go_wp2_with (first | (at_builtin; refine wpList_append_own _ rfl _ _ 23 rfl w.heap.size 58 i0 (.agg #[.int .i64 0, .int .i64 0, .int .i64 0, .int .i64 0, .string noS]) 5 48 Try.underlying23 hi hz0 hz1 hz2 rfl (by decide) _ _ _ rfl hown ad n c xs rfl hl HC.out h1 ?c3 ?c4 ?c5 ?_))
    case c3 => unfold maxLen; omega
    case c4 => omega
    case c5 => simp
    intro v2 w2 hown2 hg2 _
    go_wp2_with fail
    go_ret
    refine ⟨_, rfl, ?_, hbel.grown hg2 (by simp) (fun q hq => by simp [Value.ownBlock] at hq; omega)⟩
    simpa using hown2
theorem info61 : (Try.prog.info? 61).map (fun i => (i.zero, i.size, i.bytes)) = some (some (.agg #[.string noS, .bool false, .slice none 0 0]), 3, 48) := by kernel_rfl
set_option maxHeartbeats 1000000 in
set_option maxRecDepth 100000 in
theorem clone61_any (v : Value) (n : Nat) (xs : List Value) (w : World) (h : SHas 3 w v n xs) (hn : n ≤ 100) (h1 : ∀ u ∈ xs, u.oneCell' = true) : Calls Try.prog 46 #[v] w (ClPost 61 3 n xs w) := by
  obtain ⟨i0, hi, hz0, hz1, hz2⟩ := info_parts info61
  obtain ⟨hm, hl, ⟨rfl, rfl⟩ | ⟨ad, c, rfl, hd⟩⟩ := h
  · obtain rfl : xs = [] := List.eq_nil_of_length_eq_zero (by omega)
    have E := fun w => eql_nil w 24 _ none 0 0 Try.underlying24
    simp only [Option.isNone_none] at E
    go_enter Try.func46, Try.ntmps46
    go_wp2
    go_ret
    exact ⟨_, rfl, World.ownsRow_nil _ _ _ _, Below.refl _ _⟩
  · have HD : Hid (∀ (j : Nat) (u : Value), xs[j]? = some u → w.cell? (ad.add j) = some u) := fun j u hu => by
      have hj := (List.getElem?_eq_some_iff.1 hu).1
      have h0 : 0 < n := by
        rcases Nat.eq_zero_or_pos n with h | h
        · subst h; omega
        · exact h
      obtain ⟨g, o, rfl, hr⟩ := hd h0
      have := hr j u hu
      rwa [Addr.add_mid]
    have hown : (w.alloc (.cells #[] 61)).ownsRow w.heap.size 61 3 (.slice (some ⟨w.heap.size, 0, none⟩) 0 0) 0 [] := World.ownsRow_made w #[] 0 (Nat.le_refl _) (Nat.zero_le _) (by simp)
    have hbel : Below w.heap.size w (w.alloc (.cells #[] 61)) := bel_alloc (Below.refl _ _) _
    have HC : Hid (∀ (j : Nat) (u : Value), xs[j]? = some u → (w.alloc (.cells #[] 61)).cell? (ad.add j) = some u) := fun j u hu => by
      have h2 := HD.out j u hu
      have hlt : (ad.add j).block < w.heap.size := World.block_lt_of_cell? w _ h2
      rw [World.cell?_of_block (w := w) (hbel.block _ hlt)]
      exact h2
    clear hd HD
    have E := fun w => eql_nil w 24 _ (some ad) n c Try.underlying24
    simp only [Option.isNone_some] at E
    go_enter Try.func46, Try.ntmps46
    go_wp2_with (first | (at_builtin; refine wpList_append_own _ rfl _ _ 24 rfl w.heap.size 61 i0 (.agg #[.string noS, .bool false, .slice none 0 0]) 3 48 Try.underlying24 hi hz0 hz1 hz2 rfl (by decide) _ _ _ rfl hown ad n c xs rfl hl HC.out h1 ?c3 ?c4 ?c5 ?_))
    case c3 => unfold maxLen; omega
    case c4 => omega
    case c5 => simp
    intro v2 w2 hown2 hg2 _
    go_wp2_with fail
    go_ret
    refine ⟨_, rfl, ?_, hbel.grown hg2 (by simp) (fun q hq => by simp [Value.ownBlock] at hq; omega)⟩
    simpa using hown2
theorem info40 : (Try.prog.info? 40).map (fun i => (i.zero, i.size, i.bytes)) = some (some (MV 0 0 0), 3, 24) := by kernel_rfl
set_option maxHeartbeats 1000000 in
set_option maxRecDepth 100000 in
theorem clone40_any (v : Value) (n : Nat) (xs : List Value) (w : World) (h : SHas 3 w v n xs) (hn : n ≤ 100) (h1 : ∀ u ∈ xs, u.oneCell' = true) : Calls Try.prog 47 #[v] w (ClPost 40 3 n xs w) := by
  obtain ⟨i0, hi, hz0, hz1, hz2⟩ := info_parts info40
  obtain ⟨hm, hl, ⟨rfl, rfl⟩ | ⟨ad, c, rfl, hd⟩⟩ := h
  · obtain rfl : xs = [] := List.eq_nil_of_length_eq_zero (by omega)
    have E := fun w => eql_nil w 59 _ none 0 0 Try.underlying59
    simp only [Option.isNone_none] at E
    go_enter Try.func47, Try.ntmps47
    go_wp2
    go_ret
    exact ⟨_, rfl, World.ownsRow_nil _ _ _ _, Below.refl _ _⟩
  · have HD : Hid (∀ (j : Nat) (u : Value), xs[j]? = some u → w.cell? (ad.add j) = some u) := fun j u hu => by
      have hj := (List.getElem?_eq_some_iff.1 hu).1
      have h0 : 0 < n := by
        rcases Nat.eq_zero_or_pos n with h | h
        · subst h; omega
        · exact h
      obtain ⟨g, o, rfl, hr⟩ := hd h0
      have := hr j u hu
      rwa [Addr.add_mid]
    have hown : (w.alloc (.cells #[] 40)).ownsRow w.heap.size 40 3 (.slice (some ⟨w.heap.size, 0, none⟩) 0 0) 0 [] := World.ownsRow_made w #[] 0 (Nat.le_refl _) (Nat.zero_le _) (by simp)
    have hbel : Below w.heap.size w (w.alloc (.cells #[] 40)) := bel_alloc (Below.refl _ _) _
    have HC : Hid (∀ (j : Nat) (u : Value), xs[j]? = some u → (w.alloc (.cells #[] 40)).cell? (ad.add j) = some u) := fun j u hu => by
      have h2 := HD.out j u hu
      have hlt : (ad.add j).block < w.heap.size := World.block_lt_of_cell? w _ h2
      rw [World.cell?_of_block (w := w) (hbel.block _ hlt)]
      exact h2
    clear hd HD
    have E := fun w => eql_nil w 59 _ (some ad) n c Try.underlying59
    simp only [Option.isNone_some] at E
    go_enter Try.func47, Try.ntmps47
    go_wp2_with (first | (at_builtin; refine wpList_append_own _ rfl _ _ 59 rfl w.heap.size 40 i0 (MV 0 0 0) 3 24 Try.underlying59 hi hz0 hz1 hz2 rfl (by decide) _ _ _ rfl hown ad n c xs rfl hl HC.out h1 ?c3 ?c4 ?c5 ?_))
    case c3 => unfold maxLen; omega
    case c4 => omega
    case c5 => simp
    intro v2 w2 hown2 hg2 _
    go_wp2_with fail
    go_ret
    refine ⟨_, rfl, ?_, hbel.grown hg2 (by simp) (fun q hq => by simp [Value.ownBlock] at hq; omega)⟩
    simpa using hown2
theorem info63 : (Try.prog.info? 63).map (fun i => (i.zero, i.size, i.bytes)) = some (some (.agg #[.int .i64 0, .int .i64 0, .int .i64 0, .int .i64 0, .int .i64 0, .int .i64 0, .int .i64 0, .string noS, .slice none 0 0]), 9, 96) := by kernel_rfl
set_option maxHeartbeats 1000000 in
set_option maxRecDepth 100000 in
theorem clone63_any (v : Value) (n : Nat) (xs : List Value) (w : World) (h : SHas 9 w v n xs) (hn : n ≤ 100) (h1 : ∀ u ∈ xs, u.oneCell' = true) : Calls Try.prog 48 #[v] w (ClPost 63 9 n xs w) := by
  obtain ⟨i0, hi, hz0, hz1, hz2⟩ := info_parts info63
  obtain ⟨hm, hl, ⟨rfl, rfl⟩ | ⟨ad, c, rfl, hd⟩⟩ := h
  · obtain rfl : xs = [] := List.eq_nil_of_length_eq_zero (by omega)
    have E := fun w => eql_nil w 25 _ none 0 0 Try.underlying25
    simp only [Option.isNone_none] at E
    go_enter Try.func48, Try.ntmps48
    go_wp2
    go_ret
    exact ⟨_, rfl, World.ownsRow_nil _ _ _ _, Below.refl _ _⟩
  · have HD : Hid (∀ (j : Nat) (u : Value), xs[j]? = some u → w.cell? (ad.add j) = some u) := fun j u hu => by
      have hj := (List.getElem?_eq_some_iff.1 hu).1
      have h0 : 0 < n := by
        rcases Nat.eq_zero_or_pos n with h | h
        · subst h; omega
        · exact h
      obtain ⟨g, o, rfl, hr⟩ := hd h0
      have := hr j u hu
      rwa [Addr.add_mid]
    have hown : (w.alloc (.cells #[] 63)).ownsRow w.heap.size 63 9 (.slice (some ⟨w.heap.size, 0, none⟩) 0 0) 0 [] := World.ownsRow_made w #[] 0 (Nat.le_refl _) (Nat.zero_le _) (by simp)
    have hbel : Below w.heap.size w (w.alloc (.cells #[] 63)) := bel_alloc (Below.refl _ _) _
    have HC : Hid (∀ (j : Nat) (u : Value), xs[j]? = some u → (w.alloc (.cells #[] 63)).cell? (ad.add j) = some u) := fun j u hu => by
      have h2 := HD.out j u hu
      have hlt : (ad.add j).block < w.heap.size := World.block_lt_of_cell? w _ h2
      rw [World.cell?_of_block (w := w) (hbel.block _ hlt)]
      exact h2
    clear hd HD
    have E := fun w => eql_nil w 25 _ (some ad) n c Try.underlying25
    simp only [Option.isNone_some] at E
    go_enter Try.func48, Try.ntmps48
    go_wp2_with (first | (at_builtin; refine wpList_append_own _ rfl _ _ 25 rfl w.heap.size 63 i0 (.agg #[.int .i64 0, .int .i64 0, .int .i64 0, .int .i64 0, .int .i64 0, .int .i64 0, .int .i64 0, .string noS, .slice none 0 0]) 9 96 Try.underlying25 hi hz0 hz1 hz2 rfl (by decide) _ _ _ rfl hown ad n c xs rfl hl HC.out h1 ?c3 ?c4 ?c5 ?_))
    case c3 => unfold maxLen; omega
    case c4 => omega
    case c5 => simp
    intro v2 w2 hown2 hg2 _
    go_wp2_with fail
    go_ret
    refine ⟨_, rfl, ?_, hbel.grown hg2 (by simp) (fun q hq => by simp [Value.ownBlock] at hq; omega)⟩
    simpa using hown2
end Go.Proofs.Ytfjpjodaaofgbaa
