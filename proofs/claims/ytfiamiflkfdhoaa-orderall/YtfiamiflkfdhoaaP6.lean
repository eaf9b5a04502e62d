import Derived.Test.YtfiamiflkfdhoaaP5
import Derived.Maps.AppendAt
import Derived.Test.YtfiamiflkfdhoaaP2
/- Lists of transactions, and where they lie: what blocks they keep off; rows of them of one's own, and what is appended to these. Nothing of one function. -/
namespace Go.Proofs.Ytfiamiflkfdhoaa
open Go.RowKit

/-- A slice that has something does not lie in that block. -/
def Off (b : Nat) (v : Value) : Prop := ∀ a n c, v = .slice (some a) n c → 0 < n → a.block ≠ b
/-- A slice of transactions, with the slices of their ops; none of them lies in certain blocks. -/
structure XAt (w : World) (v : Value) (ys : List (T × Value)) (off : Nat → Prop) : Prop where
  s : SHas 17 w v ys.length (rows T.cells ys)
  o : ∀ y ∈ ys, OHas w y.2 y.1.ops
  f : ∀ b, off b → Off b v ∧ ∀ y ∈ ys, Off b y.2
theorem range_same {w w' : World} {g o : Nat} {cs : List Value} (h : w.rangeAt g o cs) (hb : w'.heap[g]? = w.heap[g]?) : w'.rangeAt g o cs := fun j v hv => by
  rw [World.cell?_of_block (w := w) hb]
  exact h j v hv
theorem range_block {w : World} {g o : Nat} {cs : List Value} (h : w.rangeAt g o cs) (hc : 0 < cs.length) : g < w.heap.size := by
  rcases Nat.lt_or_ge g w.heap.size with h' | h'
  · exact h'
  · have := h 0 cs[0] (by simp)
    simp [World.cell?, Array.getElem?_eq_none h'] at this
section
variable {w w' : World} {v : Value} {ys : List (T × Value)} {off off' : Nat → Prop} {row : Option Nat}
theorem XAt.has (h : XAt w v ys off) : XHas w v (ys.map (·.1)) := ⟨ys, rfl, by rw [List.length_map]; exact h.s, h.o⟩
theorem XHas.xat {l : List T} (h : XHas w v l) : ∃ ys : List (T × Value), ys.map (·.1) = l ∧ XAt w v ys (fun _ => False) := by
  obtain ⟨ys, h1, h2, h3⟩ := h
  exact ⟨ys, h1, by have : l.length = ys.length := by rw [← h1, List.length_map]
                    exact this ▸ h2, h3, fun _ h => h.elim⟩
theorem XAt.later (h : XAt w v ys off) (hb : Below w.heap.size w w') : XAt w' v ys off := ⟨h.s.later hb, fun y hy => (h.o y hy).later hb, h.f⟩
theorem XAt.sub (h : XAt w v ys off) (hs : ∀ b, off' b → off b) : XAt w v ys off' := ⟨h.s, h.o, fun b hb => h.f b (hs b hb)⟩
theorem OHas.block {sl : Value} {l : List O} (h : OHas w sl l) {a : Addr} {n c : Nat} (e : sl = .slice (some a) n c) (hn : 0 < n) : a.block < w.heap.size := by
  obtain ⟨p, c', rfl, hm, hr⟩ := h
  simp only [Value.slice.injEq] at e
  obtain ⟨rfl, rfl, rfl⟩ := e
  obtain ⟨g, o, e, hd⟩ := hr hn
  simp only [Option.some.injEq] at e
  subst e
  exact range_block (hd 0 hn) (by simp)
theorem SHas.block {S n : Nat} {xs : List Value} (hS : 0 < S) (h : SHas S w v n xs) {a : Addr} {m c : Nat} (e : v = .slice (some a) m c) (hn : 0 < m) : a.block < w.heap.size := by
  obtain ⟨p, c', e2⟩ := h.slice
  rw [e2] at e
  simp only [Value.slice.injEq] at e
  obtain ⟨rfl, rfl, rfl⟩ := e
  subst e2
  obtain ⟨g, o, e, hd⟩ := h.at hn
  simp only [Option.some.injEq] at e
  subst e
  refine range_block hd ?_
  rw [h.2.1]
  exact Nat.mul_pos hn hS
/-- Nothing lies in blocks that are not there yet. -/
theorem XAt.more (h : XAt w v ys off) : XAt w v ys (fun b => off b ∨ w.heap.size ≤ b) := ⟨h.s, h.o, fun b hb => by
  rcases hb with hb | hb
  · exact h.f b hb
  · refine ⟨fun a n c e hn => ?_, fun y hy a n c e hn => ?_⟩
    · have := h.s.block (by decide) e hn
      omega
    · have := (h.o y hy).block e hn
      omega⟩
theorem OHas.grown {sl : Value} {l : List O} (h : OHas w sl l) (hg : w.grownBy w' row) (hf : ∀ b, row = some b → Off b sl) : OHas w' sl l := by
  obtain ⟨p, c, rfl, hm, hr⟩ := h
  refine ⟨p, c, rfl, hm, fun h0 => ?_⟩
  obtain ⟨g, o, rfl, hd⟩ := hr h0
  refine ⟨g, o, rfl, fun i hi => range_same (hd i hi) (hg.block g (range_block (hd i hi) (by simp)) fun e => ?_)⟩
  exact hf g e.symm _ _ _ rfl h0 rfl
theorem SHas.grown {S n : Nat} {xs : List Value} (hS : 0 < S) (h : SHas S w v n xs) (hg : w.grownBy w' row) (hf : ∀ b, row = some b → Off b v) : SHas S w' v n xs := by
  obtain ⟨hm, hl, ⟨rfl, rfl⟩ | ⟨ad, c, rfl, hc, hd⟩⟩ := h
  · exact ⟨hm, hl, .inl ⟨rfl, rfl⟩⟩
  · refine ⟨hm, hl, .inr ⟨ad, c, rfl, hc, fun h0 => ?_⟩⟩
    obtain ⟨g, o, rfl, hd2⟩ := hd h0
    refine ⟨g, o, rfl, range_same hd2 (hg.block g (range_block hd2 (by rw [hl]; exact Nat.mul_pos h0 hS)) fun e => ?_)⟩
    exact hf g e.symm _ _ _ rfl h0 rfl
theorem XAt.grown (h : XAt w v ys off) (hg : w.grownBy w' row) (hf : ∀ b, row = some b → off b) : XAt w' v ys off :=
  ⟨h.s.grown (by decide) hg fun b hb => (h.f b (hf b hb)).1, fun y hy => (h.o y hy).grown hg fun b hb => (h.f b (hf b hb)).2 y hy, h.f⟩
end
theorem grown_row (w : World) (b : Nat) (cs : Array Value) : w.grownBy (w.setRow b cs) (some b) := ⟨rfl, rfl, rfl, by simp [World.setRow], fun k _ h => setRow_other w b k cs fun e => h (by rw [e])⟩
/-- A row of transactions of one's own; their ops keep off it, and off certain blocks. -/
structure OwnX (w : World) (B : Nat) (v : Value) (ys : List (T × Value)) (off : Nat → Prop) : Prop where
  r : w.ownsRow B 34 17 v ys.length (rows T.cells ys)
  o : ∀ y ∈ ys, OHas w y.2 y.1.ops
  f : ∀ y ∈ ys, ∀ b, (v.ownBlock = some b ∨ off b) → Off b y.2
section
variable {w w' : World} {B : Nat} {v : Value} {ys zs : List (T × Value)} {off : Nat → Prop}
theorem own_later {B e S n : Nat} {xs : List Value} (h : w.ownsRow B e S v n xs) (hb : Below w.heap.size w w') : w'.ownsRow B e S v n xs := by
  refine ⟨h.1, ?_⟩
  rcases h.2 with h | ⟨g, cap, cur, e1, hbg, hg, h1, h2, h3, h4⟩
  · exact .inl h
  · exact .inr ⟨g, cap, cur, e1, hbg, (hb.block g (Array.getElem?_eq_some_iff.1 hg).1).trans hg, h1, h2, h3, h4⟩
theorem OwnX.later (h : OwnX w B v ys off) (hb : Below w.heap.size w w') : OwnX w' B v ys off := ⟨own_later h.r hb, fun y hy => (h.o y hy).later hb, h.f⟩
theorem OwnX.nil (w : World) (B : Nat) (off : Nat → Prop) : OwnX w B (.slice none 0 0) [] off := ⟨⟨rfl, .inl ⟨rfl, rfl⟩⟩, (fun _ h => by cases h), fun _ h => by cases h⟩
theorem OwnX.xat (h : OwnX w B v ys off) : XAt w v ys (fun _ => False) := ⟨own_sh h.r, h.o, fun _ h => h.elim⟩
theorem OwnX.block (h : OwnX w B v ys off) {b : Nat} (e : v.ownBlock = some b) : B ≤ b ∧ b < w.heap.size := by
  rcases h.r.2 with ⟨rfl, _⟩ | ⟨g, cap, cur, rfl, hbg, hg, _⟩
  · simp [Value.ownBlock] at e
  · simp only [Value.ownBlock, Option.some.injEq] at e
    subst e
    exact ⟨hbg, (Array.getElem?_eq_some_iff.1 hg).1⟩
/-- A block is written that is another one. -/
theorem OwnX.grown (h : OwnX w B v ys off) {q : Nat} (hg : w.grownBy w' (some q)) (hq : off q) (hne : v.ownBlock ≠ some q) : OwnX w' B v ys off := by
  refine ⟨⟨h.r.1, ?_⟩, fun y hy => (h.o y hy).grown hg fun b hb => h.f y hy b (.inr (by simp only [Option.some.injEq] at hb; exact hb ▸ hq)), h.f⟩
  rcases h.r.2 with h0 | ⟨g, cap, cur, rfl, hbg, hgg, h1, h2, h3, h4⟩
  · exact .inl h0
  · exact .inr ⟨g, cap, cur, rfl, hbg, (hg.block g (Array.getElem?_eq_some_iff.1 hgg).1 (fun e => hne (by simpa [Value.ownBlock] using e))).trans hgg, h1, h2, h3, h4⟩
theorem T.one (sl : Value) (hs : sl.oneCell' = true) (x : T) : ∀ u ∈ T.cells (x, sl), u.oneCell' = true := by
  intro u hu
  simp only [T.cells, txc, List.mem_cons, List.mem_append, vals, List.mem_map, List.not_mem_nil, or_false] at hu
  rcases hu with rfl | rfl | ⟨n, _, rfl⟩ | rfl | rfl
  · rfl
  · rfl
  · rfl
  · rfl
  · exact hs
theorem T.ones (h : ∀ y ∈ ys, OHas w y.2 y.1.ops) : ∀ u ∈ rows T.cells ys, u.oneCell' = true := by
  intro u hu
  obtain ⟨y, hy, hx⟩ := List.mem_flatMap.1 hu
  obtain ⟨p, c, e, _⟩ := h y hy
  exact T.one y.2 (by rw [e]; rfl) y.1 u hx
/-- What is there behind an append. -/
theorem OwnX.app {v' vx : Value} (h : OwnX w B v ys off) (hx : XAt w vx zs (fun b => v.ownBlock = some b ∨ off b)) (h2 : w'.ownsRow B 34 17 v' (ys.length + zs.length) (rows T.cells ys ++ rows T.cells zs)) (hg : w.grownBy w' v.ownBlock) (hb : v'.ownBlock = v.ownBlock ∨ v'.ownBlock = some w.heap.size) : OwnX w' B v' (ys ++ zs) off := by
  have hall : ∀ y ∈ ys ++ zs, OHas w y.2 y.1.ops ∧ ∀ b, (v.ownBlock = some b ∨ off b) → Off b y.2 := fun y hy => by
    rcases List.mem_append.1 hy with hy | hy
    · exact ⟨h.o y hy, h.f y hy⟩
    · exact ⟨hx.o y hy, fun b hb => (hx.f b hb).2 y hy⟩
  refine ⟨by rw [List.length_append, rows_append]; exact h2, fun y hy => (hall y hy).1.grown hg fun b hb => (hall y hy).2 b (.inl hb), fun y hy b e => ?_⟩
  rcases e with e | e
  · rcases hb with hb | hb
    · exact (hall y hy).2 b (.inl (hb ▸ e))
    · rw [hb] at e
      simp only [Option.some.injEq] at e
      subst e
      intro a n c e1 hn
      have := (hall y hy).1.block e1 hn
      omega
  · exact (hall y hy).2 b (.inr e)
end
theorem info34 : (Try.prog.info? 34).map (fun i => (i.zero, i.size, i.bytes)) = some (some (.agg #[.int .i64 0, .int .i64 0, .int .i64 0, .int .i64 0, .int .i64 0, .int .i64 0, .int .i64 0, .int .i64 0, .int .i64 0, .int .i64 0, .int .i64 0, .int .i64 0, .int .i64 0, .int .i64 0, .int .i64 0, .int .i64 0, .slice none 0 0]), 17, 152) := by kernel_rfl
theorem append_txs {ops : Array Oper} {rest : List Oper} {o : Oper} {a : Act} {Q : Exit → Act → World → Prop} {w : World} {B : Nat} {va vx : Value} {ys zs : List (T × Value)} {off : Nat → Prop} (hgd : o.guard = none) (s x : Operand) (ho : o.op = .call { callee := .builtin .append, args := #[s, x], argTypes := #[22, 22] })
    (hs : a.eval s = va) (hx : a.eval x = vx) (hown : OwnX w B va ys off) (hxs : XAt w vx zs (fun b => va.ownBlock = some b ∨ off b)) (hlen : ys.length + zs.length ≤ 100000) (hbase : B ≤ w.heap.size)
    (h : ∀ v' w', OwnX w' B v' (ys ++ zs) off → w.grownBy w' va.ownBlock → (v'.ownBlock = va.ownBlock ∨ v'.ownBlock = some w.heap.size) → wpList Try.prog ops Q rest (a.put o.dst v') w') : wpList Try.prog ops Q (o :: rest) a w := by
  obtain ⟨i, hi, e⟩ := Option.map_eq_some_iff.1 info34
  simp only [Prod.mk.injEq] at e
  have hmx : ys.length + zs.length ≤ maxLen := Nat.le_trans hlen (by decide)
  obtain ⟨hm, hl, ⟨rfl, h0⟩ | ⟨ad, c, rfl, hc, hd⟩⟩ := hxs.s
  · obtain rfl := List.length_eq_zero_iff.1 h0
    refine Go.wpList_append_own_none hgd s x 22 ho B 34 i 17 Try.underlying22 hi va ys.length _ hs hown.r hx (h va w ?_ ⟨rfl, rfl, rfl, Nat.le_refl _, fun _ _ _ => rfl⟩ (.inl rfl))
    rw [List.append_nil]
    exact hown
  · refine Go.wpList_append_own_at w hgd s x 22 ho B 34 i _ 17 152 Try.underlying22 hi e.1 e.2.1 e.2.2 rfl (by decide) va ys.length _ hs hown.r ad zs.length c (rows T.cells zs) hx hl (fun j u hu => ?_) (T.ones hxs.o) hmx (by omega) hbase fun v' w' h2 hg _ hb => h v' w' (hown.app hxs h2 hg hb) hg hb
    have hz : 0 < zs.length := by
      rcases Nat.eq_zero_or_pos zs.length with h' | h'
      · rw [h', Nat.zero_mul] at hl
        have := (List.getElem?_eq_some_iff.1 hu).1
        omega
      · exact h'
    obtain ⟨g, o', rfl, hr⟩ := hd hz
    rw [Addr.add_mid]
    exact hr j u hu
end Go.Proofs.Ytfiamiflkfdhoaa
/- Small of the document's answer. -/
namespace Go.Proofs.Ytfiamiflkfdhoaa
open Go.RowKit

/-- What Small tells. -/
def SmPost (n : Nat) (w : World) (e : Ending) (w' : World) : Prop := ∃ b, e = .returned (.bool b) ∧ (b = true → n ≤ 40) ∧ Below w.heap.size w w'
theorem O.str (o : O) : o.cells[1]? = some (.string o.key) ∧ o.cells[2]? = some (.string o.field) ∧ o.cells[6]? = some (.string o.text) := ⟨rfl, rfl, rfl⟩
set_option maxHeartbeats 2000000 in
set_option maxRecDepth 100000 in
theorem small_any (p s : Int) (v : List Int) (t : Int) (sl : Value) (l : List O) (w : World) (hv : v.length = 13) (ho : OHas w sl l) : Calls Try.prog 16 #[TxV p s v t sl] w (SmPost l.length w) := by
  obtain ⟨q, c, rfl, hm, hr⟩ := ho
  have hml := maxLen_lt hm
  have HR : Hid (0 < l.length → ∃ g o, q = some ⟨g, o, none⟩ ∧ ∀ i (h : i < l.length), w.rangeAt g (o + i * 10) l[i].cells) := hr
  clear hr
  have R0 := rw_new w 34 (txc p s v t (.slice q l.length c)).toArray
  have hbel : Below w.heap.size w (w.alloc (.cells (txc p s v t (.slice q l.length c)).toArray 34)) := bel_alloc (Below.refl _ _) _
  generalize hW : w.alloc (.cells (txc p s v t (.slice q l.length c)).toArray 34) = w0 at R0 hbel
  go_enter Try.func16, Try.ntmps16
  go_wp2_with (rw [hW])
  clear hW
  go_loopw [3] (fun vi wr => ∃ k : Nat, vi = .int .i64 k ∧ k ≤ l.length ∧ (l.length ≤ 40 ∨ k = 0) ∧ Rw wr w.heap.size 34 (txc p s v t (.slice q l.length c)).toArray ∧ Below w.heap.size w wr) (fun vi _ => l.length - (intOf vi).toNat)
  case atStart => exact ⟨0, rfl, by omega, .inr rfl, R0, hbel⟩
  case round =>
    clear R0 hbel
    obtain ⟨k, rfl, hk, hor, R, hbel⟩ := hrel
    have c16 := tx_ops R hv
    by_cases hle : l.length ≤ 40
    · have hle' : (l.length : Int) ≤ 40 := by omega
      by_cases hlt : k < l.length
      · have hlt' : (k : Int) < (l.length : Int) := by omega
        obtain ⟨g, o, rfl, hd⟩ := HR.out (by omega)
        have d := range_later (hd k hlt) hbel
        clear HR hd
        have hk40 : k < 40 := by omega
        generalize l[k] = x at d
        have z35 : (Try.prog.info? 45).map (·.size) = some x.cells.length := size45
        have hb2 : Below w.heap.size w (wr.alloc (.cells x.cells.toArray 45)) := bel_alloc hbel _
        have R2 := R.alloc (.cells x.cells.toArray 45)
        go_wp2_with (refine load_m 45 _ rfl rfl _ _ rfl d Try.underlying45 rfl z35 ?_)
        all_goals first
          | (go_ret; exact ⟨_, rfl, fun _ => hle, hb2⟩)
          | (go_roundw
             case rel => exact ⟨k + 1, by simp, by omega, .inl hle, R2, hb2⟩
             case measure => simp [intOf]; omega)
      · have hlt' : ¬ (k : Int) < (l.length : Int) := by omega
        clear HR
        go_wp2_with fail
        go_ret
        exact ⟨_, rfl, fun _ => hle, hbel⟩
    · obtain rfl : k = 0 := by omega
      have hle' : ¬ (l.length : Int) ≤ 40 := by omega
      have h0 : 0 < (l.length : Int) := by omega
      clear HR
      go_wp2_with fail
      go_ret
      exact ⟨_, rfl, fun h => by simp at h, hbel⟩
end Go.Proofs.Ytfiamiflkfdhoaa
/- Few of the document's answer, of lists of transactions; which dot is ahead. -/
namespace Go.Proofs.Ytfiamiflkfdhoaa
open Go.RowKit

/-- What Few tells. -/
def FewPost (l : List T) (w : World) (e : Ending) (w' : World) : Prop := ∃ b, e = .returned (.bool b) ∧ (b = true → l.length ≤ 40) ∧ Below w.heap.size w w'
set_option maxHeartbeats 4000000 in
set_option maxRecDepth 100000 in
theorem few_any (v : Value) (l : List T) (w : World) (h : XHas w v l) : Calls Try.prog 5 #[v] w (FewPost l w) := by
  obtain ⟨q, c, rfl⟩ := h.slice
  have hml := maxLen_lt h.max
  have H : Hid (XHas w (.slice q l.length c) l) := h
  clear h
  by_cases hle : l.length ≤ 40
  · have hle' : (l.length : Int) ≤ 40 := by omega
    go_enter Try.func5, Try.ntmps5
    go_wp2
    go_loopw [3, 4] (fun vn vi wr => ∃ (k : Nat) (n : Int), vi = .int .i64 k ∧ vn = .int .i64 n ∧ 0 ≤ n ∧ n ≤ 160 ∧ k ≤ l.length ∧ Below w.heap.size w wr) (fun _ vi _ => l.length - (intOf vi).toNat)
    case atStart => exact ⟨0, 0, rfl, rfl, by omega, by omega, by omega, Below.refl _ _⟩
    case round =>
      obtain ⟨k, n, rfl, rfl, h0, h160, hk, hbel⟩ := hrel
      by_cases hlt : k < l.length
      · have hlt' : (k : Int) < (l.length : Int) := by omega
        obtain ⟨g, o, sl, rfl, hd0, hs0⟩ := H.out.at k hlt
        have hd := range_later hd0 hbel
        have hs := hs0.later hbel
        clear hd0 hs0 H
        generalize l[k] = x at hd hs
        have hs' := hs
        obtain ⟨ps, cs, rfl, hms, _⟩ := hs'
        have c16 := at_ops hd
        have hmo := maxLen_lt hms
        obtain ⟨m, HM⟩ := hid_ex (IntKind.i64.wrap (n + (x.ops.length : Int)))
        have hm := HM.out
        have z := tx_size x (.slice ps x.ops.length cs)
        go_wp2_with (first | refine load_m 34 _ rfl rfl _ _ rfl hd Try.underlying34 rfl z ?_ | rw [hm])
        refine (small_any x.p x.s x.v x.t (.slice ps x.ops.length cs) x.ops _ x.hv hs).mono ?_
        rintro e w1 ⟨b, rfl, hb, hb1⟩
        have hbel1 := below_on hbel hb1
        cases b
        · go_wp2_with fail
          go_ret
          exact ⟨_, rfl, fun _ => hle, hbel1⟩
        · have h40 := hb rfl
          have e1 : m = n + (x.ops.length : Int) := by rw [← HM.out, IntKind.wrap_i64]; omega
          by_cases hm160 : 160 < m
          · go_wp2_with fail
            go_ret
            exact ⟨_, rfl, fun _ => hle, hbel1⟩
          · go_wp2_with fail
            go_roundw
            case rel => exact ⟨k + 1, m, by simp, by rw [e1], by omega, by omega, by omega, hbel1⟩
            case measure => simp [intOf]; omega
      · have hlt' : ¬ (k : Int) < (l.length : Int) := by omega
        clear H
        go_wp2_with fail
        go_ret
        exact ⟨_, rfl, fun _ => hle, hbel⟩
  · have hle' : ¬ (l.length : Int) ≤ 40 := by omega
    have h0 : 0 < (l.length : Int) := by omega
    go_enter Try.func5, Try.ntmps5
    go_wp2
    go_loopw [3, 4] (fun vn vi wr => vi = .int .i64 0 ∧ Below w.heap.size w wr) (fun _ _ _ => 0)
    case atStart => exact ⟨rfl, Below.refl _ _⟩
    case round =>
      obtain ⟨rfl, hbel⟩ := hrel
      go_wp2_with fail
      go_ret
      exact ⟨_, rfl, fun h => by simp at h; omega, hbel⟩
/-- One dot is ahead of another one. -/
def ahd (p s q u : Int) : Bool := if p = q then decide (s < u) else decide (p < q)
end Go.Proofs.Ytfiamiflkfdhoaa
/- Transactions that are delivered: which is ready, what a vector comes to, what is drained, where one waits. Lists alone; nothing of one function. -/
namespace Go.Proofs.Ytfiamiflkfdhoaa

/-- It Checks; it is ready; what a vector is behind it; a vector has it. -/
def T.ok (x : T) : Bool := ct x.p x.s x.v x.t x.ops
def rdy (v : List Int) (x : T) : Bool := x.ok && (decide (v.getD x.p.toNat 0 + 1 = x.s) && lq x.v v)
def stp (v : List Int) (x : T) : List Int := v.set x.p.toNat x.s
abbrev hsT (v : List Int) (x : T) : Bool := hs v x.p x.s
theorem T.ok_p {x : T} (h : x.ok = true) : 1 ≤ x.p ∧ x.p ≤ 12 := by
  simp only [T.ok, ct, wi, Bool.and_eq_true, decide_eq_true_eq] at h
  exact h.1.1.1.1
theorem T.ok_s {x : T} (h : x.ok = true) : 1 ≤ x.s ∧ x.s ≤ 1048576 := by
  simp only [T.ok, ct, wi, Bool.and_eq_true, decide_eq_true_eq] at h
  exact h.1.1.1.2
theorem rdy_ok {v : List Int} {x : T} (h : rdy v x = true) : x.ok = true := by
  simp only [rdy, Bool.and_eq_true] at h
  exact h.1
theorem rdy_s {v : List Int} {x : T} (h : rdy v x = true) : v.getD x.p.toNat 0 + 1 = x.s := by
  simp only [rdy, Bool.and_eq_true, decide_eq_true_eq] at h
  exact h.2.1
theorem rdy_lq {v : List Int} {x : T} (h : rdy v x = true) : lq x.v v = true := by
  simp only [rdy, Bool.and_eq_true, decide_eq_true_eq] at h
  exact h.2.2
theorem rdy_mk {v : List Int} {x : T} (h1 : x.ok = true) (h2 : v.getD x.p.toNat 0 + 1 = x.s) (h3 : lq x.v v = true) : rdy v x = true := by
  simp only [rdy, Bool.and_eq_true, decide_eq_true_eq]
  exact ⟨h1, h2, h3⟩
theorem stp_length (v : List Int) (x : T) : (stp v x).length = v.length := by simp [stp]
theorem stp_same {v : List Int} {x : T} (hv : v.length = 13) (h : x.ok = true) : (stp v x).getD x.p.toNat 0 = x.s := by
  have hp := T.ok_p h
  have : x.p.toNat < v.length := by omega
  simp [stp, List.getD_eq_getElem?_getD, this]
theorem stp_other (v : List Int) (x : T) (i : Nat) (h : i ≠ x.p.toNat) : (stp v x).getD i 0 = v.getD i 0 := by
  simp [stp, List.getD_eq_getElem?_getD, List.getElem?_set_ne (Ne.symm h)]
theorem stp_le {v : List Int} {x : T} (hv : v.length = 13) (h : rdy v x = true) (i : Nat) : v.getD i 0 ≤ (stp v x).getD i 0 := by
  by_cases hi : i = x.p.toNat
  · subst hi
    rw [stp_same hv (rdy_ok h)]
    have := rdy_s h
    omega
  · rw [stp_other v x i hi]
    omega
theorem hsT_iff {v : List Int} {x : T} : hsT v x = true ↔ (1 ≤ x.p ∧ x.p ≤ 12) ∧ 1 ≤ x.s ∧ x.s ≤ v.getD x.p.toNat 0 := by
  simp only [hs, wi, Bool.and_eq_true, decide_eq_true_eq]
theorem rdy_not {v : List Int} {x : T} (h : rdy v x = true) : hsT v x = false := by
  cases e : hsT v x with
  | false => rfl
  | true =>
    have := (hsT_iff.1 e).2.2
    have := rdy_s h
    omega
theorem has_rdy {v : List Int} {x : T} (h : hsT v x = true) : rdy v x = false := by
  cases e : rdy v x with
  | false => rfl
  | true => rw [rdy_not e] at h; cases h
/-- One after the other. -/
def run (v : List Int) : List T → List Int
  | [] => v
  | x :: l => run (stp v x) l
def clb (v : List Int) : List T → Bool
  | [] => true
  | x :: l => rdy v x && clb (stp v x) l
theorem run_length : ∀ (l : List T) (v : List Int), (run v l).length = v.length
  | [], _ => rfl
  | x :: l, v => by rw [run, run_length l, stp_length]
theorem run_append : ∀ (l m : List T) (v : List Int), run v (l ++ m) = run (run v l) m
  | [], _, _ => rfl
  | x :: l, m, v => by simp only [List.cons_append, run]; exact run_append l m _
theorem clb_append : ∀ (l m : List T) (v : List Int), clb v (l ++ m) = (clb v l && clb (run v l) m)
  | [], m, v => by simp [clb, run]
  | x :: l, m, v => by simp only [List.cons_append, clb, run, clb_append l m, Bool.and_assoc]
theorem run_le : ∀ (l : List T) (v : List Int), v.length = 13 → clb v l = true → ∀ i, v.getD i 0 ≤ (run v l).getD i 0
  | [], _, _, _, _ => Int.le_refl _
  | x :: l, v, hv, h, i => by
    simp only [clb, Bool.and_eq_true] at h
    exact Int.le_trans (stp_le hv h.1 i) (run_le l (stp v x) (by rw [stp_length]; exact hv) h.2 i)
theorem lq_mono {a b c : List Int} (ha : a.length = 13) (hb : b.length = 13) (hc : c.length = 13) (h : lq a b = true) (h2 : ∀ i, b.getD i 0 ≤ c.getD i 0) : lq a c = true :=
  (lq_iff ha hc).2 fun i hi => Int.le_trans ((lq_iff ha hb).1 h i hi) (h2 i)
theorem has_mono {v u : List Int} {x : T} (h : hsT v x = true) (h2 : ∀ i, v.getD i 0 ≤ u.getD i 0) : hsT u x = true := by
  obtain ⟨a, b, c⟩ := hsT_iff.1 h
  exact hsT_iff.2 ⟨a, b, Int.le_trans c (h2 _)⟩
theorem has_stp {v : List Int} {x : T} (hv : v.length = 13) (h : x.ok = true) : hsT (stp v x) x = true := by
  have hs := T.ok_s h
  refine hsT_iff.2 ⟨T.ok_p h, hs.1, ?_⟩
  rw [stp_same hv h]
  omega
/-- Each that is delivered is there in the end. -/
theorem has_run : ∀ (l : List T) (v : List Int), v.length = 13 → clb v l = true → ∀ x ∈ l, hsT (run v l) x = true
  | y :: l, v, hv, h, x, hx => by
    simp only [clb, Bool.and_eq_true] at h
    have hv' : (stp v y).length = 13 := by rw [stp_length]; exact hv
    rcases List.mem_cons.1 hx with rfl | hx
    · exact has_mono (has_stp hv (rdy_ok h.1)) (run_le l _ hv' h.2)
    · exact has_run l (stp v y) hv' h.2 x hx
/-- What is there in the end, and was not, was delivered. -/
theorem run_has : ∀ (l : List T) (v : List Int), v.length = 13 → clb v l = true → ∀ p : Int, 1 ≤ p → p ≤ 12 → ∀ s : Int, v.getD p.toNat 0 < s → s ≤ (run v l).getD p.toNat 0 → ∃ x ∈ l, x.p = p ∧ x.s = s
  | [], v, _, _, p, _, _, s, h1, h2 => by simp only [run] at h2; omega
  | y :: l, v, hv, h, p, hp1, hp2, s, h1, h2 => by
    simp only [clb, Bool.and_eq_true] at h
    have hv' : (stp v y).length = 13 := by rw [stp_length]; exact hv
    have hok := T.ok_p (rdy_ok h.1)
    by_cases hs : (stp v y).getD p.toNat 0 < s
    · obtain ⟨x, hx, e⟩ := run_has l (stp v y) hv' h.2 p hp1 hp2 s hs h2
      exact ⟨x, List.mem_cons_of_mem _ hx, e⟩
    · by_cases hp : p = y.p
      · subst hp
        rw [stp_same hv (rdy_ok h.1)] at hs
        have := rdy_s h.1
        exact ⟨y, List.mem_cons_self, rfl, by omega⟩
      · rw [stp_other v y _ (by omega)] at hs
        exact absurd h1 hs
/-- How many: one more each. -/
def tot (v : List Int) : Int := v.sum
theorem sum_set : ∀ (v : List Int) (i : Nat) (a : Int), i < v.length → (v.set i a).sum = v.sum - v.getD i 0 + a
  | x :: v, 0, a, _ => by simp; omega
  | x :: v, i + 1, a, h => by
    have := sum_set v i a (by simpa using h)
    simp only [List.set_cons_succ, List.sum_cons, List.getD_cons_succ, this]
    omega
theorem run_tot : ∀ (l : List T) (v : List Int), v.length = 13 → clb v l = true → tot (run v l) = tot v + l.length
  | [], v, _, _ => by simp [run]
  | x :: l, v, hv, h => by
    simp only [clb, Bool.and_eq_true] at h
    have hp := T.ok_p (rdy_ok h.1)
    have hs := rdy_s h.1
    have := run_tot l (stp v x) (by rw [stp_length]; exact hv) h.2
    have e : tot (stp v x) = tot v + 1 := by
      unfold tot stp
      rw [sum_set v _ _ (by omega)]
      omega
    simp only [run, this, e, List.length_cons]
    omega
end Go.Proofs.Ytfiamiflkfdhoaa
/- What is drained, and where one waits: lists alone. -/
namespace Go.Proofs.Ytfiamiflkfdhoaa

/-- The same dot. -/
def sd (x y : T) : Bool := decide (x.p = y.p) && decide (x.s = y.s)
theorem sd_iff {x y : T} : sd x y = true ↔ x.p = y.p ∧ x.s = y.s := by simp [sd]
/-- How many a vector has not. -/
def lack (v : List Int) (l : List T) : Nat := l.countP fun x => !hsT v x
theorem lack_mono {v u : List Int} (h : ∀ i, v.getD i 0 ≤ u.getD i 0) : ∀ l : List T, lack u l ≤ lack v l := fun l => List.countP_mono_left fun x _ hx => by
  cases e : hsT v x with
  | false => rfl
  | true => rw [has_mono e h] at hx; cases hx
theorem lack_stp {v : List Int} {x : T} (hv : v.length = 13) (h : rdy v x = true) : ∀ l : List T, x ∈ l → lack (stp v x) l + 1 ≤ lack v l
  | y :: l, hx => by
    have hm := lack_mono (stp_le hv h) l
    unfold lack at hm ⊢
    rw [List.countP_cons, List.countP_cons]
    rcases List.mem_cons.1 hx with rfl | hx
    · rw [has_stp hv (rdy_ok h), rdy_not h]
      simp
      omega
    · have := lack_stp hv h l hx
      unfold lack at this
      cases e : hsT v y with
      | true => rw [has_mono e (stp_le hv h)]; simp; omega
      | false =>
        cases e2 : hsT (stp v x) y <;> simp <;> omega
/-- Again and again the first one that is ready. -/
def dr : Nat → List Int → List T → List T × List Int
  | 0, v, _ => ([], v)
  | n + 1, v, l => match l.find? (rdy v) with
    | none => ([], v)
    | some x => (x :: (dr n (stp v x) l).1, (dr n (stp v x) l).2)
theorem dr_none {v : List Int} {l : List T} (n : Nat) (h : l.find? (rdy v) = none) : dr n v l = ([], v) := by
  cases n with
  | zero => rfl
  | succ n => simp only [dr, h]
theorem dr_some {v : List Int} {l : List T} (n : Nat) {x : T} (h : l.find? (rdy v) = some x) : dr (n + 1) v l = (x :: (dr n (stp v x) l).1, (dr n (stp v x) l).2) := by
  simp only [dr, h]
theorem dr_spec : ∀ (n : Nat) (v : List Int) (l : List T), v.length = 13 → clb v (dr n v l).1 = true ∧ (dr n v l).2 = run v (dr n v l).1 ∧ (∀ x ∈ (dr n v l).1, x ∈ l) ∧ (dr n v l).1.length + lack (dr n v l).2 l ≤ lack v l ∧ (lack v l < n → l.find? (rdy (dr n v l).2) = none)
  | 0, v, l, hv => ⟨rfl, rfl, (fun _ h => by cases h), by simp [dr], fun h => by omega⟩
  | n + 1, v, l, hv => by
    cases e : l.find? (rdy v) with
    | none => rw [dr_none _ e]; exact ⟨rfl, rfl, (fun _ h => by cases h), by simp, fun _ => e⟩
    | some x =>
      have hr : rdy v x = true := List.find?_some e
      have hx : x ∈ l := List.mem_of_find?_eq_some e
      obtain ⟨h1, h2, h3, h4, h5⟩ := dr_spec n (stp v x) l (by rw [stp_length]; exact hv)
      have hl := lack_stp hv hr l hx
      rw [dr_some n e]
      refine ⟨by simp only [clb, hr, h1, Bool.and_self], by simp only [run]; exact h2, fun y hy => ?_, by simp only [List.length_cons]; omega, fun h => h5 (by omega)⟩
      rcases List.mem_cons.1 hy with rfl | hy
      · exact hx
      · exact h3 y hy
theorem lack_le (v : List Int) (l : List T) : lack v l ≤ l.length := List.countP_le_length
/-- What is delivered, what still waits, the vector. -/
def drG (v : List Int) (l : List T) : List T := (dr (l.length + 1) v l).1
def drV (v : List Int) (l : List T) : List Int := (dr (l.length + 1) v l).2
def drL (v : List Int) (l : List T) : List T := l.filter fun x => !hsT (drV v l) x
section
variable {v : List Int} {l : List T}
theorem drG_clb (hv : v.length = 13) : clb v (drG v l) = true := (dr_spec _ v l hv).1
theorem drV_run (hv : v.length = 13) : drV v l = run v (drG v l) := (dr_spec _ v l hv).2.1
theorem drG_mem (hv : v.length = 13) {x : T} (h : x ∈ drG v l) : x ∈ l := (dr_spec _ v l hv).2.2.1 x h
theorem drL_mem {x : T} : x ∈ drL v l ↔ x ∈ l ∧ hsT (drV v l) x = false := by
  simp only [drL, List.mem_filter, Bool.not_eq_true']
theorem dr_not (hv : v.length = 13) {x : T} (h : x ∈ l) : rdy (drV v l) x = false := by
  have := (dr_spec (l.length + 1) v l hv).2.2.2.2 (by have := lack_le v l; omega)
  have := List.find?_eq_none.1 this x h
  cases e : rdy (drV v l) x with
  | false => rfl
  | true => exact absurd e this
theorem dr_len (hv : v.length = 13) : (drG v l).length + (drL v l).length ≤ l.length := by
  have h1 := (dr_spec (l.length + 1) v l hv).2.2.2.1
  have h2 := lack_le v l
  have h3 : (drL v l).length = lack (drV v l) l := by unfold drL lack; rw [List.countP_eq_length_filter]
  unfold drG
  unfold drV at h3
  omega
theorem drV_length (hv : v.length = 13) : (drV v l).length = 13 := by rw [drV_run hv, run_length, hv]
end
/-- Where one waits. -/
def insT (t : T) : List T → List T
  | [] => [t]
  | x :: l => if ahd t.p t.s x.p x.s then t :: x :: l else x :: insT t l
def ofE (v : List Int) (l : List T) (t : T) : Int := if t.ok = false then 3 else if (l.any fun x => sd x t) = true then 8 else if hsT v t = true then 8 else if 32 ≤ l.length then 4 else 0
def ofL (v : List Int) (l : List T) (t : T) : List T := if ofE v l t = 0 then insT t l else l
theorem insT_mem {t : T} : ∀ {l : List T} {x : T}, x ∈ insT t l ↔ x = t ∨ x ∈ l
  | [], x => by simp [insT]
  | y :: l, x => by
    unfold insT
    split
    · simp
    · simp only [List.mem_cons, insT_mem (l := l)]
      constructor
      · rintro (h | h | h) <;> simp [h]
      · rintro (h | h | h) <;> simp [h]
theorem insT_length (t : T) : ∀ l : List T, (insT t l).length = l.length + 1
  | [] => rfl
  | y :: l => by
    unfold insT
    split
    · simp
    · simp [insT_length t l]
theorem ofE_ok {v : List Int} {l : List T} {t : T} (h : ofE v l t = 0) : t.ok = true ∧ (∀ x ∈ l, sd x t = false) ∧ hsT v t = false ∧ l.length < 32 := by
  unfold ofE at h
  split at h
  · cases h
  · rename_i h1
    split at h
    · cases h
    · rename_i h2
      split at h
      · cases h
      · rename_i h3
        split at h
        · cases h
        · rename_i h4
          refine ⟨by simpa using h1, fun x hx => ?_, by simpa using h3, by omega⟩
          cases e : sd x t with
          | false => rfl
          | true => exact absurd (List.any_eq_true.2 ⟨x, hx, e⟩) h2
theorem ofE_mk {v : List Int} {l : List T} {t : T} (h1 : t.ok = true) (h2 : ∀ x ∈ l, sd x t = false) (h3 : hsT v t = false) (h4 : l.length < 32) : ofE v l t = 0 := by
  have h5 : (l.any fun x => sd x t) = false := by
    cases e : l.any fun x => sd x t with
    | false => rfl
    | true =>
      obtain ⟨x, hx, hs⟩ := List.any_eq_true.1 e
      rw [h2 x hx] at hs
      cases hs
  unfold ofE
  rw [if_neg (by simp [h1]), if_neg (by simp [h5]), if_neg (by simp [h3]), if_neg (by omega)]
/-- Those that wait rise. -/
abbrev ah (x y : T) : Bool := ahd x.p x.s y.p y.s
def rs : List T → Bool
  | [] => true
  | [_] => true
  | x :: y :: l => ah x y && rs (y :: l)
theorem ah_iff {x y : T} : ah x y = true ↔ x.p < y.p ∨ x.p = y.p ∧ x.s < y.s := by
  unfold ah ahd
  split
  · rename_i h
    simp [h]
  · rename_i h
    simp [h]
theorem ah_total {x y : T} (h : ah x y = false) (h2 : sd y x = false) : ah y x = true := by
  have h1 : ¬ (ah x y = true) := by simp [h]
  have h3 : ¬ (sd y x = true) := by simp [h2]
  rw [ah_iff] at h1
  rw [sd_iff] at h3
  rw [ah_iff]
  omega
theorem rs_ins {t : T} : ∀ {l : List T}, rs l = true → (∀ x ∈ l, sd x t = false) → rs (insT t l) = true
  | [], _, _ => rfl
  | [x], _, h => by
    cases e : ah t x with
    | true =>
      simp only [insT, e, if_true, rs, Bool.and_self]
    | false =>
      have := ah_total e (h x (by simp))
      simp only [insT, e, Bool.false_eq_true, if_false, rs, this, Bool.and_self]
  | x :: y :: l, hr, h => by
    simp only [rs, Bool.and_eq_true] at hr
    cases e : ah t x with
    | true =>
      simp only [insT, e, if_true, rs, hr.1, hr.2, Bool.and_self]
    | false =>
      have h1 := ah_total e (h x (by simp))
      have ih := rs_ins (t := t) (l := y :: l) hr.2 (fun z hz => h z (List.mem_cons_of_mem _ hz))
      cases e2 : ah t y with
      | true =>
        simp only [insT, e, e2, Bool.false_eq_true, if_false, if_true, rs, h1, hr.2, Bool.and_self]
      | false =>
        have e3 : insT t (x :: y :: l) = x :: y :: insT t l := by simp only [insT, e, e2, Bool.false_eq_true, if_false]
        have e4 : insT t (y :: l) = y :: insT t l := by simp only [insT, e2, Bool.false_eq_true, if_false]
        rw [e3, rs, hr.1, Bool.true_and, ← e4]
        exact ih
end Go.Proofs.Ytfiamiflkfdhoaa
/- The laws of what is delivered, of lists alone. -/
namespace Go.Proofs.Ytfiamiflkfdhoaa

theorem zeros_len : zeros.length = 13 := rfl
theorem run_zero : ∀ (l : List T) (v : List Int), clb v l = true → (run v l).getD 0 0 = v.getD 0 0
  | [], _, _ => rfl
  | x :: l, v, h => by
    simp only [clb, Bool.and_eq_true] at h
    have hp := T.ok_p (rdy_ok h.1)
    rw [run, run_zero l _ h.2, stp_other v x 0 (by omega)]
theorem run_nonneg {l : List T} (h : clb zeros l = true) (i : Nat) : 0 ≤ (run zeros l).getD i 0 := by
  have := run_le l zeros rfl h i
  rw [zeros_at] at this
  exact this
/-- What was delivered is below what has all of it. -/
theorem run_below {a : List T} {u : List Int} (h : clb zeros a = true) (hu : ∀ y ∈ a, hsT u y = true) (h0 : ∀ i, 0 ≤ u.getD i 0) (i : Nat) : (run zeros a).getD i 0 ≤ u.getD i 0 := by
  by_cases hs : 0 < (run zeros a).getD i 0
  · have hi0 : i ≠ 0 := by
      rintro rfl
      rw [run_zero a zeros h, zeros_at] at hs
      omega
    have hi13 : i < 13 := by
      rcases Nat.lt_or_ge i 13 with h' | h'
      · exact h'
      · rw [List.getD_eq_getElem?_getD, List.getElem?_eq_none (by rw [run_length]; exact h')] at hs
        simp at hs
    obtain ⟨x, hx, hp, hq⟩ := run_has a zeros rfl h (i : Int) (by omega) (by omega) ((run zeros a).getD i 0) (by rw [zeros_at]; exact hs) (by simp)
    have := (hsT_iff.1 (hu x hx)).2.2
    rw [hp, hq] at this
    simpa using this
  · have := h0 i
    omega
theorem clb_gt : ∀ (l : List T) (v : List Int), v.length = 13 → clb v l = true → ∀ y ∈ l, v.getD y.p.toNat 0 < y.s
  | x :: l, v, hv, h, y, hy => by
    simp only [clb, Bool.and_eq_true] at h
    rcases List.mem_cons.1 hy with rfl | hy
    · have := rdy_s h.1
      omega
    · exact Int.lt_of_le_of_lt (stp_le hv h.1 _) (clb_gt l _ (by rw [stp_length]; exact hv) h.2 y hy)
theorem clb_apart : ∀ (l : List T) (v : List Int), v.length = 13 → clb v l = true → l.Pairwise fun x y => sd x y = false
  | [], _, _, _ => .nil
  | x :: l, v, hv, h => by
    simp only [clb, Bool.and_eq_true] at h
    have hv' : (stp v x).length = 13 := by rw [stp_length]; exact hv
    refine .cons (fun y hy => ?_) (clb_apart l _ hv' h.2)
    cases e : sd x y with
    | false => rfl
    | true =>
      obtain ⟨e1, e2⟩ := sd_iff.1 e
      have h1 := clb_gt l _ hv' h.2 y hy
      rw [← e1, stp_same hv (rdy_ok h.1)] at h1
      omega
theorem sd_comm (x y : T) : sd x y = sd y x := by
  unfold sd
  rw [decide_eq_decide.2 (show x.p = y.p ↔ y.p = x.p from ⟨Eq.symm, Eq.symm⟩), decide_eq_decide.2 (show x.s = y.s ↔ y.s = x.s from ⟨Eq.symm, Eq.symm⟩)]
theorem clb_ne {l : List T} {v : List Int} (hv : v.length = 13) (h : clb v l = true) {i j : Nat} (hi : i < l.length) (hj : j < l.length) (hne : i ≠ j) : sd l[i] l[j] = false := by
  have hp := List.pairwise_iff_getElem.1 (clb_apart l v hv h)
  rcases Nat.lt_or_gt_of_ne hne with h' | h'
  · exact hp i j hi hj h'
  · rw [sd_comm]
    exact hp j i hj hi h'
theorem clb_ok : ∀ (l : List T) (v : List Int), clb v l = true → ∀ x ∈ l, x.ok = true
  | y :: l, v, h, x, hx => by
    simp only [clb, Bool.and_eq_true] at h
    rcases List.mem_cons.1 hx with rfl | hx
    · exact rdy_ok h.1
    · exact clb_ok l _ h.2 x hx

/-- What was delivered, what waits, what a vector has: behind offers, each drained. -/
structure Cd (all wait : List T) (v : List Int) : Prop where
  c : clb zeros all = true
  r : v = run zeros all
  n : ∀ x ∈ wait, hsT v x = false ∧ rdy v x = false
theorem Cd.len {all wait : List T} {v : List Int} (h : Cd all wait v) : v.length = 13 := by rw [h.r, run_length]; rfl
theorem Cd.zero : Cd [] [] zeros := ⟨rfl, rfl, fun _ h => by cases h⟩
theorem Cd.step {all wait : List T} {v : List Int} (h : Cd all wait v) (m : List T) : Cd (all ++ drG v m) (drL v m) (drV v m) := by
  have hv := h.len
  refine ⟨?_, ?_, fun x hx => ?_⟩
  · rw [clb_append, h.c, ← h.r, drG_clb hv]
    rfl
  · rw [run_append, ← h.r]
    exact drV_run hv
  · obtain ⟨h1, h2⟩ := drL_mem.1 hx
    exact ⟨h2, dr_not hv h1⟩
/-- And of what was offered nothing is lost. -/
structure Al (os all wait : List T) (v : List Int) : Prop extends Cd all wait v where
  a : ∀ x ∈ all, x ∈ os
  w : ∀ x ∈ wait, x ∈ os
  h : ∀ x ∈ os, hsT v x = true ∨ x ∈ wait
  l : all.length + wait.length ≤ os.length
theorem Al.zero : Al [] [] [] zeros := ⟨Cd.zero, (fun _ h => by cases h), (fun _ h => by cases h), (fun _ h => by cases h), Nat.le_refl _⟩
theorem Al.new {os all wait : List T} {v : List Int} (h : Al os all wait v) {x : T} (hok : x.ok = true) (hx : ∀ y ∈ os, sd y x = false) (hl : os.length < 32) : ofE v wait x = 0 := by
  refine ofE_mk hok (fun y hy => hx y (h.w y hy)) ?_ (by have := h.l; omega)
  cases e : hsT v x with
  | false => rfl
  | true =>
    obtain ⟨hp, hs, hle⟩ := hsT_iff.1 e
    rw [h.r] at hle
    obtain ⟨y, hy, e1, e2⟩ := run_has all zeros rfl h.c x.p hp.1 hp.2 x.s (by rw [zeros_at]; omega) hle
    have := hx y (h.a y hy)
    rw [sd_iff.2 ⟨e1, e2⟩] at this
    cases this
theorem Al.step {os all wait : List T} {v : List Int} (h : Al os all wait v) (x : T) : Al (os ++ [x]) (all ++ drG v (insT x wait)) (drL v (insT x wait)) (drV v (insT x wait)) := by
  have hv := h.len
  have hin : ∀ y ∈ insT x wait, y ∈ os ++ [x] := fun y hy => by
    rcases insT_mem.1 hy with rfl | hy
    · simp
    · exact List.mem_append_left _ (h.w y hy)
  refine ⟨h.toCd.step _, fun y hy => ?_, fun y hy => hin y (drL_mem.1 hy).1, fun y hy => ?_, ?_⟩
  · rcases List.mem_append.1 hy with hy | hy
    · exact List.mem_append_left _ (h.a y hy)
    · exact hin y (drG_mem hv hy)
  · have hm : hsT v y = true ∨ y ∈ insT x wait := by
      rcases List.mem_append.1 hy with hy | hy
      · rcases h.h y hy with h' | h'
        · exact .inl h'
        · exact .inr (insT_mem.2 (.inr h'))
      · simp only [List.mem_singleton] at hy
        exact .inr (insT_mem.2 (.inl hy))
    rcases hm with h' | h'
    · refine .inl (has_mono h' fun i => ?_)
      rw [drV_run hv]
      exact run_le _ v hv (drG_clb hv) i
    · cases e : hsT (drV v (insT x wait)) y with
      | true => exact .inl rfl
      | false => exact .inr (drL_mem.2 ⟨h', e⟩)
  · have h1 := dr_len (v := v) (l := insT x wait) hv
    have h2 := h.l
    rw [insT_length] at h1
    simp only [List.length_append, List.length_cons, List.length_nil]
    omega
/-- The first one that is not had. -/
theorem first_not {α : Type} (f : α → Bool) : ∀ l : List α, (∃ x ∈ l, f x = false) → ∃ a x b, l = a ++ x :: b ∧ (∀ y ∈ a, f y = true) ∧ f x = false
  | y :: l, h => by
    cases e : f y with
    | false => exact ⟨[], y, l, rfl, (fun _ h => by cases h), e⟩
    | true =>
      obtain ⟨a, x, b, rfl, h1, h2⟩ := first_not f l (by
        obtain ⟨x, hx, hf⟩ := h
        rcases List.mem_cons.1 hx with rfl | hx
        · rw [e] at hf; cases hf
        · exact ⟨x, hx, hf⟩)
      refine ⟨y :: a, x, b, rfl, fun z hz => ?_, h2⟩
      rcases List.mem_cons.1 hz with rfl | hz
      · exact e
      · exact h1 z hz
theorem list_ext13 {a b : List Int} (ha : a.length = 13) (hb : b.length = 13) (h : ∀ i, a.getD i 0 = b.getD i 0) : a = b := by
  refine List.ext_getElem (by omega) fun i h1 h2 => ?_
  have := h i
  simpa [List.getD_eq_getElem?_getD, List.getElem?_eq_getElem h1, List.getElem?_eq_getElem h2] using this
theorem Al.all {l os all wait : List T} {v : List Int} (h : Al os all wait v) (hl : clb zeros l = true) (h1 : ∀ x ∈ l, x ∈ os) (h2 : ∀ x ∈ os, x ∈ l) : wait = [] ∧ all.length = l.length := by
  have hv := h.len
  have h0 : ∀ i, 0 ≤ v.getD i 0 := fun i => by rw [h.r]; exact run_nonneg h.c i
  have hall : ∀ x ∈ l, hsT v x = true := by
    intro x hx
    cases e : hsT v x with
    | true => rfl
    | false =>
      obtain ⟨a, y, b, rfl, ha, hy⟩ := first_not (hsT v) l ⟨x, hx, e⟩
      rw [clb_append, Bool.and_eq_true] at hl
      obtain ⟨hl1, hl2⟩ := hl
      simp only [clb, Bool.and_eq_true] at hl2
      have hr := hl2.1
      have hb := run_below hl1 ha h0
      have hlq := lq_mono y.hv (by rw [run_length]; rfl) hv (rdy_lq hr) hb
      have hok := rdy_ok hr
      have hp := T.ok_p hok
      have hs := T.ok_s hok
      have e1 := rdy_s hr
      have e2 := hb y.p.toNat
      have e3 : v.getD y.p.toNat 0 < y.s := by
        rcases Int.lt_or_le (v.getD y.p.toNat 0) y.s with h' | h'
        · exact h'
        · rw [hsT_iff.2 ⟨hp, hs.1, h'⟩] at hy
          cases hy
      have hrd : rdy v y = true := rdy_mk hok (by omega) hlq
      rcases h.h y (h1 y (by simp)) with h' | h'
      · rw [h'] at hy; cases hy
      · rw [(h.n y h').2] at hrd; cases hrd
  have hw : wait = [] := by
    cases e : wait with
    | nil => rfl
    | cons x m =>
      have hx : x ∈ wait := by rw [e]; simp
      have := hall x (h2 x (h.w x hx))
      rw [(h.n x hx).1] at this
      cases this
  refine ⟨hw, ?_⟩
  have e : run zeros all = run zeros l := by
    refine list_ext13 (by rw [run_length]; rfl) (by rw [run_length]; rfl) fun i => Int.le_antisymm ?_ ?_
    · exact run_below h.c (fun y hy => has_run l zeros rfl hl y (h2 y (h.a y hy))) (run_nonneg hl) i
    · rw [← h.r]
      exact run_below hl hall h0 i
  have t1 := run_tot all zeros rfl h.c
  have t2 := run_tot l zeros rfl hl
  rw [e] at t1
  omega
/-- Places from one on, round. -/
theorem turn_ne {n f i j : Nat} (hi : i < n) (hj : j < i) : (j + f) % n ≠ (i + f) % n := by
  intro e
  have h := Nat.sub_mod_eq_zero_of_mod_eq e.symm
  rw [show i + f - (j + f) = i - j by omega, Nat.mod_eq_of_lt (by omega)] at h
  omega
theorem turn_at {n f k : Nat} (hk : k < n) : ∃ j, j < n ∧ (j + f) % n = k := by
  refine ⟨(k + (n - f % n)) % n, Nat.mod_lt _ (by omega), ?_⟩
  have hf := Nat.mod_lt f (show 0 < n by omega)
  rw [Nat.mod_add_mod, ← Nat.add_mod_mod, show k + (n - f % n) + f % n = k + n by omega, Nat.add_mod_right, Nat.mod_eq_of_lt hk]
end Go.Proofs.Ytfiamiflkfdhoaa
