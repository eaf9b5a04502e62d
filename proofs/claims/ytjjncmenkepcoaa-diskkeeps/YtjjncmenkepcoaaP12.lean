import Derived.Test.YtjjncmenkepcoaaP11
import Derived.Shelf.Spec.SlicesInsertGrow
import Derived.Maps.AppendAt
import Derived.Lib.Overlaps
import Derived.Lib.AppendZerosOnto
import Derived.Test.YtjjncmenkepcoaaP6
/- A disk at work: where it lies, what stays of the rest; the file that it is at. -/
namespace Go.Proofs.Ytjjncmenkepcoaa
open Go.RowKit

/-- Certain blocks stay. -/
structure Kf (off : Nat → Prop) (w w' : World) : Prop where
  os : w'.os = w.os
  tape : w'.tape = w.tape
  output : w'.output = w.output
  size : w.heap.size ≤ w'.heap.size
  blk : ∀ k, k < w.heap.size → off k → w'.heap[k]? = w.heap[k]?
section
variable {off off' : Nat → Prop} {w w' w'' : World}
theorem Kf.refl (off : Nat → Prop) (w : World) : Kf off w w := ⟨rfl, rfl, rfl, Nat.le_refl _, fun _ _ _ => rfl⟩
theorem Kf.trans (h : Kf off w w') (k : Kf off w' w'') : Kf off w w'' := ⟨k.os.trans h.os, k.tape.trans h.tape, k.output.trans h.output, Nat.le_trans h.size k.size, fun j h1 h2 => (k.blk j (Nat.lt_of_lt_of_le h1 h.size) h2).trans (h.blk j h1 h2)⟩
theorem Kf.of (h : Below w.heap.size w w') : Kf off w w' := ⟨h.os, h.tape, h.output, h.size, fun k h1 _ => h.block k h1⟩
theorem Kf.sub (h : Kf off w w') (hs : ∀ k, off' k → off k) : Kf off' w w' := ⟨h.os, h.tape, h.output, h.size, fun k h1 h2 => h.blk k h1 (hs k h2)⟩
theorem Kf.grown {row : Option Nat} (h : w.grownBy w' row) (hn : ∀ g, row = some g → ¬ off g) : Kf off w w' := ⟨h.os, h.tape, h.output, h.size, fun k h1 h2 => h.block k h1 fun e => hn k e.symm h2⟩
theorem Kf.below {B : Nat} (h : Kf off w w') (hB : ∀ k, k < B → off k) (hw : B ≤ w.heap.size) : Below B w w' := ⟨h.os, h.tape, h.output, h.size, fun k hk => h.blk k (Nat.lt_of_lt_of_le hk hw) (hB k hk)⟩
theorem Kf.rw {k : Nat} {t : TypeId} {cs : Array Value} (h : Kf off w w') (hr : Rw w k t cs) (ho : off k) : Rw w' k t cs := (h.blk k hr.lt ho).trans hr
end
/-- A disk at work, by value, with the slices of its files' bytes. -/
structure St where
  room : Int
  arm : Int
  dead : Bool
  x : ByteArray
  pl : Nat
  th : Bool
  ys : List (FV × Value)
abbrev wkc (p : Option Addr) (c : Nat) (s : St) : Array Value := #[.slice p s.ys.length c, .int .i64 s.room, .int .i64 s.arm, .bool s.dead, .string s.x, .int .i64 s.pl, .bool s.th]
theorem size66 : (Try.prog.info? 66).map (·.size) = some 7 := by kernel_rfl
/-- It lies in a box, its files in a row of its own; none of it in certain blocks. -/
structure Wk (w : World) (B b : Nat) (off : Nat → Prop) (s : St) (p : Option Addr) (c : Nat) : Prop where
  r : Rw w b 66 (wkc p c s)
  g : OwnG w B (.slice p s.ys.length c) s.ys
  bB : B ≤ b
  ob : ¬ off b
  og : ∀ k, (Value.slice p s.ys.length c).ownBlock = some k → ¬ off k
  od : ∀ y ∈ s.ys, ∀ k, y.2.ownBlock = some k → ¬ off k
  ol : ∀ k, off k → k < w.heap.size
section
variable {w w' : World} {B b : Nat} {off off' : Nat → Prop} {s : St} {p : Option Addr} {c : Nat}
theorem Wk.later (h : Wk w B b off s p c) (hb : Below w.heap.size w w') : Wk w' B b off s p c := ⟨h.r.later hb, h.g.later hb, h.bB, h.ob, h.og, h.od, fun k hk => Nat.lt_of_lt_of_le (h.ol k hk) hb.size⟩
theorem Wk.drew (h : Wk w B b off s p c) : Wk w.drew B b off s p c := h.later (Below.refl _ _).drew
theorem Wk.gl (h : Wk w B b off s p c) {k : Nat} (e : (Value.slice p s.ys.length c).ownBlock = some k) : B ≤ k ∧ k < w.heap.size := h.g.r.lt k e
theorem Wk.dl (h : Wk w B b off s p c) {y : FV × Value} (hy : y ∈ s.ys) {k : Nat} (e : y.2.ownBlock = some k) : B ≤ k ∧ k < w.heap.size := (h.g.o y hy).lt k e
theorem Wk.more (h : Wk w B b off s p c) (hb : Below w.heap.size w w') : Wk w' B b (fun k => off k ∨ (w.heap.size ≤ k ∧ k < w'.heap.size)) s p c := ⟨h.r.later hb, h.g.later hb, h.bB, fun e => e.elim h.ob fun e => by
    have := h.r.lt
    omega, fun k e e2 => e2.elim (h.og k e) fun e2 => by
    have := h.gl e
    omega, fun y hy k e e2 => e2.elim (h.od y hy k e) fun e2 => by
    have := h.dl hy e
    omega, fun k e => e.elim (fun e => Nat.lt_of_lt_of_le (h.ol k e) hb.size) fun e => e.2⟩
theorem Wk.sub (h : Wk w B b off s p c) (hs : ∀ k, off' k → off k) : Wk w B b off' s p c := ⟨h.r, h.g, h.bB, fun e => h.ob (hs _ e), fun k e e2 => h.og k e (hs k e2), fun y hy k e e2 => h.od y hy k e (hs k e2), fun k hk => h.ol k (hs k hk)⟩
/-- A write into one of those blocks leaves it. -/
theorem Wk.away (h : Wk w B b off s p c) {k : Nat} (hk : off k) (cs : Array Value) : Wk (w.setRow k cs) B b off s p c := by
  refine ⟨h.r.rowOther (fun e => h.ob (by rw [e]; exact hk)) cs, h.g.keep (fun q e => setRow_other w k q cs fun e2 => ?_) (fun y hy q e => setRow_other w k q cs fun e2 => ?_), h.bB, h.ob, h.og, h.od, fun j hj => by simpa using h.ol j hj⟩
  · subst e2
    exact h.og _ e hk
  · subst e2
    exact h.od y hy _ e hk
theorem Wk.bg (h : Wk w B b off s p c) {k : Nat} (e : (Value.slice p s.ys.length c).ownBlock = some k) : b ≠ k := by
  rintro rfl
  obtain ⟨_, cur, h2⟩ := own_heap h.g.r e
  have h1 := h.r
  unfold Rw at h1
  rw [h1] at h2
  simp at h2
theorem Wk.bd (h : Wk w B b off s p c) {y : FV × Value} (hy : y ∈ s.ys) {k : Nat} (e : y.2.ownBlock = some k) : b ≠ k := by
  rintro rfl
  obtain ⟨_, cur, h2⟩ := own_heap (h.g.o y hy) e
  have h1 := h.r
  unfold Rw at h1
  rw [h1] at h2
  simp at h2
/-- Another box content, with the same files. -/
theorem Wk.row (h : Wk w B b off s p c) (s' : St) (hy : s'.ys = s.ys) : Wk (w.setRow b (wkc p c s')) B b off s' p c := by
  obtain ⟨room, arm, dead, x, pl, th, ys⟩ := s'
  simp only at hy
  subst hy
  exact ⟨h.r.row _, h.g.keep (fun k e => setRow_other w b k _ fun e2 => h.bg e e2.symm) (fun y hy k e => setRow_other w b k _ fun e2 => h.bd hy e e2.symm), h.bB, h.ob, h.og, h.od, fun j hj => by simpa using h.ol j hj⟩
theorem Wk.kf (h : Wk w B b off s p c) (cs : Array Value) : Kf off w (w.setRow b cs) := Kf.grown (grown_row w b cs) fun g e => by
  cases e
  exact h.ob
theorem Wk.has (h : Wk w B b off s p c) : FHas w (.slice p s.ys.length c) (s.ys.map (·.1)) := h.g.has
end
/-- What the working file is. -/
def flM (M : Option (FV × Value)) : FV × Value := M.getD (⟨noS, [], 0⟩, .slice none 0 0)
/-- Where its files are parted. -/
structure Spl (s : St) (A : List (FV × Value)) (M : Option (FV × Value)) (C : List (FV × Value)) : Prop where
  ys : s.ys = A ++ (M.toList ++ C)
  pl : s.pl = A.length
  th : s.th = M.isSome
theorem Spl.at {s : St} {A C : List (FV × Value)} {y : FV × Value} (h : Spl s A (some y) C) : ∃ hk : s.pl < s.ys.length, s.ys[s.pl] = y := by
  have h1 := h.ys
  have h2 := h.pl
  refine ⟨by rw [h1, h2]; simp, ?_⟩
  simp only [h1, h2]
  simp
set_option maxHeartbeats 1000000 in
set_option maxRecDepth 100000 in
theorem file_any {w : World} {B b : Nat} {off : Nat → Prop} {s : St} {p : Option Addr} {c : Nat} (h : Wk w B b off s p c) {A C : List (FV × Value)} {M : Option (FV × Value)} (hs : Spl s A M C) : Calls Try.prog 50 #[.pointer (some ⟨b, 0, none⟩)] w (Tells (FLV (flM M).1.x (flM M).2 (flM M).1.k) w) := by
  have RF := rw_new w 57 #[.string noS, .slice none 0 0, .int .i64 0]
  have hbel := bel_alloc (Below.refl w.heap.size w) (.cells #[.string noS, .slice none 0 0, .int .i64 0] 57)
  generalize hW : w.alloc (.cells #[.string noS, .slice none 0 0, .int .i64 0] 57) = w0 at RF hbel
  have h0 := h.later hbel
  have k0 : w0.cell? ⟨b, 0, none⟩ = some (.slice p s.ys.length c) := h0.r.cell 0
  have k5 : w0.cell? ⟨b, 5, none⟩ = some (.int .i64 s.pl) := h0.r.cell 5
  have k6 : w0.cell? ⟨b, 6, none⟩ = some (.bool s.th) := h0.r.cell 6
  cases M with
  | none =>
    have ht : s.th = false := hs.th
    rw [ht] at k6
    have RF2 := RF.row #[.string noS, .slice none 0 0, .int .i64 0]
    have hb2 := below_setRow hbel (g := w.heap.size) (Nat.le_refl _) #[.string noS, .slice none 0 0, .int .i64 0]
    go_enter Try.func50, Try.ntmps50
    go_wp2_with (first | rw [hW] | refine store_r rfl 57 _ _ rfl _ _ rfl rfl RF sizeF rfl (by simp [Value.oneCell']) ?_)
    refine bodyPost_ret (results_r rfl rfl RF2 rfl Try.underlying57 sizeF) rfl ⟨rfl, hb2⟩
  | some y =>
    have ht : s.th = true := hs.th
    rw [ht] at k6
    obtain ⟨hk, hy⟩ := hs.at
    have hk' : (s.pl : Int) < (s.ys.length : Int) := by omega
    have hk0 : (0 : Int) ≤ (s.pl : Int) := by omega
    obtain ⟨⟨f, s1⟩, HX⟩ := hid_ex y
    have ho := own_sh (h0.g.o y (by rw [← hy]; exact List.getElem_mem _))
    rw [HX.out] at hy ho ⊢
    replace ho : DB w0 s1 f.d := ho
    obtain ⟨p1, c1, rfl⟩ := SHas.slice ho
    obtain ⟨g, hgp⟩ : ∃ g, p = some ⟨g, 0, none⟩ := by
      rcases h0.g.r.2 with ⟨e, h0⟩ | ⟨g, cap, cur, e, _⟩
      · omega
      · simp only [Value.slice.injEq] at e
        exact ⟨g, e.1⟩
    have d0 : w0.rangeAt g (s.pl * 3) [.string f.x, .slice p1 f.d.length c1, .int .i64 f.k] := fun j u hu => by
      have W0 := h0.g.r
      rw [hgp] at W0
      rw [W0.cellAt (s.pl * 3 + j) (by have := (List.getElem?_eq_some_iff.1 hu).1; simp at this; omega)]
      exact rows_at FV.len s.ys s.pl hk j u (by rw [hy]; exact hu)
    subst hgp
    have zf : (Try.prog.info? 57).map (·.size) = some [Value.string f.x, .slice p1 f.d.length c1, .int .i64 f.k].length := sizeF
    have RF2 := RF.drew.row #[.string f.x, .slice p1 f.d.length c1, .int .i64 f.k]
    have hb2 := below_setRow hbel.drew (g := w.heap.size) (Nat.le_refl _) #[.string f.x, .slice p1 f.d.length c1, .int .i64 f.k]
    have hgl := (h.gl (k := g) rfl).2
    have hbl := h.r.lt
    show Calls Try.prog 50 _ w (Tells (FLV f.x (.slice p1 f.d.length c1) f.k) w)
    clear h0 ho HX hy ht h hs
    go_enter Try.func50, Try.ntmps50
    go_upto_region 3 with (first | rw [hW])
    clear hW k6
    have hS : w0.drew.cell? ⟨b, 0, none⟩ = some (.slice (some ⟨g, 0, none⟩) s.ys.length c) ∧ w0.drew.cell? ⟨b, 5, none⟩ = some (.int .i64 s.pl) ∧ w0.drew.rangeAt g (s.pl * 3) [.string f.x, .slice p1 f.d.length c1, .int .i64 f.k] := ⟨k0, k5, d0⟩
    refine HeldI.region (fun w' : World => w'.cell? ⟨b, 0, none⟩ = some (.slice (some ⟨g, 0, none⟩) s.ys.length c) ∧ w'.cell? ⟨b, 5, none⟩ = some (.int .i64 s.pl) ∧ w'.rangeAt g (s.pl * 3) [.string f.x, .slice p1 f.d.length c1, .int .i64 f.k]) (by kernel_rfl) ?_
    replace RF := RF.drew
    generalize w0.drew = wd at hS RF RF2 hb2 ⊢
    refine HeldI.pu 0 hS ?_
    refine HeldI.pu 1 hS ?_
    refine HeldI.pu 2 hS ?_
    refine HeldI.pu 3 hS ?_
    refine HeldI.ce 4 (fun _ h => h.1) hS ?_
    refine HeldI.pu 5 hS ?_
    refine HeldI.pu 6 hS ?_
    refine HeldI.pu 7 hS ?_
    refine HeldI.ce 8 (fun _ h => h.2.1) hS ?_
    refine HeldI.pu 9 hS ?_
    refine HeldI.lm 10 zf (fun _ h => h.2.2) Try.underlying57 hS ?_
    refine HeldI.ss 11 (RF.store #[.string f.x, .slice p1 f.d.length c1, .int .i64 f.k] sizeF rfl (by simp [Value.oneCell'])) ⟨?_, ?_, range_row (by omega) hS.2.2⟩ ?_
    · rw [World.cell?_of_block (w := wd) (setRow_other wd _ _ _ (show b ≠ w.heap.size by omega))]
      exact hS.1
    · rw [World.cell?_of_block (w := wd) (setRow_other wd _ _ _ (show b ≠ w.heap.size by omega))]
      exact hS.2.1
    refine HeldI.dn ?_
    go_wp2_with fail
    refine bodyPost_ret (results_r rfl rfl RF2 rfl Try.underlying57 sizeF) rfl ⟨rfl, hb2⟩
end Go.Proofs.Ytjjncmenkepcoaa
/- slices.Insert of one file into a row of one's own. -/
namespace Go.Proofs.Ytjjncmenkepcoaa
open Go.RowKit

/-- A file of nothing. -/
abbrev ZF : Value := .agg #[.string ByteArray.empty, .slice none 0 0, .int .i64 0]

/-- copy of elements of S cells, into a row. -/
theorem run_copy_rowS {P : Program} (w : World) (dT sT ty elem : TypeId) (g o dLen dCap : Nat) (a : Addr) (sLen sCap : Nat) (cur : Array Value) (t : TypeId) (cs : List Value) (S k : Nat)
    (hu : P.underlying dT = some (.slice elem)) (hs : (P.info? elem).map (·.size) = some S)
    (hg : w.heap[g]? = some (.cells cur t (0, 0))) (hk : Nat.min sLen dLen = k) (hn : cs.length = k * S)
    (hsrc : ∀ j v, cs[j]? = some v → w.cell? (a.add j) = some v) (hfit : o + cs.length ≤ cur.size) (h1 : ∀ v ∈ cs, v.oneCell' = true) :
    (Builtin.copy_ #[dT, sT] ty #[.slice (some ⟨g, o, none⟩) dLen dCap, .slice (some a) sLen sCap]).run P w =
      .ok (goInt k) (w.setRow g (cur.toList.take o ++ cs ++ cur.toList.drop (o + cs.length)).toArray) := by
  have hl := run_loadCells_list (P := P) w a cs hsrc
  have hst := run_storeCells_at P g o t cs 0 cur w hg (by simpa using hfit) h1
  cases hq : P.info? elem with
  | none => simp [hq] at hs
  | some i =>
    have hi : i.size = S := by simpa [hq] using hs
    simp [Builtin.copy_, run_underlying hu, Builtin.lenOf, Builtin.firstCells, sizeOf, typeInfo, hq, hi, hk, ← hn, hl, hst]
/-- All that was there stays, but for one block. -/
def Kp (o : Option Nat) (w w' : World) : Prop := ∀ b, b < w.heap.size → o ≠ some b → w'.heap[b]? = w.heap[b]?
theorem Kp.on {o : Option Nat} {w w1 w2 : World} (h : Kp o w w1) (hs : w.heap.size ≤ w1.heap.size) (hb : Below w1.heap.size w1 w2) : Kp o w w2 := fun b h1 h2 => (hb.block b (by omega)).trans (h b h1 h2)
theorem Kp.row {g : Nat} {w w1 : World} (h : Kp (some g) w w1) (cs : Array Value) : Kp (some g) w (w1.setRow g cs) := fun b h1 h2 => (setRow_other w1 g b cs (fun e => h2 (by rw [e]))).trans (h b h1 h2)
theorem Rw.whole {w : World} {b : Nat} {t : TypeId} {cs : List Value} (h : Rw w b t cs.toArray) : w.rangeAt b 0 cs := h.range 0 cs fun j v hv => by simpa using hv
theorem own_some {w : World} {B e S n c : Nat} {p : Option Addr} {xs : List Value} (h : w.ownsRow B e S (.slice p n c) n xs) (hn : 0 < n) : ∃ g, p = some ⟨g, 0, none⟩ ∧ B ≤ g := by
  obtain ⟨_, ⟨_, h0⟩ | ⟨g, cap, cur, h1, hb, _⟩⟩ := h
  · omega
  · simp only [Value.slice.injEq] at h1
    exact ⟨g, h1.1, hb⟩
/-- What Insert answers: a row of its own. -/
def InPostF (B : Nat) (v : Value) (n : Nat) (xs : List Value) (w : World) (e : Ending) (w' : World) : Prop := ∃ u, e = .returned u ∧ w'.ownsRow B 57 3 u n xs ∧ Kp v.ownBlock w w' ∧ (∀ k, u.ownBlock = some k → v.ownBlock = some k ∨ w.heap.size ≤ k) ∧ Below B w w'

set_option maxHeartbeats 2000000 in
set_option maxRecDepth 100000 in
theorem insertF_end (B : Nat) (p : Option Addr) (n c : Nat) (xs : List Value) (vb : Nat) (x : FV × Value) (w : World) (hown : w.ownsRow B 57 3 (.slice p n c) n xs) (hn : n ≤ 100) (hB : B ≤ w.heap.size) (hx1 : ∀ u ∈ FV.cells x, u.oneCell' = true) (R : Rw w vb 57 (FV.cells x).toArray) :
    Calls Try.prog 61 #[.slice p n c, .int .i64 n, .slice (some ⟨vb, 0, none⟩) 1 1] w (InPostF B (.slice p n c) (n + 1) (xs ++ (FV.cells x)) w) := by
  obtain ⟨i0, hi, hz0, hz1, hz2⟩ := info_split infoF
  have hc1 : ∀ j u, (FV.cells x)[j]? = some u → w.cell? ((⟨vb, 0, none⟩ : Addr).add j) = some u := fun j u hu => by
    rw [Addr.add_mid]
    exact Rw.whole R j u hu
  have HC : Hid (∀ j u, (FV.cells x)[j]? = some u → w.cell? ((⟨vb, 0, none⟩ : Addr).add j) = some u) := hc1
  have hnc : (n : Int) ≤ (c : Int) := by
    rcases hown.2 with ⟨h, h0⟩ | ⟨g, cap, cur, h, _, _, h2, _⟩
    · simp only [Value.slice.injEq] at h
      omega
    · simp only [Value.slice.injEq] at h
      omega
  clear hc1 R
  have hm1 : n + 1 ≤ maxLen := by unfold maxLen; omega
  have hm2 : (n + 1) * 48 ≤ 140737488355328 := by omega
  have HL : Hid (∀ q, (Value.slice p n c).ownBlock = some q → B ≤ q) := fun q hq => (hown.lt q hq).1
  by_cases hcn : c = n
  all_goals
    go_enter Try.func61, Try.ntmps61
    go_wp2_with (first | (at_builtin; refine wpList_append_own_at _ rfl _ _ 24 rfl B 57 i0 ZF 3 48 Try.underlying24 hi hz0 hz1 hz2 rfl (by decide) _ _ _ rfl hown ⟨vb, 0, none⟩ 1 1 (FV.cells x) rfl (by rw [FV.len]) HC.out hx1 hm1 hm2 hB ?_))
    intro v2 w2 hown2 hg2 _ hat
    have HAT : Hid (∀ k, v2.ownBlock = some k → (Value.slice p n c).ownBlock = some k ∨ w.heap.size ≤ k) := fun k hk => hat.elim (fun e => .inl (by rw [← hk, e]; first | done | (cases p <;> rfl))) (fun e => .inr (Nat.le_of_eq (Option.some.inj (e.symm.trans hk))))
    clear hat
    go_wp2_with fail
    go_ret
    exact ⟨_, rfl, hown2, (fun b h1 h2 => hg2.block b h1 (fun e => h2 (by rw [e]; first | done | (cases p <;> rfl)))), HAT.out, (Below.refl _ _).grown hg2 hB (fun q hq => HL.out q (by cases p <;> exact hq))⟩
set_option maxRecDepth 100000 in
theorem overlaps_no (w : World) (vb g o lb cb k : Nat) (hne : vb ≠ g) {tA tB : TypeId} {c1 c2 : Array Value} (R : Rw w vb tA c1) (R2 : Rw w g tB c2) (hk : c2.size = k + 1) : (callFunc 66 #[.slice (some ⟨vb, 0, none⟩) 1 1, .slice (some ⟨g, o, none⟩) lb cb]).run Try.prog w = .ok (.value (.bool false)) w := by
  rw [run_callFunc_extern Try.func66 (by kernel_rfl) (by kernel_rfl) (by kernel_rfl) (e := Extern.SlicesOverlaps.overlaps #[24, 24] #[4]) (by kernel_rfl),
    Lib.run_overlaps_apart w 24 4 57 Try.underlying24 3 (fun w => by rfl) ⟨vb, 0, none⟩ ⟨g, o, none⟩ 1 1 lb cb hne tA tB c1.size c2.size (by unfold World.shape?; rw [show w.heap[vb]? = _ from R]) (by unfold World.shape?; rw [show w.heap[g]? = _ from R2]) (by omega) (R.frozen _) (R.frozen _)]
  rfl
/-- Put in at a place. -/
def putF (xs ys : List Value) (i : Nat) : List Value := xs.take (i * 3) ++ ys ++ xs.drop (i * 3)
theorem putF_length (xs ys : List Value) (i : Nat) : (putF xs ys i).length = xs.length + ys.length := by
  simp [putF]
  omega
theorem shift_listF (cur xs ys : List Value) (n i : Nat) (hi : i < n) (hl : xs.length = n * 3) (hy : ys.length = 3) (hc : (n + 1) * 3 ≤ cur.length) (ht : cur.take (n * 3) = xs) (c1 : List Value) (h1 : c1 = cur.take ((i + 1) * 3) ++ xs.drop (i * 3) ++ cur.drop ((i + 1) * 3 + (xs.drop (i * 3)).length)) :
    (c1.take (i * 3) ++ ys ++ c1.drop (i * 3 + ys.length)).take ((n + 1) * 3) = xs.take (i * 3) ++ ys ++ xs.drop (i * 3) := by
  have hk : (cur.take ((i + 1) * 3)).length = (i + 1) * 3 := by rw [List.length_take]; omega
  have e1 : c1.take (i * 3) = xs.take (i * 3) := by
    rw [h1, List.append_assoc, List.take_append_of_le_length (by omega), List.take_take, Nat.min_eq_left (by omega), ← ht, List.take_take, Nat.min_eq_left (by omega)]
  have e2 : c1.drop (i * 3 + ys.length) = xs.drop (i * 3) ++ cur.drop ((i + 1) * 3 + (xs.drop (i * 3)).length) := by
    rw [h1, List.append_assoc, List.drop_left' (by rw [hk, hy]; omega)]
  rw [e1, e2, ← List.append_assoc, List.take_left']
  simp only [List.length_append, List.length_take, List.length_drop, hy, hl]
  omega
set_option maxHeartbeats 2000000 in
set_option maxRecDepth 100000 in
theorem insertF_shift (B g n c i : Nat) (xs : List Value) (vb : Nat) (x : FV × Value) (w : World) (hown : w.ownsRow B 57 3 (.slice (some ⟨g, 0, none⟩) n c) n xs) (hi : i < n) (hc : n + 1 ≤ c) (hn : n ≤ 100) (hvb : vb ≠ g) (h1 : ∀ u ∈ xs, u.oneCell' = true) (hx1 : ∀ u ∈ FV.cells x, u.oneCell' = true) (R : Rw w vb 57 (FV.cells x).toArray) :
    Calls Try.prog 61 #[.slice (some ⟨g, 0, none⟩) n c, .int .i64 i, .slice (some ⟨vb, 0, none⟩) 1 1] w (InPostF B (.slice (some ⟨g, 0, none⟩) n c) (n + 1) (putF xs (FV.cells x) i) w) := by
  obtain ⟨hxl, ⟨h0, _⟩ | ⟨g', cap, cur, h0, hBg, hg, hnc, hcm, hcs, htake⟩⟩ := hown
  · simp at h0
  simp only [Value.slice.injEq, Option.some.injEq, Addr.mk.injEq, and_true, true_and] at h0
  obtain ⟨rfl, rfl⟩ := h0
  have hov : ∀ lb cb, (callFunc 66 #[.slice (some ⟨vb, 0, none⟩) 1 1, .slice (some ⟨g, (i + 1) * 3, none⟩) lb cb]).run Try.prog w = .ok (.value (.bool false)) w := fun lb cb => overlaps_no w vb g _ lb cb (cur.size - 1) hvb R hg (by omega)
  have hsrc : ∀ j v, (xs.drop (i * 3))[j]? = some v → w.drew.cell? ((⟨g, i * 3, none⟩ : Addr).add j) = some v := fun j v hv => by
    rw [Addr.add_mid]
    show w.cell? _ = _
    rw [cell_of_row w g _ cur 57 (0, 0) hg]
    rw [List.getElem?_drop] at hv
    have hlt := (List.getElem?_eq_some_iff.1 hv).1
    rw [← htake, List.getElem?_take, if_pos (by omega)] at hv
    simpa using hv
  have hcp1 : ∀ ty dc sc, (Builtin.copy_ #[24, 24] ty #[.slice (some ⟨g, (i + 1) * 3, none⟩) (n - i) dc, .slice (some ⟨g, i * 3, none⟩) (n + 1 - i) sc]).run Try.prog w.drew = .ok (goInt ((n - i : Nat) : Int)) (w.drew.setRow g (cur.toList.take ((i + 1) * 3) ++ xs.drop (i * 3) ++ cur.toList.drop ((i + 1) * 3 + (xs.drop (i * 3)).length)).toArray) := fun ty dc sc =>
    run_copy_rowS w.drew 24 24 ty 57 g ((i + 1) * 3) (n - i) dc ⟨g, i * 3, none⟩ (n + 1 - i) sc cur 57 (xs.drop (i * 3)) 3 (n - i) Try.underlying24 sizeF hg (by simp only [Nat.min_def]; split <;> omega) (by rw [List.length_drop]; omega) hsrc (by rw [List.length_drop]; omega) (fun v hv => h1 v (List.mem_of_mem_drop hv))
  obtain ⟨cur1, HC1⟩ := hid_ex (cur.toList.take ((i + 1) * 3) ++ xs.drop (i * 3) ++ cur.toList.drop ((i + 1) * 3 + (xs.drop (i * 3)).length)).toArray
  have hl1 : cur1.size = cur.size := by
    rw [← HC1.out]
    simp
    omega
  rw [HC1.out] at hcp1
  have hg1 : (w.drew.setRow g cur1).heap[g]? = some (.cells cur1 57 (0, 0)) := setRow_heap w.drew g cur cur1 57 (0, 0) hg
  have hsrc2 : ∀ j v, (FV.cells x)[j]? = some v → (w.drew.setRow g cur1).cell? ((⟨vb, 0, none⟩ : Addr).add j) = some v := fun j v hv => by
    rw [Addr.add_mid, World.cell?_of_block (w := w) (setRow_other w.drew g vb cur1 hvb)]
    exact Rw.whole R j v hv
  have hcp2 : ∀ (W : World), W.heap = (w.drew.setRow g cur1).heap → ∀ ty dc, (Builtin.copy_ #[24, 24] ty #[.slice (some ⟨g, i * 3, none⟩) (n + 1 - i) dc, .slice (some ⟨vb, 0, none⟩) 1 1]).run Try.prog W = .ok (goInt 1) (W.setRow g (cur1.toList.take (i * 3) ++ (FV.cells x) ++ cur1.toList.drop (i * 3 + (FV.cells x).length)).toArray) := fun W hW ty dc =>
    run_copy_rowS W 24 24 ty 57 g (i * 3) (n + 1 - i) dc ⟨vb, 0, none⟩ 1 1 cur1 57 (FV.cells x) 3 1 Try.underlying24 sizeF (by rw [hW]; exact hg1) (by simp only [Nat.min_def]; split <;> omega) (by rw [FV.len]) (fun j v hv => by rw [World.cell?_of_block (w := w.drew.setRow g cur1) (by rw [hW])]; exact hsrc2 j v hv) (by rw [FV.len]; omega) hx1
  have hw1 : IntKind.i64.wrap ((i : Int) + 1) = (i : Int) + 1 := by rw [IntKind.wrap_i64]; omega
  have hz2 : ¬ ((i : Int) = (n : Int)) := by omega
  have hb1 : (0 : Int) ≤ (i : Int) + 1 := by omega
  have htn : ((i : Int) + 1).toNat = i + 1 := by omega
  have hb2 : ¬ (c = i + 1) := by omega
  have hb3 : (i : Int) ≤ (n : Int) + 1 := by omega
  have hb4 : ¬ (c = i) := by omega
  have hin : i ≤ n := by omega
  have mixed : Try.prog.follows .mixedOrders = true := by kernel_rfl
  go_enter Try.func61, Try.ntmps61
  go_wp2_with (simp only [hov])
  go_region_law_o (refine step_copy_runI rfl _ _ 24 24 rfl _ _ (by simp [Act.eval, Act.put]) (by simp [Act.eval, Act.put]) (hcp1 _ _ _) ?_)
  go_wp2_with (at_builtin; refine wpList_copy_runI _ rfl _ _ 24 24 rfl _ _ rfl rfl (hcp2 _ rfl _ _) ?_)
  go_ret
  refine ⟨_, rfl, ⟨?_, .inr ⟨g, c, _, rfl, hBg, setRow_heap _ g cur1 _ 57 (0, 0) hg1, hc, hcm, ?_, ?_⟩⟩, Kp.row (Kp.row (fun _ _ _ => rfl) _) _, (fun k hk => .inl hk), below_setRow (below_setRow (Below.refl B w).drew hBg _) hBg _⟩
  · rw [putF_length, hxl, FV.len]
    omega
  · simp only [List.size_toArray, List.length_append, List.length_take, List.length_cons, List.length_drop, Array.length_toList]
    have hTl := FV.len x
    omega
  · have := shift_listF cur.toList xs (FV.cells x) n i hi hxl (FV.len x) (by rw [Array.length_toList]; omega) htake cur1.toList (by rw [← HC1.out])
    rw [List.append_assoc] at this
    exact this
theorem grow_listF (xs ys z1 z2 : List Value) (n i : Nat) (hi : i < n) (hl : xs.length = n * 3) (hy : ys.length = 3) (hz : z1.length = (n + 1 - i) * 3) (r1 r2 : List Value) (h1 : r1 = (xs.take (i * 3) ++ z1 ++ z2).take (i * 3) ++ ys ++ (xs.take (i * 3) ++ z1 ++ z2).drop (i * 3 + ys.length))
    (h2 : r2 = r1.take ((i + 1) * 3) ++ xs.drop (i * 3) ++ r1.drop ((i + 1) * 3 + (xs.drop (i * 3)).length)) : r2.take ((n + 1) * 3) = xs.take (i * 3) ++ ys ++ xs.drop (i * 3) ∧ r2.length = xs.length + 3 + z2.length := by
  have hk : (xs.take (i * 3)).length = i * 3 := by rw [List.length_take]; omega
  have e1 : (xs.take (i * 3) ++ z1 ++ z2).take (i * 3) = xs.take (i * 3) := by
    rw [List.append_assoc, List.take_left' hk]
  have e2 : r1.take ((i + 1) * 3) = xs.take (i * 3) ++ ys := by
    rw [h1, e1, List.take_left' (by rw [List.length_append, hk, hy]; omega)]
  refine ⟨?_, ?_⟩
  · rw [h2, e2, List.take_left']
    simp only [List.length_append, List.length_take, List.length_drop, hy, hl]
    omega
  · rw [h2, e2, h1, e1]
    simp only [List.length_append, List.length_take, List.length_drop, hy, hl, hz]
    omega
set_option maxHeartbeats 2000000 in
set_option maxRecDepth 100000 in
theorem insertF_grow (B g n c i : Nat) (xs : List Value) (vb : Nat) (x : FV × Value) (w : World) (hown : w.ownsRow B 57 3 (.slice (some ⟨g, 0, none⟩) n c) n xs) (hi : i < n) (hc : c < n + 1) (hn : n ≤ 100) (h1 : ∀ u ∈ xs, u.oneCell' = true) (hB : B ≤ w.heap.size) (hx1 : ∀ u ∈ FV.cells x, u.oneCell' = true) (R : Rw w vb 57 (FV.cells x).toArray) :
    Calls Try.prog 61 #[.slice (some ⟨g, 0, none⟩) n c, .int .i64 i, .slice (some ⟨vb, 0, none⟩) 1 1] w (InPostF B (.slice (some ⟨g, 0, none⟩) n c) (n + 1) (putF xs (FV.cells x) i) w) := by
  obtain ⟨i0, hi0, hz0, hz1, hz2⟩ := info_split infoF
  obtain ⟨hxl, ⟨h0, _⟩ | ⟨g', cap, cur, h0, hBg, hg, hnc, hcm, hcs, htake⟩⟩ := hown
  · simp at h0
  simp only [Value.slice.injEq, Option.some.injEq, Addr.mk.injEq, and_true, true_and] at h0
  obtain ⟨rfl, rfl⟩ := h0
  have hcell : ∀ j v, xs[j]? = some v → w.cell? ⟨g, j, none⟩ = some v := fun j v hv => by
    rw [cell_of_row w g _ cur 57 (0, 0) hg]
    have hlt := (List.getElem?_eq_some_iff.1 hv).1
    rw [← htake, List.getElem?_take, if_pos (by omega)] at hv
    simpa using hv
  have hold : (Builtin.firstCells i0.size i (.slice (some ⟨g, 0, none⟩) i c)).run Try.prog w.drew = .ok (xs.take (i * 3)).toArray w.drew := by
    rw [hz1]
    exact run_firstCells_some w.drew 3 i ⟨g, 0, none⟩ i c (xs.take (i * 3)) (by rw [List.length_take]; omega) (fun j v hj => by
      rw [Addr.add_mid, Nat.zero_add]
      rw [List.getElem?_take] at hj
      split at hj
      · exact hcell j v hj
      · cases hj)
  have hrz : ∀ ty, (Builtin.append_ #[24, 3] ty #[.slice (some ⟨g, 0, none⟩) i c, .int .i64 ((n : Int) + 1 - (i : Int))]).run Try.prog w =
      .ok (.slice (some ⟨w.heap.size, 0, none⟩) (n + 1) (grownCap w (n + 1) c 57)) (w.drew.alloc (.cells ((xs.take (i * 3)).toArray ++ Builtin.zeroCells ZF.cells (n + 1 - i) ++ Builtin.zeroCells ZF.cells (grownCap w (n + 1) c 57 - (n + 1))) 57)) := fun ty => by
    have h := Lib.run_append_grow_zeros w 24 3 ty 57 i0 _ .i64 .i64 Try.underlying24 Try.underlying3 hi0 hz0 (some ⟨g, 0, none⟩) i c (xs.take (i * 3)) hold (n + 1 - i) (by omega) (by omega) (by omega) (by omega) (by rw [hz2]; omega) (by rw [hz2, show i + (n + 1 - i) = n + 1 by omega]; exact growslice_fits hc (by omega))
    rw [show i + (n + 1 - i) = n + 1 by omega] at h
    rw [show (n : Int) + 1 - (i : Int) = ((n + 1 - i : Nat) : Int) by omega]
    exact h
  obtain ⟨G, HG⟩ := hid_ex (grownCap w (n + 1) c 57)
  have hGn : n + 1 ≤ G := by rw [← HG.out]; exact grownCap_ge w _ _ _
  have hGm : G ≤ maxLen := by rw [← HG.out]; exact grownCap_le_maxLen w (n + 1) c 57 (by unfold maxLen; omega)
  have hG63 : G ≤ 9223372036854775807 := by unfold maxLen at hGm; omega
  rw [HG.out] at hrz
  obtain ⟨z1, hz1'⟩ : ∃ z1 : List Value, z1 = (Builtin.zeroCells ZF.cells (n + 1 - i)).toList := ⟨_, rfl⟩
  obtain ⟨z2, hz2'⟩ : ∃ z2 : List Value, z2 = (Builtin.zeroCells ZF.cells (G - (n + 1))).toList := ⟨_, rfl⟩
  have hzl1 : z1.length = (n + 1 - i) * 3 := by rw [hz1']; simp [Builtin.zeroCells, Value.cells]
  have hzl2 : z2.length = (G - (n + 1)) * 3 := by rw [hz2']; simp [Builtin.zeroCells, Value.cells]
  obtain ⟨row, hrow⟩ : ∃ row : Array Value, row = (xs.take (i * 3)).toArray ++ Builtin.zeroCells ZF.cells (n + 1 - i) ++ Builtin.zeroCells ZF.cells (G - (n + 1)) := ⟨_, rfl⟩
  rw [← hrow] at hrz
  have hrl : row.toList = xs.take (i * 3) ++ z1 ++ z2 := by rw [hrow, hz1', hz2']; simp
  have hrs : row.size = G * 3 := by
    rw [← Array.length_toList, hrl]
    simp only [List.length_append, List.length_take, hzl1, hzl2]
    omega
  clear hrow hz1' hz2'
  have hgw : g < w.heap.size := (Array.getElem?_eq_some_iff.1 hg).1
  have hvw : vb < w.heap.size := R.lt
  have hsrcA : ∀ j v, (FV.cells x)[j]? = some v → (w.drew.alloc (.cells row 57)).cell? ((⟨vb, 0, none⟩ : Addr).add j) = some v := fun j v hv => by
    rw [Addr.add_mid, World.cell?_of_block (w := w) (Below.heap_alloc w.drew _ vb hvw)]
    exact Rw.whole R j v hv
  have hgN : (w.drew.alloc (.cells row 57)).heap[w.heap.size]? = some (.cells row 57 (0, 0)) := heap_alloc_last w.drew _
  have hcpA : ∀ (W : World), W.heap = (w.drew.alloc (.cells row 57)).heap → ∀ ty dc, (Builtin.copy_ #[24, 24] ty #[.slice (some ⟨w.heap.size, i * 3, none⟩) (n + 1 - i) dc, .slice (some ⟨vb, 0, none⟩) 1 1]).run Try.prog W = .ok (goInt 1) (W.setRow w.heap.size (row.toList.take (i * 3) ++ (FV.cells x) ++ row.toList.drop (i * 3 + (FV.cells x).length)).toArray) := fun W hW ty dc =>
    run_copy_rowS W 24 24 ty 57 w.heap.size (i * 3) (n + 1 - i) dc ⟨vb, 0, none⟩ 1 1 row 57 (FV.cells x) 3 1 Try.underlying24 sizeF (by rw [hW]; exact hgN) (by simp only [Nat.min_def]; split <;> omega) (by rw [FV.len]) (fun j v hv => by rw [World.cell?_of_block (w := w.drew.alloc (.cells row 57)) (by rw [hW])]; exact hsrcA j v hv) (by rw [FV.len]; omega) hx1
  obtain ⟨r1, HR1⟩ := hid_ex (row.toList.take (i * 3) ++ (FV.cells x) ++ row.toList.drop (i * 3 + (FV.cells x).length)).toArray
  rw [HR1.out] at hcpA
  have hr1s : r1.size = G * 3 := by
    rw [← HR1.out]
    simp only [List.size_toArray, List.length_append, List.length_take, List.length_drop, Array.length_toList, FV.len, hrs]
    omega
  have hg1 : ((w.drew.alloc (.cells row 57)).setRow w.heap.size r1).heap[w.heap.size]? = some (.cells r1 57 (0, 0)) := setRow_heap _ _ row r1 57 (0, 0) hgN
  have hsrcB : ∀ j v, (xs.drop (i * 3))[j]? = some v → ((w.drew.alloc (.cells row 57)).setRow w.heap.size r1).cell? ((⟨g, i * 3, none⟩ : Addr).add j) = some v := fun j v hv => by
    rw [Addr.add_mid, World.cell?_of_block (w := w) ((setRow_other _ w.heap.size g r1 (by omega)).trans (Below.heap_alloc w.drew _ g hgw))]
    rw [List.getElem?_drop] at hv
    exact hcell _ v hv
  have hcpB : ∀ (W : World), W.heap = ((w.drew.alloc (.cells row 57)).setRow w.heap.size r1).heap → ∀ ty dc sc, (Builtin.copy_ #[24, 24] ty #[.slice (some ⟨w.heap.size, (i + 1) * 3, none⟩) (n - i) dc, .slice (some ⟨g, i * 3, none⟩) (n - i) sc]).run Try.prog W = .ok (goInt ((n - i : Nat) : Int)) (W.setRow w.heap.size (r1.toList.take ((i + 1) * 3) ++ xs.drop (i * 3) ++ r1.toList.drop ((i + 1) * 3 + (xs.drop (i * 3)).length)).toArray) := fun W hW ty dc sc =>
    run_copy_rowS W 24 24 ty 57 w.heap.size ((i + 1) * 3) (n - i) dc ⟨g, i * 3, none⟩ (n - i) sc r1 57 (xs.drop (i * 3)) 3 (n - i) Try.underlying24 sizeF (by rw [hW]; exact hg1) (Nat.min_self _) (by rw [List.length_drop]; omega) (fun j v hv => by rw [World.cell?_of_block (w := (w.drew.alloc (.cells row 57)).setRow w.heap.size r1) (by rw [hW])]; exact hsrcB j v hv) (by rw [List.length_drop]; omega) (fun v hv => h1 v (List.mem_of_mem_drop hv))
  obtain ⟨r2, HR2⟩ := hid_ex (r1.toList.take ((i + 1) * 3) ++ xs.drop (i * 3) ++ r1.toList.drop ((i + 1) * 3 + (xs.drop (i * 3)).length)).toArray
  rw [HR2.out] at hcpB
  have hfin := grow_listF xs (FV.cells x) z1 z2 n i hi hxl (FV.len x) hzl1 r1.toList r2.toList (by rw [← HR1.out, hrl]) (by rw [← HR2.out])
  have HFI : Hid (r2.toList.take ((n + 1) * 3) = putF xs (FV.cells x) i ∧ r2.size = G * 3) := ⟨hfin.1, by rw [← Array.length_toList, hfin.2]; omega⟩
  have hg2 : (((w.drew.alloc (.cells row 57)).setRow w.heap.size r1).setRow w.heap.size r2).heap[w.heap.size]? = some (.cells r2 57 (0, 0)) := setRow_heap _ _ r1 r2 57 (0, 0) hg1
  have hw1 : IntKind.i64.wrap ((i : Int) + 1) = (i : Int) + 1 := by rw [IntKind.wrap_i64]; omega
  have hz2i : ¬ ((i : Int) = (n : Int)) := by omega
  have hz3 : (c : Int) < (n : Int) + 1 := by omega
  have hb1 : (0 : Int) ≤ (i : Int) + 1 := by omega
  have htn : ((i : Int) + 1).toNat = i + 1 := by omega
  have hb3 : (i : Int) ≤ (n : Int) := by omega
  have hci : ¬ (c = i) := by omega
  have hGi : ¬ (G = i) := by omega
  have hGim : ¬ (G = i + 1) := by omega
  have hin : i ≤ n := by omega
  have mixed : Try.prog.follows .mixedOrders = true := by kernel_rfl
  clear hfin hold hrl hzl1 hzl2 hcell hsrcA hsrcB HR1 HR2
  have hA := hcpA (w.alloc (.cells row 57)).drew rfl 3 (G - i)
  go_enter Try.func61, Try.ntmps61
  go_wp2_with (first
    | (at_builtin; refine Lib.wpList_append_run _ rfl _ _ _ _ rfl _ _ rfl rfl _ _ (hrz _) ?_))
  go_region_law_o (refine step_copy_runI rfl _ _ 24 24 rfl (.slice (some ⟨w.heap.size, (i + 1) * 3, none⟩) (n - i) (G - (i + 1))) (.slice (some ⟨g, i * 3, none⟩) (n - i) (c - i)) (by simp [Act.eval, Act.put]) (by simp [Act.eval, Act.put]) (hcpB (((w.alloc (.cells row 57)).drew.setRow w.heap.size r1).drew) rfl 3 (G - (i + 1)) (c - i)) ?_)
  go_wp2
  go_ret
  refine ⟨_, rfl, ⟨?_, .inr ⟨w.heap.size, G, r2, rfl, hB, hg2, hGn, hGm, HFI.out.2, HFI.out.1⟩⟩, ?_, (fun k hk => .inr (Nat.le_of_eq (Option.some.inj hk))), ?_⟩
  · rw [putF_length, hxl, FV.len]
    omega
  · intro b h1 h2
    refine (setRow_other _ w.heap.size b _ (by omega)).trans ?_
    refine (setRow_other _ w.heap.size b _ (by omega)).trans ?_
    exact Below.heap_alloc w _ b h1
  · exact below_setRow (below_setRow ((Below.refl B w).alloc hB _).drew hB _).drew hB _
/-- Put in at a place. -/
theorem putF_rows (l : List (FV × Value)) (x : FV × Value) (i : Nat) : putF (rows FV.cells l) (FV.cells x) i = rows FV.cells (l.take i ++ x :: l.drop i) := by
  unfold putF
  rw [rows_append, rows_cons, rows_take FV.len, rows_drop FV.len, List.append_assoc]
theorem insertF_any (B : Nat)  (v : Value) (l : List (FV × Value)) (i : Nat) (vb : Nat) (x : FV × Value) (w : World) (hown : w.ownsRow B 57 3 v l.length (rows FV.cells l)) (hi : i ≤ l.length) (hn : l.length ≤ 100) (hB : B ≤ w.heap.size) (hx1 : ∀ u ∈ FV.cells x, u.oneCell' = true) (hl1 : ∀ u ∈ rows FV.cells l, u.oneCell' = true) (R : Rw w vb 57 (FV.cells x).toArray) (hvb : ∀ k, v.ownBlock = some k → vb ≠ k) :
    Calls Try.prog 61 #[v, .int .i64 i, .slice (some ⟨vb, 0, none⟩) 1 1] w (InPostF B v (l.length + 1) (rows FV.cells (l.take i ++ x :: l.drop i)) w) := by
  rw [← putF_rows]
  obtain ⟨p, c, rfl⟩ := own_sl hown
  rcases Nat.lt_or_ge i l.length with h | h
  · obtain ⟨g, rfl, hg⟩ := own_some hown (by omega)
    rcases Nat.lt_or_ge c (l.length + 1) with hc | hc
    · exact insertF_grow B g _ c i _ vb x w hown h hc hn (hl1) hB hx1 R
    · exact insertF_shift B g _ c i _ vb x w hown h hc hn (hvb g rfl) (hl1) hx1 R
  · obtain rfl : i = l.length := by omega
    have := insertF_end B p l.length c _ vb x w hown hn hB hx1 R
    rw [show putF (rows FV.cells l) (FV.cells x) l.length = rows FV.cells l ++ (FV.cells x) by unfold putF; rw [List.take_of_length_le (by rw [rows_length FV.len]; omega), List.drop_of_length_le (by rw [rows_length FV.len]; omega), List.append_nil]]
    exact this
end Go.Proofs.Ytjjncmenkepcoaa
/- Whether there is room for a file's bytes. -/
namespace Go.Proofs.Ytjjncmenkepcoaa
open Go.RowKit

theorem field57_1 (x : ByteArray) (p : Option Addr) (n c : Nat) (k : Int) (w : World) : (Instr.field 57 (FLV x (.slice p n c) k) 1).run Try.prog w = .ok (.slice p n c) w := by simp [Instr.field, go_sem, asAgg]
def fitV (s : St) (n : Nat) (size : Int) : Int := if s.room < us (s.ys.map (·.1)) - n + size then 4 else if s.th = false ∧ s.ys.length = 64 then 4 else 0
section
variable {w : World} {B b : Nat} {off : Nat → Prop} {s : St} {p : Option Addr} {c : Nat} {A C : List (FV × Value)} {M : Option (FV × Value)}
theorem Wk.fl (h : Wk w B b off s p c) (hs : Spl s A M C) : w.ownsRow B 5 1 (flM M).2 (flM M).1.d.length (cel (flM M).1.d) := by
  cases M with
  | none => exact World.ownsRow_nil _ _ _ _
  | some y => exact h.g.o y (by rw [hs.ys]; simp)
theorem Spl.us (hs : Spl s A M C) : (flM M).1.d.length ≤ us (s.ys.map (·.1)) := by
  cases M with
  | none => exact Nat.zero_le _
  | some y => exact us_mem (by rw [hs.ys]; simp [flM])
set_option maxHeartbeats 1000000 in
set_option maxRecDepth 100000 in
theorem fits_any (h : Wk w B b off s p c) (hs : Spl s A M C) (hus : us (s.ys.map (·.1)) ≤ 5000000) (size : Int) (h0 : 0 ≤ size) (h1 : size ≤ 100000000) : Calls Try.prog 36 #[.pointer (some ⟨b, 0, none⟩), .int .i64 size] w (Tells (.int .i64 (fitV s (flM M).1.d.length size)) w) := by
  obtain ⟨z, HZ⟩ := hid_ex (fitV s (flM M).1.d.length size)
  rw [HZ.out]
  have hfu := hs.us
  have C1 := filled_any (s.ys.map (·.1)) (.slice p s.ys.length c) w h.has (by omega)
  have C2 := fun w' (hb : Below w.heap.size w w') => file_any (h.later hb) hs
  obtain ⟨p1, c1, e1⟩ := own_sl (h.fl hs)
  rw [e1] at C2
  unfold fitV at HZ
  obtain ⟨u, HU⟩ := hid_ex (us (s.ys.map (·.1)))
  obtain ⟨n, HN⟩ := hid_ex (flM M).1.d.length
  rw [HU.out] at C1 HZ hfu hus
  rw [HN.out] at HZ hfu C2
  have R0 := h.r
  have hbel := Below.refl w.heap.size w
  have k0 : w.cell? ⟨b, 0, none⟩ = some (.slice p s.ys.length c) := R0.cell 0
  have EF := fun w' => field57_1 (flM M).1.x p1 n c1 (flM M).1.k w'
  clear h hs HU HN e1
  go_enter Try.func36, Try.ntmps36
  go_wp2_with fail
  refine C1.mono ?_
  clear C1 k0
  rintro e w1 ⟨rfl, hb1⟩
  replace R0 := R0.later hb1
  go_wp2_with fail
  refine (C2 w1 hb1).mono ?_
  rintro e w2 ⟨rfl, hb2⟩
  replace R0 := R0.later hb2
  replace hbel := below_on hb1 hb2
  clear C2 hb1 hb2
  have k0 : w2.cell? ⟨b, 0, none⟩ = some (.slice p s.ys.length c) := R0.cell 0
  have k1 : w2.cell? ⟨b, 1, none⟩ = some (.int .i64 s.room) := R0.cell 1
  have k6 : w2.cell? ⟨b, 6, none⟩ = some (.bool s.th) := R0.cell 6
  have ew : IntKind.i64.wrap ((u : Int) - (n : Int)) = (u : Int) - (n : Int) := by rw [IntKind.wrap_i64]; omega
  have ew2 : IntKind.i64.wrap ((u : Int) - (n : Int) + size) = (u : Int) - (n : Int) + size := by rw [IntKind.wrap_i64]; omega
  by_cases hr : s.room < (u : Int) - (n : Int) + size
  · obtain rfl : 4 = z := by rw [← HZ.out, if_pos hr]
    clear HZ
    go_wp2_with fail
    go_ret
    exact ⟨rfl, hbel⟩
  · rw [if_neg hr] at HZ
    cases ht : s.th
    · rw [ht] at k6 HZ
      by_cases h64 : s.ys.length = 64
      · obtain rfl : 4 = z := by rw [← HZ.out, if_pos ⟨rfl, h64⟩]
        have g64 : ((s.ys.length : Int) == 64) = true := by rw [beq_iff_eq]; omega
        clear HZ
        go_wp2_with fail
        go_ret
        exact ⟨rfl, hbel⟩
      · obtain rfl : 0 = z := by rw [← HZ.out, if_neg (fun e => h64 e.2)]
        have g64 : ((s.ys.length : Int) == 64) = false := by rw [beq_eq_false_iff_ne]; omega
        clear HZ
        go_wp2_with fail
        go_ret
        exact ⟨rfl, hbel⟩
    · rw [ht] at k6 HZ
      obtain rfl : 0 = z := by rw [← HZ.out, if_neg (fun e => by cases e.1)]
      clear HZ
      go_wp2_with fail
      go_ret
      exact ⟨rfl, hbel⟩
end
end Go.Proofs.Ytjjncmenkepcoaa
/- Two operations that may come up in a region that draws its order. Nothing of one program. -/
namespace Go.Proofs.Ytjjncmenkepcoaa.HeldI

section
variable {P : Program} {ops : Array Oper} {Q : Exit → Act → World → Prop} {S : World → Prop} {fuel : Nat} {listed : Array Bool} {a a' : Act} {w w1 : World} {o oi oj : Oper}
theorem al2 (i j : Nat) (h1 : oi.wp P a w (fun a' w' => S w' ∧ wpAnyH P .any ops Q S fuel (listed.setIfInBounds i true) a' w') Q) (h2 : oj.wp P a w (fun a' w' => S w' ∧ wpAnyH P .any ops Q S fuel (listed.setIfInBounds j true) a' w') Q)
    (hi : ops[i]? = some oi := by (simp only [List.getElem?_toArray, List.getElem?_cons_succ, List.getElem?_cons_zero]; rfl)) (hj : ops[j]? = some oj := by (simp only [List.getElem?_toArray, List.getElem?_cons_succ, List.getElem?_cons_zero]; rfl)) (hr : Region.ready .any ops listed = [i, j] := by kernel_rfl) (hwi : Region.wanted oi (yielded ops a.tmps) = true := by rfl) (hwj : Region.wanted oj (yielded ops a.tmps) = true := by rfl) : wpAnyH P .any ops Q S (fuel + 1) listed a w :=
  wpAnyH_all hr (by simp) fun k hk => by
    simp only [List.mem_cons, List.not_mem_nil, or_false] at hk
    rcases hk with rfl | rfl
    · unfold wpOp
      simp only [hi, hwi, if_true]
      exact .inl h1
    · unfold wpOp
      simp only [hj, hwj, if_true]
      exact .inl h2
/-- It comes to a value, whatever it writes. -/
theorem wpv {K : Act → World → Prop} {v : Value} (hv : (execOp a.eval o).run P w = .ok (.value v) w1) (hS : S w1) (h : K a' w1) (hp : a.put o.dst v = a' := by (simp only [Act.put, List.setIfInBounds_toArray, List.set_cons_zero, List.set_cons_succ]; rfl)) : o.wp P a w (fun a' w' => S w' ∧ K a' w') Q := by
  unfold Oper.wp
  rw [hv]
  exact ⟨hS, hp ▸ h⟩
/-- A store of a struct. -/
theorem wps {K : Act → World → Prop} {t : TypeId} {x y : Operand} {pv vv : Value} (hv : (Instr.storeAt t pv vv).run P w = .ok () w1) (hS : S w1) (h : K a' w1) (ho : o.op = .store t x y := by rfl) (hx : a.eval x = pv := by rfl) (hy : a.eval y = vv := by rfl) (hp : a.put o.dst undef = a' := by (simp only [Act.put, List.setIfInBounds_toArray, List.set_cons_zero, List.set_cons_succ]; rfl)) : o.wp P a w (fun a' w' => S w' ∧ K a' w') Q := by
  unfold Oper.wp execOp
  simp only [ho, hx, hy, Sem.run_bind, hv, Result.andThen_ok, Sem.run_pure]
  exact ⟨hS, hp ▸ h⟩
end
end Go.Proofs.Ytjjncmenkepcoaa.HeldI
