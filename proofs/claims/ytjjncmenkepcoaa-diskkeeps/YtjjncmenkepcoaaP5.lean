import Derived.Test.YtjjncmenkepcoaaP3
import Derived.Test.YtjjncmenkepcoaaP4
import Derived.Deep.CutRange
/- The document's answer for layer 22: the file of a name, and whether there is room. -/
namespace Go.Proofs.Ytjjncmenkepcoaa.HeldI

theorem sk {P : Program} {ops : Array Oper} {Q : Exit → Act → World → Prop} {S : World → Prop} {fuel : Nat} {listed : Array Bool} {a a' : Act} {w : World} {o : Oper} (i : Nat) (hS : S w) (h : wpAnyH P .any ops Q S fuel (listed.setIfInBounds i true) a' w) (hi : ops[i]? = some o := by (simp only [List.getElem?_toArray, List.getElem?_cons_succ, List.getElem?_cons_zero]; rfl)) (hs : Region.noSelect ops = true := by kernel_rfl) (hf : Region.free .any ops listed i = true := by kernel_rfl) (hr : (Region.ready .any ops listed).contains i = true := by kernel_rfl) (hw : Region.wanted o (yielded ops a.tmps) = false := by rfl) (hQ : ∀ c a w, Q (.panic c) (a.put o.dst undef) w → Q (.panic c) a w := by exact fun _ _ _ h => h)
    (hp : a.put o.dst undef = a' := by (simp only [Act.put, List.setIfInBounds_toArray, List.set_cons_zero, List.set_cons_succ]; rfl)) : wpAnyH P .any ops Q S (fuel + 1) listed a w :=
  wpAnyH_take hi hs hf hr hQ (.inr ⟨hw, rfl⟩) hS (hp ▸ h)
end Go.Proofs.Ytjjncmenkepcoaa.HeldI
namespace Go.Proofs.Ytjjncmenkepcoaa
open Go.RowKit

theorem range_row {w : World} {b g o : Nat} {cs : Array Value} {xs : List Value} (hne : g ≠ b) (h : w.rangeAt g o xs) : (w.setRow b cs).rangeAt g o xs := range_same h (setRow_other w b g cs hne)
theorem SHas.row {S n : Nat} {w : World} {v : Value} {xs : List Value} {b : Nat} (h : SHas S w v n xs) (hne : ∀ a m c, v = .slice (some a) m c → 0 < m → a.block ≠ b) (cs : Array Value) : SHas S (w.setRow b cs) v n xs := by
  obtain ⟨hm, hl, ⟨rfl, rfl⟩ | ⟨ad, c, rfl, hc, hd⟩⟩ := h
  · exact ⟨hm, hl, .inl ⟨rfl, rfl⟩⟩
  · refine ⟨hm, hl, .inr ⟨ad, c, rfl, hc, fun h => ?_⟩⟩
    obtain ⟨g, o, rfl, hd2⟩ := hd h
    exact ⟨g, o, rfl, range_row (hne _ _ _ rfl h) hd2⟩
def FiPost (d : DV) (x : ByteArray) (more : Int) (w : World) (e : Ending) (w' : World) : Prop := ∃ u, e = .returned (.tuple #[FLV (fiF d.fs x).x u (fiF d.fs x).k, .bool (fit d x more)]) ∧ DB w' u (fiF d.fs x).d ∧ Below w.heap.size w w'
set_option maxHeartbeats 16000000 in
set_option maxRecDepth 100000 in
theorem rFile_any (d : DV) (sl : Value) (x : ByteArray) (more : Int) (w : World) (h : FHas w sl d.fs) (hr1 : 0 ≤ d.room) (hr2 : d.room ≤ 1048576) (hus : us d.fs ≤ 1000000000) : Calls Try.prog 47 #[DKV.of sl d, .string x, .int .i64 more] w (FiPost d x more w) := by
  obtain ⟨q, c, rfl⟩ := h.slice
  have hml := maxLen_lt h.max
  have H : Hid (∀ w', Below w.heap.size w w' → FHas w' (.slice q d.fs.length c) d.fs) := fun w' hb => h.later hb
  clear h
  have R0 := (rw_new w 26 #[(.slice q d.fs.length c), .int .i64 d.room, .int .i64 d.arm, .bool d.dead]).alloc (.cells #[.string noS, .slice none 0 0, .int .i64 0] 57)
  have RF := rw_next (w.alloc (.cells #[(.slice q d.fs.length c), .int .i64 d.room, .int .i64 d.arm, .bool d.dead] 26)) (b := w.heap.size + 1) (by simp) 57 #[.string noS, .slice none 0 0, .int .i64 0]
  have hbel := bel_alloc (bel_alloc (Below.refl w.heap.size w) (.cells #[(.slice q d.fs.length c), .int .i64 d.room, .int .i64 d.arm, .bool d.dead] 26)) (.cells #[.string noS, .slice none 0 0, .int .i64 0] 57)
  generalize hW : (w.alloc (.cells #[(.slice q d.fs.length c), .int .i64 d.room, .int .i64 d.arm, .bool d.dead] 26)).alloc (.cells #[.string noS, .slice none 0 0, .int .i64 0] 57) = w0 at R0 RF hbel
  have C1 := rPlace_any d _ x w0 (H.out w0 hbel)
  obtain ⟨z, HZ⟩ := hid_ex (plF d.fs x)
  rw [HZ.out] at C1
  go_enter Try.func47, Try.ntmps47
  go_wp2_with (first | rw [hW] | refine load_r 26 _ rfl rfl _ rfl R0 Try.underlying26 rfl size26 ?_)
  clear hW
  refine C1.mono ?_
  rintro e w1 ⟨rfl, hb1⟩
  replace R0 := R0.later hb1
  replace RF := RF.later hb1
  replace hbel := below_on hbel hb1
  clear C1 hb1
  have hB : Below w.heap.size w w1.drew := hbel.drew
  have ew : IntKind.i64.wrap (d.room - (us d.fs : Int)) = d.room - (us d.fs : Int) := by rw [IntKind.wrap_i64]; omega
  obtain ⟨b2, HB2⟩ := hid_ex (decide (more ≤ d.room - (us d.fs : Int)))
  have e2 := HB2.out
  by_cases hz : z < 0
  · obtain ⟨b1, HB1⟩ := hid_ex (decide (d.fs.length < 64))
    have e1 := HB1.out
    have HFI : Hid (fiF d.fs x = ⟨x, [], 0⟩) := fi_none (by rw [HZ.out]; exact hz)
    have HFT : Hid (fit d x more = (b1 && b2)) := by
      show _ = _
      unfold fit
      rw [HZ.out, decide_eq_false (show ¬ 0 ≤ z by omega), e1, e2]
      rfl
    have e1i : decide ((d.fs.length : Int) < 64) = b1 := by
      rw [← e1, decide_eq_decide]
      omega
    go_wp2_with fail
    have hS : w1.drew.rangeAt w.heap.size 0 [(.slice q d.fs.length c), .int .i64 d.room, .int .i64 d.arm, .bool d.dead] := fun j v hv => (R0.cell (0 + j)).trans (by simpa using hv)
    clear HZ HB1 HB2
    cases b1
    · refine HeldI.region (fun w' : World => w'.rangeAt w.heap.size 0 [(.slice q d.fs.length c), .int .i64 d.room, .int .i64 d.arm, .bool d.dead]) (by kernel_rfl) ?_
      replace RF := RF.drew
      generalize w1.drew = wd at hS hB RF ⊢
      refine HeldI.pu 0 hS ?_
      refine HeldI.pu 1 hS ?_
      refine HeldI.pu 2 hS ?_
      refine HeldI.ce 3 (fun _ h => h 0 _ rfl) hS ?_
      refine HeldI.pu 4 hS ?_
      refine HeldI.pu 5 hS ?_
      refine HeldI.pu 6 hS ?_
      refine HeldI.sk 7 hS ?_
      refine HeldI.sk 8 hS ?_
      refine HeldI.sk 9 hS ?_
      refine HeldI.sk 10 hS ?_
      refine HeldI.sk 11 hS ?_
      refine HeldI.sk 12 hS ?_
      refine HeldI.sk 13 hS ?_
      refine HeldI.pu 14 hS ?_
      have hB3 := bel_row hB (b := w.heap.size + 1) (by omega) #[.string x, .slice none 0 0, .int .i64 0]
      have RF2 := RF.row #[.string x, .slice none 0 0, .int .i64 0]
      refine HeldI.ss 15 (RF.store #[.string x, .slice none 0 0, .int .i64 0] sizeF rfl (by simp [Value.oneCell'])) (range_row (by omega) hS) ?_
      replace hS := range_row (b := w.heap.size + 1) (cs := #[.string x, .slice none 0 0, .int .i64 0]) (by omega) hS
      refine HeldI.pu 16 hS ?_
      refine HeldI.dn ?_
      go_wp2_with fail
      refine bodyPost_ret (results_rt rfl rfl RF2 rfl Try.underlying57 sizeF) rfl ⟨_, by rw [HFI.out, HFT.out]; rfl, by rw [HFI.out]; exact DB.nil _, hB3⟩
    · refine HeldI.region (fun w' : World => w'.rangeAt w.heap.size 0 [(.slice q d.fs.length c), .int .i64 d.room, .int .i64 d.arm, .bool d.dead]) (by kernel_rfl) ?_
      replace RF := RF.drew
      generalize w1.drew = wd at hS hB RF ⊢
      refine HeldI.pu 0 hS ?_
      refine HeldI.pu 1 hS ?_
      refine HeldI.pu 2 hS ?_
      refine HeldI.ce 3 (fun _ h => h 0 _ rfl) hS ?_
      refine HeldI.pu 4 hS ?_
      refine HeldI.pu 5 hS ?_
      refine HeldI.pu 6 hS ?_
      refine HeldI.pu 7 hS ?_
      refine HeldI.pu 8 hS ?_
      refine HeldI.ce 9 (fun _ h => h 1 _ rfl) hS ?_
      refine HeldI.lm 10 size26 (fun _ h => h) Try.underlying26 hS ?_
      refine HeldI.kn 11 (rUsed_any d _ _ (H.out _ hB) hus) ?_
      rintro e w2 ⟨rfl, hb2⟩
      replace hB := below_on hB hb2
      replace RF := RF.later hb2
      replace hS := range_later hS hb2
      refine ⟨_, rfl, hS, ?_⟩
      clear hb2
      refine HeldI.pu 12 hS ?_
      refine HeldI.pu 13 hS ?_
      refine HeldI.pu 14 hS ?_
      have hB3 := bel_row hB (b := w.heap.size + 1) (by omega) #[.string x, .slice none 0 0, .int .i64 0]
      have RF2 := RF.row #[.string x, .slice none 0 0, .int .i64 0]
      refine HeldI.ss 15 (RF.store #[.string x, .slice none 0 0, .int .i64 0] sizeF rfl (by simp [Value.oneCell'])) (range_row (by omega) hS) ?_
      replace hS := range_row (b := w.heap.size + 1) (cs := #[.string x, .slice none 0 0, .int .i64 0]) (by omega) hS
      refine HeldI.pu 16 hS ?_
      refine HeldI.dn ?_
      go_wp2_with fail
      refine bodyPost_ret (results_rt rfl rfl RF2 rfl Try.underlying57 sizeF) rfl ⟨_, by rw [HFI.out, HFT.out]; rfl, by rw [HFI.out]; exact DB.nil _, hB3⟩
  · obtain ⟨k, hk, h1, h2, h3⟩ := fi_at (l := d.fs) (x := x) (by rw [HZ.out]; exact hz)
    rw [HZ.out] at h1
    subst h1
    have HFT : Hid (fit d x more = b2) := by
      show _ = _
      unfold fit
      rw [HZ.out, decide_eq_true (show (0 : Int) ≤ (k : Int) by omega), e2]
      rfl
    obtain ⟨g, o, s1, rfl, d0, a0⟩ := (H.out w (Below.refl _ _)).at k hk
    have hgl : g < w.heap.size := range_block d0 (by simp)
    obtain ⟨f, HF⟩ := hid_ex d.fs[k]
    have HFI : Hid (fiF d.fs x = f) := by show _ = _; rw [h2, HF.out]
    rw [HF.out] at d0 a0
    obtain ⟨p1, c1, rfl⟩ := SHas.slice a0
    have hgo : ∀ a m c, Value.slice p1 f.d.length c1 = .slice (some a) m c → 0 < m → a.block ≠ w.heap.size + 1 := fun a m c e hm => by
      have := SHas.block (by decide) a0 e hm
      omega
    replace d0 := range_later d0 hbel
    replace a0 := SHas.later a0 hbel
    have hk' : (k : Int) < (d.fs.length : Int) := by omega
    clear HZ HB2 h2 h3 HF hz
    go_wp2_with fail
    have hS : w1.drew.rangeAt w.heap.size 0 [(.slice (some ⟨g, o, none⟩) d.fs.length c), .int .i64 d.room, .int .i64 d.arm, .bool d.dead] ∧ w1.drew.rangeAt g (o + k * 3) [.string f.x, .slice p1 f.d.length c1, .int .i64 f.k] := ⟨fun j v hv => (R0.cell (0 + j)).trans (by simpa using hv), d0⟩
    replace a0 := SHas.drew a0
    refine HeldI.region (fun w' : World => w'.rangeAt w.heap.size 0 [(.slice (some ⟨g, o, none⟩) d.fs.length c), .int .i64 d.room, .int .i64 d.arm, .bool d.dead] ∧ w'.rangeAt g (o + k * 3) [.string f.x, (.slice p1 f.d.length c1), .int .i64 f.k]) (by kernel_rfl) ?_
    replace RF := RF.drew
    generalize w1.drew = wd at hS hB RF a0 ⊢
    refine HeldI.pu 0 hS ?_
    refine HeldI.ce 1 (fun _ h => h.1 0 _ rfl) hS ?_
    refine HeldI.pu 2 hS ?_
    refine HeldI.pu 3 hS ?_
    refine HeldI.lm 4 sizeF (fun _ h => h.2) Try.underlying57 hS ?_
    refine HeldI.pu 5 hS ?_
    refine HeldI.pu 6 hS ?_
    refine HeldI.ce 7 (fun _ h => h.1 1 _ rfl) hS ?_
    refine HeldI.lm 8 size26 (fun _ h => h.1) Try.underlying26 hS ?_
    refine HeldI.kn 9 (rUsed_any d _ _ (H.out _ hB) hus) ?_
    rintro e w2 ⟨rfl, hb2⟩
    replace hB := below_on hB hb2
    replace RF := RF.later hb2
    replace a0 := SHas.later a0 hb2
    replace hS : w2.rangeAt _ _ _ ∧ w2.rangeAt _ _ _ := ⟨range_later hS.1 hb2, range_later hS.2 hb2⟩
    refine ⟨_, rfl, hS, ?_⟩
    clear hb2
    refine HeldI.pu 10 hS ?_
    refine HeldI.pu 11 hS ?_
    have hB3 := bel_row hB (b := w.heap.size + 1) (by omega) #[.string f.x, .slice p1 f.d.length c1, .int .i64 f.k]
    have RF2 := RF.row #[.string f.x, .slice p1 f.d.length c1, .int .i64 f.k]
    have a3 := a0.row (b := w.heap.size + 1) hgo #[.string f.x, .slice p1 f.d.length c1, .int .i64 f.k]
    refine HeldI.ss 12 (RF.store #[.string f.x, .slice p1 f.d.length c1, .int .i64 f.k] sizeF rfl (by simp [Value.oneCell'])) ⟨range_row (by omega) hS.1, range_row (by omega) hS.2⟩ ?_
    replace hS := And.intro (range_row (b := w.heap.size + 1) (cs := #[.string f.x, .slice p1 f.d.length c1, .int .i64 f.k]) (by omega) hS.1) (range_row (b := w.heap.size + 1) (cs := #[.string f.x, .slice p1 f.d.length c1, .int .i64 f.k]) (by omega) hS.2)
    refine HeldI.pu 13 hS ?_
    refine HeldI.dn ?_
    go_wp2_with fail
    refine bodyPost_ret (results_rt rfl rfl RF2 rfl Try.underlying57 sizeF) rfl ⟨_, by rw [HFI.out, HFT.out]; rfl, by rw [HFI.out]; exact a3, hB3⟩
end Go.Proofs.Ytjjncmenkepcoaa
/- The document's answer for layer 22: a file in its place. -/
namespace Go.Proofs.Ytjjncmenkepcoaa
open Go.RowKit

theorem OwnF.fatO {w : World} {B : Nat} {v : Value} {ys : List (FV × Value)} {off : Nat → Prop} (h : OwnF w B v ys off) (hB : ∀ b, off b → b < B) : FAt w v ys off := ⟨own_sh h.r, h.o, fun b hb => ⟨fun a n c e hn => by
  have e2 : v.ownBlock = some a.block ∨ n = 0 := by
    rcases h.r.2 with ⟨rfl, _⟩ | ⟨g, cap, cur, rfl, _⟩
    · cases e
    · simp only [Value.slice.injEq, Option.some.injEq] at e
      rw [← e.1]
      exact .inl rfl
  rcases e2 with e2 | e2
  · have := h.block e2
    have := hB b hb
    omega
  · omega, fun y hy => h.f y hy b (.inr hb)⟩⟩
theorem grown_cell (w : World) (b i : Nat) (u : Value) : w.grownBy (w.setCell ⟨b, i, none⟩ u) (some b) := by
  have h := Below.setCell (Below.refl b w) (p := ⟨b, i, none⟩) (Nat.le_refl b) u
  exact ⟨h.os, h.tape, h.output, h.size, fun k _ hk => Below.heap_setCell w _ u k fun e => hk (by rw [e])⟩
def DkPost (d : DV) (w : World) (e : Ending) (w' : World) : Prop := ∃ p c, e = .returned (DKV.of (.slice p d.fs.length c) d) ∧ FHas w' (.slice p d.fs.length c) d.fs ∧ Below w.heap.size w w'
theorem drop_at {l : List FV} {k : Nat} (h : k < l.length) : l.drop k = l[k] :: l.drop (k + 1) := (List.getElem_cons_drop h).symm
set_option maxHeartbeats 16000000 in
set_option maxRecDepth 100000 in
theorem rWith_any (d : DV) (f : FV) (q : Option Addr) (c : Nat) (u : Value) (w : World) (h : FHas w (.slice q d.fs.length c) d.fs) (hu : DB w u f.d) (hl : d.fs.length ≤ 1000) : Calls Try.prog 49 #[DKV.of (.slice q d.fs.length c) d, FLV f.x u f.k] w (DkPost { d with fs := withF f d.fs } w) := by
  have H : Hid (FHas w (.slice q d.fs.length c) d.fs) := h
  clear h
  have HU : Hid (DB w u f.d) := hu
  have h1c : u.oneCell' = true := by
    obtain ⟨p1, c1, e⟩ := SHas.slice hu
    rw [e]
    rfl
  clear hu
  have R0 := ((rw_new w 26 #[(.slice q d.fs.length c), .int .i64 d.room, .int .i64 d.arm, .bool d.dead]).alloc (.cells #[.string f.x, u, .int .i64 f.k] 57)).alloc (.cells #[.slice none 0 0, .int .i64 0, .int .i64 0, .bool false] 26)
  have R1 := (rw_next (w.alloc (.cells #[(.slice q d.fs.length c), .int .i64 d.room, .int .i64 d.arm, .bool d.dead] 26)) (b := w.heap.size + 1) (by simp) 57 #[.string f.x, u, .int .i64 f.k]).alloc (.cells #[.slice none 0 0, .int .i64 0, .int .i64 0, .bool false] 26)
  have R2 := rw_next ((w.alloc (.cells #[(.slice q d.fs.length c), .int .i64 d.room, .int .i64 d.arm, .bool d.dead] 26)).alloc (.cells #[.string f.x, u, .int .i64 f.k] 57)) (b := w.heap.size + 2) (by simp) 26 #[.slice none 0 0, .int .i64 0, .int .i64 0, .bool false]
  have hbel := bel_alloc (bel_alloc (bel_alloc (Below.refl w.heap.size w) (.cells #[(.slice q d.fs.length c), .int .i64 d.room, .int .i64 d.arm, .bool d.dead] 26)) (.cells #[.string f.x, u, .int .i64 f.k] 57)) (.cells #[.slice none 0 0, .int .i64 0, .int .i64 0, .bool false] 26)
  generalize hW : ((w.alloc (.cells #[(.slice q d.fs.length c), .int .i64 d.room, .int .i64 d.arm, .bool d.dead] 26)).alloc (.cells #[.string f.x, u, .int .i64 f.k] 57)).alloc (.cells #[.slice none 0 0, .int .i64 0, .int .i64 0, .bool false] 26) = w0 at R0 R1 R2 hbel
  go_enter Try.func49, Try.ntmps49
  go_wp2_with (rw [hW])
  clear hW
  go_loopw [5, 6, 7] (fun vo vd vi wr => ∃ (k : Nat) (dn : Bool) (ys : List (FV × Value)), vi = .int .i64 k ∧ vd = .bool dn ∧ k ≤ d.fs.length ∧ ys.length ≤ k + dn.toNat ∧ Hid (ys.map (·.1) ++ wiF f dn (d.fs.drop k) = withF f d.fs) ∧ OwnF wr (w.heap.size + 3) vo ys (fun b => b = w.heap.size ∨ b = w.heap.size + 1 ∨ b = w.heap.size + 2) ∧ Rw wr w.heap.size 26 #[(.slice q d.fs.length c), .int .i64 d.room, .int .i64 d.arm, .bool d.dead] ∧ Rw wr (w.heap.size + 1) 57 #[.string f.x, u, .int .i64 f.k] ∧ Rw wr (w.heap.size + 2) 26 #[.slice none 0 0, .int .i64 0, .int .i64 0, .bool false] ∧ Below w.heap.size w wr) (fun _ _ vi _ => d.fs.length - (intOf vi).toNat)
  case atStart => exact ⟨0, false, [], rfl, rfl, by omega, by simp, (show _ = _ from rfl), OwnF.nil _ _ _, R0, R1, R2, hbel⟩
  case round =>
    clear R0 R1 R2 hbel
    obtain ⟨k, dn, ys, rfl, rfl, hk, hyl, HV, hO, R0, R1, R2, hbel⟩ := hrel
    have k0 : wr.cell? ⟨w.heap.size, 0, none⟩ = some (.slice q d.fs.length c) := R0.cell 0
    have f0 : wr.cell? ⟨w.heap.size + 1, 0, none⟩ = some (.string f.x) := R1.cell 0
    by_cases hlt : k < d.fs.length
    · have hlt' : (k : Int) < (d.fs.length : Int) := by omega
      obtain ⟨g, o, s1, rfl, d00, a00⟩ := H.out.at k hlt
      have HDR := drop_at hlt
      obtain ⟨y, HY⟩ := hid_ex d.fs[k]
      rw [HY.out] at d00 a00 HDR
      obtain ⟨p1, c1, rfl⟩ := SHas.slice a00
      have HA : Hid (DB w (.slice p1 y.d.length c1) y.d) := a00
      have HD : Hid (w.rangeAt g (o + k * 3) [.string y.x, .slice p1 y.d.length c1, .int .i64 y.k]) := d00
      have d1 := (f_cells (range_later d00 hbel)).1
      obtain ⟨lt, HLT⟩ := hid_ex (decide (bs y.x < bs f.x))
      have HV2 : Hid (ys.map (·.1) ++ ((if !dn && !lt then [f] else []) ++ (if y.x = f.x then [] else [y]) ++ wiF f (dn || !lt) (d.fs.drop (k + 1))) = withF f d.fs) := by
        show _ = _
        rw [← HV.out, HDR, wiF, ← HLT.out]
      have EQ := leq_str y.x f.x
      rw [HLT.out] at EQ
      clear HV HDR HY d00 a00 HLT
      cases dn
      · have hyk : ys.length ≤ k := hyl
        go_wp2_with fail
        refine Calm.region (by kernel_rfl) (by kernel_rfl) (fun w' : World => w'.cell? ⟨w.heap.size, 0, none⟩ = some (.slice (some ⟨g, o, none⟩) d.fs.length c) ∧ w'.cell? ⟨w.heap.size + 1, 0, none⟩ = some (.string f.x) ∧ w'.cell? ⟨g, o + k * 3, none⟩ = some (.string y.x) ∧ Below wr.heap.size wr w') ⟨k0, f0, d1, (Below.refl _ _).drew⟩ ?_
        iterate 4 (refine Calm.pu ?_)
        refine Calm.ce (fun _ h => h.2.1) ?_
        refine Calm.pu ?_
        refine Calm.ce (fun _ h => h.1) ?_
        iterate 3 (refine Calm.pu ?_)
        refine Calm.ce (fun _ h => h.2.2.1) ?_
        iterate 2 (refine Calm.pu ?_)
        intro w6 hS6
        have hb6 := hS6.2.2.2
        clear hS6
        clear k0 f0 d1 EQ
        replace hO := hO.later hb6
        replace R0 := R0.later hb6
        replace R1 := R1.later hb6
        replace R2 := R2.later hb6
        replace hbel := below_on hbel hb6
        go_upto_if 27 with fail
        go_cut [5, 6] from 28 to 31 (fun vo vd wx => ∃ ys : List (FV × Value), vd = .bool (!lt) ∧ ys.length ≤ k + ((!lt)).toNat ∧ Hid (ys.map (·.1) ++ ((if y.x = f.x then [] else [y]) ++ wiF f (!lt) (d.fs.drop (k + 1))) = withF f d.fs) ∧ OwnF wx (w.heap.size + 3) vo ys (fun b => b = w.heap.size ∨ b = w.heap.size + 1 ∨ b = w.heap.size + 2) ∧ Rw wx w.heap.size 26 #[(.slice (some ⟨g, o, none⟩) d.fs.length c), .int .i64 d.room, .int .i64 d.arm, .bool d.dead] ∧ Rw wx (w.heap.size + 1) 57 #[.string f.x, u, .int .i64 f.k] ∧ Rw wx (w.heap.size + 2) 26 #[.slice none 0 0, .int .i64 0, .int .i64 0, .bool false] ∧ Below w.heap.size w wx)
        case first =>
          cases lt
          · have HB0 : Hid (DB w u f.d) := HU
            have hu6 := SHas.later HU.out hbel
            have R1_ := R1
            have XO := one_file f u (fun b => u5.ownBlock = some b ∨ (fun b => b = w.heap.size ∨ b = w.heap.size + 1 ∨ b = w.heap.size + 2) b) (b := w6.heap.size) rfl hu6 (fun q hq => by
              rcases hq with hq | hq
              · have h1 := hO.block hq
                exact ⟨fun a n' c' e hn' => by have h2 := SHas.block (by decide) HB0.out e hn'; omega, by omega⟩
              · have hwz := hbel.size
                exact ⟨fun a n' c' e hn' => by have h2 := SHas.block (by decide) HB0.out e hn'; rcases hq with hq | hq | hq <;> omega, by have := R2.lt; rcases hq with hq | hq | hq <;> omega⟩)
            have BO := build_file f.x u f.k (by first | rfl | exact h1c) w6
            have hb5 := bel_alloc (Below.refl w6.heap.size w6) (.cells (FV.cells (f, u)).toArray 57)
            generalize hW4 : w6.alloc (.cells (FV.cells (f, u)).toArray 57) = w5 at XO BO hb5
            have PO5 := hO.later hb5
            have R05 := R0.later hb5
            have R15 := R1.later hb5
            have R25 := R2.later hb5
            have hbel5 := below_on hbel hb5
            have hsz5 : w.heap.size + 3 ≤ w5.heap.size := by have := R25.lt; omega
            have hlen5 : ys.length + [(f, u)].length ≤ 100000 := by
              show ys.length + 1 ≤ _
              omega
            go_wp2_with (first | refine load_r 57 _ rfl rfl _ rfl R1_ Try.underlying57 rfl sizeF ?_ | refine build_at (v := FLV f.x u f.k) rfl _ rfl rfl BO ?_ | (at_builtin; refine append_fs rfl _ _ rfl rfl rfl PO5 XO hlen5 hsz5 ?_))
            intro v7 w7 hO7 hg7 hb7
            have hbl : ∀ k', u5.ownBlock = some k' → w.heap.size + 3 ≤ k' := fun k' hk' => (PO5.block hk').1
            have Q0 := R05.grown hg7 (fun k' hk' => by have := hbl k' hk'; omega)
            have Q1 := R15.grown hg7 (fun k' hk' => by have := hbl k' hk'; omega)
            have Q2 := R25.grown hg7 (fun k' hk' => by have := hbl k' hk'; omega)
            have Qb : Below w.heap.size w w7 := hbel5.grown hg7 hbel5.size (fun k' hk' => by have := hbl k' hk'; omega)
            clear PO5 XO BO hW4 R05 R15 R25 hb5 hbel5 hg7 hb7 hbl
            go_wp2_with fail
            go_meet
            case rel => exact ⟨ys ++ [(f, u)], rfl, by rw [List.length_append]; show ys.length + 1 ≤ k + 1; omega, by show _ = _; rw [← HV2.out]; simp, hO7, Q0, Q1, Q2, Qb⟩
          · go_wp2_with fail
            go_meet
            case rel => exact ⟨ys, rfl, hyl, by show _ = _; rw [← HV2.out]; simp, hO, R0, R1, R2, hbel⟩
        case rest =>
          clear HV2 hO R0 R1 R2 hbel hyl hyk ys hb6
          obtain ⟨ys, rfl, hyl, HV3, hO, R0, R1, R2, hbel⟩ := hcut
          obtain ⟨dn, HDN⟩ := hid_ex (!lt)
          rw [HDN.out] at HV3 hyl ⊢
          have hyk : ys.length ≤ k + 1 := Nat.le_trans hyl (by cases dn <;> simp)
          clear HDN
          have k0 : wc.cell? ⟨w.heap.size, 0, none⟩ = some (.slice (some ⟨g, o, none⟩) d.fs.length c) := R0.cell 0
          have f0 : wc.cell? ⟨w.heap.size + 1, 0, none⟩ = some (.string f.x) := R1.cell 0
          have d1 := (f_cells (range_later HD.out hbel)).1
          by_cases hxy : y.x = f.x
          · have g1 := str_eq hxy
            have HV4 : Hid (ys.map (·.1) ++ wiF f dn (d.fs.drop (k + 1)) = withF f d.fs) := by
              show _ = _
              rw [← HV3.out, if_pos hxy]
              rfl
            clear HV3 hxy
            go_wp2_with fail
            refine Calm.region (by kernel_rfl) (by kernel_rfl) (fun w' : World => w'.cell? ⟨w.heap.size, 0, none⟩ = some (.slice (some ⟨g, o, none⟩) d.fs.length c) ∧ w'.cell? ⟨w.heap.size + 1, 0, none⟩ = some (.string f.x) ∧ w'.cell? ⟨g, o + k * 3, none⟩ = some (.string y.x) ∧ Below wc.heap.size wc w') ⟨k0, f0, d1, (Below.refl _ _).drew⟩ ?_
            refine Calm.pu ?_
            refine Calm.ce (fun _ h => h.1) ?_
            iterate 3 (refine Calm.pu ?_)
            refine Calm.ce (fun _ h => h.2.2.1) ?_
            refine Calm.pu ?_
            refine Calm.ce (fun _ h => h.2.1) ?_
            refine Calm.pu ?_
            intro w9 hS9
            have hb9 := hS9.2.2.2
            clear hS9 k0 f0 d1
            replace hO := hO.later hb9
            replace R0 := R0.later hb9
            replace R1 := R1.later hb9
            replace R2 := R2.later hb9
            replace hbel := below_on hbel hb9
            go_wp2_with fail
            go_roundw
            case rel => exact ⟨k + 1, dn, ys, by simp, rfl, by omega, by omega, HV4, hO, R0, R1, R2, hbel⟩
            case measure => simp [intOf]; omega
          · have g1 := str_ne hxy
            have HV4 : Hid ((ys ++ [(y, Value.slice p1 y.d.length c1)]).map (·.1) ++ wiF f dn (d.fs.drop (k + 1)) = withF f d.fs) := by
              show _ = _
              rw [← HV3.out, if_neg hxy]
              simp
            clear HV3 hxy
            go_wp2_with fail
            refine Calm.region (by kernel_rfl) (by kernel_rfl) (fun w' : World => w'.cell? ⟨w.heap.size, 0, none⟩ = some (.slice (some ⟨g, o, none⟩) d.fs.length c) ∧ w'.cell? ⟨w.heap.size + 1, 0, none⟩ = some (.string f.x) ∧ w'.cell? ⟨g, o + k * 3, none⟩ = some (.string y.x) ∧ Below wc.heap.size wc w') ⟨k0, f0, d1, (Below.refl _ _).drew⟩ ?_
            refine Calm.pu ?_
            refine Calm.ce (fun _ h => h.1) ?_
            iterate 3 (refine Calm.pu ?_)
            refine Calm.ce (fun _ h => h.2.2.1) ?_
            refine Calm.pu ?_
            refine Calm.ce (fun _ h => h.2.1) ?_
            refine Calm.pu ?_
            intro w9 hS9
            have hb9 := hS9.2.2.2
            clear hS9 k0 f0 d1
            replace hO := hO.later hb9
            replace R0 := R0.later hb9
            replace R1 := R1.later hb9
            replace R2 := R2.later hb9
            replace hbel := below_on hbel hb9
            have k0 : w9.cell? ⟨w.heap.size, 0, none⟩ = some (.slice (some ⟨g, o, none⟩) d.fs.length c) := R0.cell 0
            have HB0 : Hid (DB w (.slice p1 y.d.length c1) y.d) := HA
            have a9 := SHas.later HA.out hbel
            have D_ := range_later HD.out hbel
            have zf : (Try.prog.info? 57).map (·.size) = some [Value.string y.x, .slice p1 y.d.length c1, .int .i64 y.k].length := sizeF
            have XO := one_file y (Value.slice p1 y.d.length c1) (fun b => u5.ownBlock = some b ∨ (fun b => b = w.heap.size ∨ b = w.heap.size + 1 ∨ b = w.heap.size + 2) b) (b := w9.heap.size) rfl a9 (fun q hq => by
              rcases hq with hq | hq
              · have h1 := hO.block hq
                exact ⟨fun a n' c' e hn' => by have h2 := SHas.block (by decide) HB0.out e hn'; omega, by omega⟩
              · have hwz := hbel.size
                exact ⟨fun a n' c' e hn' => by have h2 := SHas.block (by decide) HB0.out e hn'; rcases hq with hq | hq | hq <;> omega, by have := R2.lt; rcases hq with hq | hq | hq <;> omega⟩)
            have BO := build_file y.x (Value.slice p1 y.d.length c1) y.k (by first | rfl | exact h1c) w9
            have hb5 := bel_alloc (Below.refl w9.heap.size w9) (.cells (FV.cells (y, (Value.slice p1 y.d.length c1))).toArray 57)
            generalize hW4 : w9.alloc (.cells (FV.cells (y, (Value.slice p1 y.d.length c1))).toArray 57) = w5 at XO BO hb5
            have PO5 := hO.later hb5
            have R05 := R0.later hb5
            have R15 := R1.later hb5
            have R25 := R2.later hb5
            have hbel5 := below_on hbel hb5
            have hsz5 : w.heap.size + 3 ≤ w5.heap.size := by have := R25.lt; omega
            have hlen5 : ys.length + [(y, (Value.slice p1 y.d.length c1))].length ≤ 100000 := by
              show ys.length + 1 ≤ _
              omega
            go_wp2_with (first | refine load_m 57 _ rfl rfl _ _ rfl D_ Try.underlying57 rfl zf ?_ | refine build_at (v := FLV y.x (Value.slice p1 y.d.length c1) y.k) rfl _ rfl rfl BO ?_ | (at_builtin; refine append_fs rfl _ _ rfl rfl rfl PO5 XO hlen5 hsz5 ?_))
            intro v7 w7 hO7 hg7 hb7
            have hbl : ∀ k', u5.ownBlock = some k' → w.heap.size + 3 ≤ k' := fun k' hk' => (PO5.block hk').1
            have Q0 := R05.grown hg7 (fun k' hk' => by have := hbl k' hk'; omega)
            have Q1 := R15.grown hg7 (fun k' hk' => by have := hbl k' hk'; omega)
            have Q2 := R25.grown hg7 (fun k' hk' => by have := hbl k' hk'; omega)
            have Qb : Below w.heap.size w w7 := hbel5.grown hg7 hbel5.size (fun k' hk' => by have := hbl k' hk'; omega)
            clear PO5 XO BO hW4 R05 R15 R25 hb5 hbel5 hg7 hb7 hbl
            clear hO R0 R1 R2 hbel k0 D_ a9
            go_wp2_with fail
            go_roundw
            case rel => exact ⟨k + 1, dn, ys ++ [(y, Value.slice p1 y.d.length c1)], by simp, rfl, by omega, by rw [List.length_append]; show ys.length + 1 ≤ _; omega, HV4, hO7, Q0, Q1, Q2, Qb⟩
            case measure => simp [intOf]; omega
      · have hyk : ys.length ≤ k + 1 := hyl
        have HV3 : Hid (ys.map (·.1) ++ ((if y.x = f.x then [] else [y]) ++ wiF f true (d.fs.drop (k + 1))) = withF f d.fs) := HV2
        clear HV2
        go_wp2_with fail
        refine Calm.region (by kernel_rfl) (by kernel_rfl) (fun w' : World => w'.cell? ⟨w.heap.size, 0, none⟩ = some (.slice (some ⟨g, o, none⟩) d.fs.length c) ∧ w'.cell? ⟨w.heap.size + 1, 0, none⟩ = some (.string f.x) ∧ w'.cell? ⟨g, o + k * 3, none⟩ = some (.string y.x) ∧ Below wr.heap.size wr w') ⟨k0, f0, d1, (Below.refl _ _).drew⟩ ?_
        iterate 3 (refine Calm.pu ?_)
        iterate 9 (refine Calm.sk ?_)
        refine Calm.pu ?_
        intro w6 hS6
        have hb6 := hS6.2.2.2
        clear hS6
        clear k0 f0 d1 EQ
        replace hO := hO.later hb6
        replace R0 := R0.later hb6
        replace R1 := R1.later hb6
        replace R2 := R2.later hb6
        replace hbel := below_on hbel hb6
        go_wp2_with fail
        have k0 : w6.cell? ⟨w.heap.size, 0, none⟩ = some (.slice (some ⟨g, o, none⟩) d.fs.length c) := R0.cell 0
        have f0 : w6.cell? ⟨w.heap.size + 1, 0, none⟩ = some (.string f.x) := R1.cell 0
        have d1 := (f_cells (range_later HD.out hbel)).1
        by_cases hxy : y.x = f.x
        · have g1 := str_eq hxy
          have HV4 : Hid (ys.map (·.1) ++ wiF f true (d.fs.drop (k + 1)) = withF f d.fs) := by
            show _ = _
            rw [← HV3.out, if_pos hxy]
            rfl
          clear HV3 hxy
          go_wp2_with fail
          refine Calm.region (by kernel_rfl) (by kernel_rfl) (fun w' : World => w'.cell? ⟨w.heap.size, 0, none⟩ = some (.slice (some ⟨g, o, none⟩) d.fs.length c) ∧ w'.cell? ⟨w.heap.size + 1, 0, none⟩ = some (.string f.x) ∧ w'.cell? ⟨g, o + k * 3, none⟩ = some (.string y.x) ∧ Below w6.heap.size w6 w') ⟨k0, f0, d1, (Below.refl _ _).drew⟩ ?_
          refine Calm.pu ?_
          refine Calm.ce (fun _ h => h.1) ?_
          iterate 3 (refine Calm.pu ?_)
          refine Calm.ce (fun _ h => h.2.2.1) ?_
          refine Calm.pu ?_
          refine Calm.ce (fun _ h => h.2.1) ?_
          refine Calm.pu ?_
          intro w9 hS9
          have hb9 := hS9.2.2.2
          clear hS9 k0 f0 d1
          replace hO := hO.later hb9
          replace R0 := R0.later hb9
          replace R1 := R1.later hb9
          replace R2 := R2.later hb9
          replace hbel := below_on hbel hb9
          go_wp2_with fail
          go_roundw
          case rel => exact ⟨k + 1, true, ys, by simp, rfl, by omega, by omega, HV4, hO, R0, R1, R2, hbel⟩
          case measure => simp [intOf]; omega
        · have g1 := str_ne hxy
          have HV4 : Hid ((ys ++ [(y, Value.slice p1 y.d.length c1)]).map (·.1) ++ wiF f true (d.fs.drop (k + 1)) = withF f d.fs) := by
            show _ = _
            rw [← HV3.out, if_neg hxy]
            simp
          clear HV3 hxy
          go_wp2_with fail
          refine Calm.region (by kernel_rfl) (by kernel_rfl) (fun w' : World => w'.cell? ⟨w.heap.size, 0, none⟩ = some (.slice (some ⟨g, o, none⟩) d.fs.length c) ∧ w'.cell? ⟨w.heap.size + 1, 0, none⟩ = some (.string f.x) ∧ w'.cell? ⟨g, o + k * 3, none⟩ = some (.string y.x) ∧ Below w6.heap.size w6 w') ⟨k0, f0, d1, (Below.refl _ _).drew⟩ ?_
          refine Calm.pu ?_
          refine Calm.ce (fun _ h => h.1) ?_
          iterate 3 (refine Calm.pu ?_)
          refine Calm.ce (fun _ h => h.2.2.1) ?_
          refine Calm.pu ?_
          refine Calm.ce (fun _ h => h.2.1) ?_
          refine Calm.pu ?_
          intro w9 hS9
          have hb9 := hS9.2.2.2
          clear hS9 k0 f0 d1
          replace hO := hO.later hb9
          replace R0 := R0.later hb9
          replace R1 := R1.later hb9
          replace R2 := R2.later hb9
          replace hbel := below_on hbel hb9
          have k0 : w9.cell? ⟨w.heap.size, 0, none⟩ = some (.slice (some ⟨g, o, none⟩) d.fs.length c) := R0.cell 0
          have HB0 : Hid (DB w (.slice p1 y.d.length c1) y.d) := HA
          have a9 := SHas.later HA.out hbel
          have D_ := range_later HD.out hbel
          have zf : (Try.prog.info? 57).map (·.size) = some [Value.string y.x, .slice p1 y.d.length c1, .int .i64 y.k].length := sizeF
          have XO := one_file y (Value.slice p1 y.d.length c1) (fun b => u5.ownBlock = some b ∨ (fun b => b = w.heap.size ∨ b = w.heap.size + 1 ∨ b = w.heap.size + 2) b) (b := w9.heap.size) rfl a9 (fun q hq => by
            rcases hq with hq | hq
            · have h1 := hO.block hq
              exact ⟨fun a n' c' e hn' => by have h2 := SHas.block (by decide) HB0.out e hn'; omega, by omega⟩
            · have hwz := hbel.size
              exact ⟨fun a n' c' e hn' => by have h2 := SHas.block (by decide) HB0.out e hn'; rcases hq with hq | hq | hq <;> omega, by have := R2.lt; rcases hq with hq | hq | hq <;> omega⟩)
          have BO := build_file y.x (Value.slice p1 y.d.length c1) y.k (by first | rfl | exact h1c) w9
          have hb5 := bel_alloc (Below.refl w9.heap.size w9) (.cells (FV.cells (y, (Value.slice p1 y.d.length c1))).toArray 57)
          generalize hW4 : w9.alloc (.cells (FV.cells (y, (Value.slice p1 y.d.length c1))).toArray 57) = w5 at XO BO hb5
          have PO5 := hO.later hb5
          have R05 := R0.later hb5
          have R15 := R1.later hb5
          have R25 := R2.later hb5
          have hbel5 := below_on hbel hb5
          have hsz5 : w.heap.size + 3 ≤ w5.heap.size := by have := R25.lt; omega
          have hlen5 : ys.length + [(y, (Value.slice p1 y.d.length c1))].length ≤ 100000 := by
            show ys.length + 1 ≤ _
            omega
          go_wp2_with (first | refine load_m 57 _ rfl rfl _ _ rfl D_ Try.underlying57 rfl zf ?_ | refine build_at (v := FLV y.x (Value.slice p1 y.d.length c1) y.k) rfl _ rfl rfl BO ?_ | (at_builtin; refine append_fs rfl _ _ rfl rfl rfl PO5 XO hlen5 hsz5 ?_))
          intro v7 w7 hO7 hg7 hb7
          have hbl : ∀ k', u5.ownBlock = some k' → w.heap.size + 3 ≤ k' := fun k' hk' => (PO5.block hk').1
          have Q0 := R05.grown hg7 (fun k' hk' => by have := hbl k' hk'; omega)
          have Q1 := R15.grown hg7 (fun k' hk' => by have := hbl k' hk'; omega)
          have Q2 := R25.grown hg7 (fun k' hk' => by have := hbl k' hk'; omega)
          have Qb : Below w.heap.size w w7 := hbel5.grown hg7 hbel5.size (fun k' hk' => by have := hbl k' hk'; omega)
          clear PO5 XO BO hW4 R05 R15 R25 hb5 hbel5 hg7 hb7 hbl
          clear hO R0 R1 R2 hbel k0 D_ a9
          go_wp2_with fail
          go_roundw
          case rel => exact ⟨k + 1, true, ys ++ [(y, Value.slice p1 y.d.length c1)], by simp, rfl, by omega, by rw [List.length_append]; show ys.length + 1 ≤ _; omega, HV4, hO7, Q0, Q1, Q2, Qb⟩
          case measure => simp [intOf]; omega
    · have hlt' : ¬ (k : Int) < (d.fs.length : Int) := by omega
      have HDR : d.fs.drop k = [] := List.drop_of_length_le (by omega)
      rw [HDR] at HV
      clear HDR
      cases dn
      · have hyk : ys.length ≤ k := hyl
        have HB0 : Hid (DB w u f.d) := HU
        have hu6 := SHas.later HU.out hbel
        have R1_ := R1
        have HV2 : Hid ((ys ++ [(f, u)]).map (·.1) = ({ d with fs := withF f d.fs } : DV).fs) := by
          show _ = _
          rw [List.map_append]
          exact HV.out
        clear HV
        have XO := one_file f u (fun b => u5.ownBlock = some b ∨ (fun b => b = w.heap.size ∨ b = w.heap.size + 1 ∨ b = w.heap.size + 2) b) (b := wr.heap.size) rfl hu6 (fun q hq => by
          rcases hq with hq | hq
          · have h1 := hO.block hq
            exact ⟨fun a n' c' e hn' => by have h2 := SHas.block (by decide) HB0.out e hn'; omega, by omega⟩
          · have hwz := hbel.size
            exact ⟨fun a n' c' e hn' => by have h2 := SHas.block (by decide) HB0.out e hn'; rcases hq with hq | hq | hq <;> omega, by have := R2.lt; rcases hq with hq | hq | hq <;> omega⟩)
        have BO := build_file f.x u f.k (by first | rfl | exact h1c) wr
        have hb5 := bel_alloc (Below.refl wr.heap.size wr) (.cells (FV.cells (f, u)).toArray 57)
        generalize hW4 : wr.alloc (.cells (FV.cells (f, u)).toArray 57) = w5 at XO BO hb5
        have PO5 := hO.later hb5
        have R05 := R0.later hb5
        have R15 := R1.later hb5
        have R25 := R2.later hb5
        have hbel5 := below_on hbel hb5
        have hsz5 : w.heap.size + 3 ≤ w5.heap.size := by have := R25.lt; omega
        have hlen5 : ys.length + [(f, u)].length ≤ 100000 := by
          show ys.length + 1 ≤ _
          omega
        go_wp2_with (first | refine load_r 57 _ rfl rfl _ rfl R1_ Try.underlying57 rfl sizeF ?_ | refine build_at (v := FLV f.x u f.k) rfl _ rfl rfl BO ?_ | (at_builtin; refine append_fs rfl _ _ rfl rfl rfl PO5 XO hlen5 hsz5 ?_))
        intro v7 w7 hO7 hg7 hb7
        have hbl : ∀ k', u5.ownBlock = some k' → w.heap.size + 3 ≤ k' := fun k' hk' => (PO5.block hk').1
        have Q0 := R05.grown hg7 (fun k' hk' => by have := hbl k' hk'; omega)
        have Q1 := R15.grown hg7 (fun k' hk' => by have := hbl k' hk'; omega)
        have Q2 := R25.grown hg7 (fun k' hk' => by have := hbl k' hk'; omega)
        have Qb : Below w.heap.size w w7 := hbel5.grown hg7 hbel5.size (fun k' hk' => by have := hbl k' hk'; omega)
        clear PO5 XO BO hW4 R05 R15 R25 hb5 hbel5 hg7 hb7 hbl
        clear hO R0 R1 R2 hbel k0 f0 hu6 R1_ Q1
        have HYL : Hid ((ys ++ [(f, u)]).length = ({ d with fs := withF f d.fs } : DV).fs.length) := by
          show _ = _
          rw [← HV2.out, List.length_map]
        obtain ⟨p9, c9, rfl⟩ := own_sl hO7.r
        rw [HYL.out] at hO7 ⊢
        have k9 : w7.cell? ⟨w.heap.size, 0, none⟩ = some (.slice q d.fs.length c) := Q0.cell 0
        have e9 : w7.frozen? ⟨w.heap.size, 0, none⟩ = false := Q0.frozen 0
        have R09 : Rw (w7.setCell ⟨w.heap.size, 0, none⟩ (.slice p9 ({ d with fs := withF f d.fs } : DV).fs.length c9)) w.heap.size 26 #[.slice p9 ({ d with fs := withF f d.fs } : DV).fs.length c9, .int .i64 d.room, .int .i64 d.arm, .bool d.dead] := Q0.set 0 _
        have R29 := Q2.setOther (q := w.heap.size) (by omega) 0 (.slice p9 ({ d with fs := withF f d.fs } : DV).fs.length c9)
        have hb9 := bel_set Qb (i := 0) (b := w.heap.size) (Nat.le_refl _) (.slice p9 ({ d with fs := withF f d.fs } : DV).fs.length c9)
        have F0 := hO7.fatO (fun b hb => by rcases hb with hb | hb | hb <;> omega)
        have F1 := F0.grown (grown_cell w7 w.heap.size 0 (.slice p9 ({ d with fs := withF f d.fs } : DV).fs.length c9)) (fun b hb => .inl (by simp only [Option.some.injEq] at hb; exact hb.symm))
        generalize hW9 : w7.setCell ⟨w.heap.size, 0, none⟩ (.slice p9 ({ d with fs := withF f d.fs } : DV).fs.length c9) = w9 at R09 R29 hb9 F1
        have R2a := R29.row #[.slice p9 ({ d with fs := withF f d.fs } : DV).fs.length c9, .int .i64 d.room, .int .i64 d.arm, .bool d.dead]
        have hb10 := bel_row hb9 (b := w.heap.size + 2) (by omega) #[.slice p9 ({ d with fs := withF f d.fs } : DV).fs.length c9, .int .i64 d.room, .int .i64 d.arm, .bool d.dead]
        have F2 := (F1.grown (grown_row w9 (w.heap.size + 2) #[.slice p9 ({ d with fs := withF f d.fs } : DV).fs.length c9, .int .i64 d.room, .int .i64 d.arm, .bool d.dead]) (fun b hb => .inr (.inr (by simp only [Option.some.injEq] at hb; exact hb.symm)))).has
        rw [HV2.out] at F2
        clear F0 F1 hb9 hO7 Q0 Q2 Qb
        go_wp2_with (first | rw [hW9] | refine load_r 26 _ rfl rfl _ rfl R09 Try.underlying26 rfl size26 ?_ | refine store_r rfl 26 _ _ rfl _ _ rfl rfl R29 size26 rfl (by simp [Value.oneCell']) ?_)
        refine bodyPost_ret (results_r rfl rfl R2a rfl Try.underlying26 size26) rfl ?_
        exact ⟨_, _, rfl, F2, hb10⟩
      · have HV2 : Hid (ys.map (·.1) = ({ d with fs := withF f d.fs } : DV).fs) := by
          show _ = _
          have h1 := HV.out
          simp only [wiF, if_true, List.append_nil] at h1
          exact h1
        clear HV k0 f0 R1
        have HYL : Hid (ys.length = ({ d with fs := withF f d.fs } : DV).fs.length) := by
          show _ = _
          rw [← HV2.out, List.length_map]
        obtain ⟨p9, c9, rfl⟩ := own_sl hO.r
        rw [HYL.out] at hO ⊢
        have k9 : wr.cell? ⟨w.heap.size, 0, none⟩ = some (.slice q d.fs.length c) := R0.cell 0
        have e9 : wr.frozen? ⟨w.heap.size, 0, none⟩ = false := R0.frozen 0
        have R09 : Rw (wr.setCell ⟨w.heap.size, 0, none⟩ (.slice p9 ({ d with fs := withF f d.fs } : DV).fs.length c9)) w.heap.size 26 #[.slice p9 ({ d with fs := withF f d.fs } : DV).fs.length c9, .int .i64 d.room, .int .i64 d.arm, .bool d.dead] := R0.set 0 _
        have R29 := R2.setOther (q := w.heap.size) (by omega) 0 (.slice p9 ({ d with fs := withF f d.fs } : DV).fs.length c9)
        have hb9 := bel_set hbel (i := 0) (b := w.heap.size) (Nat.le_refl _) (.slice p9 ({ d with fs := withF f d.fs } : DV).fs.length c9)
        have F0 := hO.fatO (fun b hb => by rcases hb with hb | hb | hb <;> omega)
        have F1 := F0.grown (grown_cell wr w.heap.size 0 (.slice p9 ({ d with fs := withF f d.fs } : DV).fs.length c9)) (fun b hb => .inl (by simp only [Option.some.injEq] at hb; exact hb.symm))
        generalize hW9 : wr.setCell ⟨w.heap.size, 0, none⟩ (.slice p9 ({ d with fs := withF f d.fs } : DV).fs.length c9) = w9 at R09 R29 hb9 F1
        have R2a := R29.row #[.slice p9 ({ d with fs := withF f d.fs } : DV).fs.length c9, .int .i64 d.room, .int .i64 d.arm, .bool d.dead]
        have hb10 := bel_row hb9 (b := w.heap.size + 2) (by omega) #[.slice p9 ({ d with fs := withF f d.fs } : DV).fs.length c9, .int .i64 d.room, .int .i64 d.arm, .bool d.dead]
        have F2 := (F1.grown (grown_row w9 (w.heap.size + 2) #[.slice p9 ({ d with fs := withF f d.fs } : DV).fs.length c9, .int .i64 d.room, .int .i64 d.arm, .bool d.dead]) (fun b hb => .inr (.inr (by simp only [Option.some.injEq] at hb; exact hb.symm)))).has
        rw [HV2.out] at F2
        clear F0 F1 hb9 hO R0 R2 hbel
        go_wp2_with (first | rw [hW9] | refine load_r 26 _ rfl rfl _ rfl R09 Try.underlying26 rfl size26 ?_ | refine store_r rfl 26 _ _ rfl _ _ rfl rfl R29 size26 rfl (by simp [Value.oneCell']) ?_)
        refine bodyPost_ret (results_r rfl rfl R2a rfl Try.underlying26 size26) rfl ?_
        exact ⟨_, _, rfl, F2, hb10⟩
end Go.Proofs.Ytjjncmenkepcoaa
