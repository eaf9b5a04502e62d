import Derived.Test.YtjjncmenkepcoaaP12
import Derived.Deep.RegionLaw
import Derived.Lib.SliceRun
/- A disk at work: the file that it is at has these bytes. -/
namespace Go.Proofs.Ytjjncmenkepcoaa
open Go.RowKit

theorem set_both {ys : List (FV × Value)} {k : Nat} (h : k < ys.length) (u : Value) (l : List UInt8) (n : Int) : ((rows FV.cells ys).set (k * 3 + 1) u).set (k * 3 + 2) (.int .i64 n) = rows FV.cells (ys.set k (⟨ys[k].1.x, l, n⟩, u)) := by
  rw [set_data h, set_safe (by simpa using h), List.set_set]
  have e : ∀ z z' : FV × Value, FV.cells z = FV.cells z' → rows FV.cells (ys.set k z) = rows FV.cells (ys.set k z') := fun z z' e => by
    rw [List.set_eq_take_append_cons_drop, List.set_eq_take_append_cons_drop, if_pos h, if_pos h, rows_append, rows_append, rows_cons, rows_cons, e]
  refine e _ _ ?_
  simp
theorem pair_ins {A C : List (FV × Value)} {z : FV × Value} (h : (A ++ C).Pairwise Dif) (h1 : ∀ y ∈ A, Dif y z) (h2 : ∀ y ∈ C, Dif z y) : (A ++ z :: C).Pairwise Dif := by
  rw [List.pairwise_append] at h ⊢
  obtain ⟨ha, hc, hac⟩ := h
  refine ⟨ha, List.pairwise_cons.2 ⟨h2, hc⟩, fun a ha' b hb => ?_⟩
  rcases List.mem_cons.1 hb with rfl | hb
  · exact h1 a ha'
  · exact hac a ha' b hb
theorem pair_out {A C : List (FV × Value)} {M : Option (FV × Value)} (h : (A ++ (M.toList ++ C)).Pairwise Dif) : (A ++ C).Pairwise Dif := by
  refine h.sublist ?_
  exact List.Sublist.append (List.Sublist.refl A) (List.sublist_append_right _ _)
theorem set_mid {A C : List (FV × Value)} (y z : FV × Value) : (A ++ y :: C).set A.length z = A ++ z :: C := by simp
theorem mem_ins {α : Type} {A C : List α} {z y : α} (h : y ∈ A ++ z :: C) : y ∈ A ++ C ∨ y = z := by
  rcases List.mem_append.1 h with h | h
  · exact .inl (List.mem_append_left _ h)
  · rcases List.mem_cons.1 h with h | h
    · exact .inr h
    · exact .inl (List.mem_append_right _ h)
/-- The name of the file at work. -/
def nmM (x : ByteArray) (M : Option (FV × Value)) : ByteArray := match M with
  | none => x
  | some y => y.1.x
theorem exec_bs {P : Program} {a : Act} {op : Oper} {ty : TypeId} {n : Nat} {x : Operand} {v u : Value} {w w1 : World} (ho : op.op = .buildSlice ty n #[(0, x)]) (hx : a.eval x = v) (hr : (Instr.buildSlice ty n #[(0, v)]).run P w = .ok u w1) : (execOp a.eval op).run P w = .ok (.value u) w1 := by
  unfold execOp
  simp only [ho, List.map_toArray, List.map_cons, List.map_nil, hx, Sem.run_bind, hr, Result.andThen_ok, Sem.run_pure]
/-- A write into a box of another kind leaves a row of files. -/
theorem OwnG.box {w : World} {B b : Nat} {v : Value} {ys : List (FV × Value)} {cs : Array Value} (h : OwnG w B v ys) (hr : Rw w b 66 cs) (i : Nat) (u : Value) : OwnG (w.setCell ⟨b, i, none⟩ u) B v ys := ⟨own_apart h.r (grown_cell w b i u) hr (by decide), fun y hy => own_apart (h.o y hy) (grown_cell w b i u) hr (by decide), h.n⟩
abbrev St.with (s : St) (ys : List (FV × Value)) : St := { s with ys := ys, th := true }
/-- As Wk, but that nothing is said of the bytes of the file at work. -/
structure Wp (w : World) (B b : Nat) (off : Nat → Prop) (s : St) (p : Option Addr) (c : Nat) (A C : List (FV × Value)) : Prop where
  r : Rw w b 66 (wkc p c s)
  gr : w.ownsRow B 57 3 (.slice p s.ys.length c) s.ys.length (rows FV.cells s.ys)
  go : ∀ y, y ∈ A ∨ y ∈ C → w.ownsRow B 5 1 y.2 y.1.d.length (cel y.1.d)
  gn : (A ++ C).Pairwise Dif
  bB : B ≤ b
  ob : ¬ off b
  og : ∀ k, (Value.slice p s.ys.length c).ownBlock = some k → ¬ off k
  od : ∀ y, y ∈ A ∨ y ∈ C → ∀ k, y.2.ownBlock = some k → ¬ off k
  ol : ∀ k, off k → k < w.heap.size
section
variable {w w' : World} {B b : Nat} {off : Nat → Prop} {s : St} {p : Option Addr} {c : Nat} {A C : List (FV × Value)} {M : Option (FV × Value)}
theorem Spl.mem (hs : Spl s A M C) {y : FV × Value} (hy : y ∈ A ∨ y ∈ C) : y ∈ s.ys := by
  rw [hs.ys]
  rcases hy with hy | hy
  · exact List.mem_append_left _ hy
  · exact List.mem_append_right _ (List.mem_append_right _ hy)
theorem Wk.wp (h : Wk w B b off s p c) (hs : Spl s A M C) : Wp w B b off s p c A C := ⟨h.r, h.g.r, fun y hy => h.g.o y (hs.mem hy), pair_out (M := M) (by rw [← hs.ys]; exact h.g.n), h.bB, h.ob, h.og, fun y hy => h.od y (hs.mem hy), h.ol⟩
theorem Wp.later (h : Wp w B b off s p c A C) (hb : Below w.heap.size w w') : Wp w' B b off s p c A C := ⟨h.r.later hb, own_later h.gr hb, fun y hy => own_later (h.go y hy) hb, h.gn, h.bB, h.ob, h.og, h.od, fun k hk => Nat.lt_of_lt_of_le (h.ol k hk) hb.size⟩
theorem Wp.drew (h : Wp w B b off s p c A C) : Wp w.drew B b off s p c A C := h.later (Below.refl _ _).drew
theorem Wp.gl (h : Wp w B b off s p c A C) {k : Nat} (e : (Value.slice p s.ys.length c).ownBlock = some k) : B ≤ k ∧ k < w.heap.size := h.gr.lt k e
theorem Wp.bg (h : Wp w B b off s p c A C) {k : Nat} (e : (Value.slice p s.ys.length c).ownBlock = some k) : b ≠ k := by
  rintro rfl
  obtain ⟨_, cur, h2⟩ := own_heap h.gr e
  have h1 := h.r
  unfold Rw at h1
  rw [h1] at h2
  simp at h2
end
/-- What put leaves. -/
def PuPost (B b : Nat) (off : Nat → Prop) (s : St) (w : World) (e : Ending) (w' : World) : Prop := e = .returned (.tuple #[]) ∧ ∃ p c, Wk w' B b off s p c ∧ Kf off w w'
section
variable {w : World} {B b : Nat} {off : Nat → Prop} {s : St} {p : Option Addr} {c : Nat} {A C : List (FV × Value)} {M : Option (FV × Value)}
theorem Kf.cell (h : Wk w B b off s p c) (i : Nat) (u : Value) {w0 : World} (hk : Kf off w0 w) : Kf off w0 (w.setCell ⟨b, i, none⟩ u) := hk.trans (Kf.grown (grown_cell w b i u) fun g e => by
  cases e
  exact h.ob)
end
set_option maxHeartbeats 2000000 in
set_option maxRecDepth 100000 in
theorem put_any {w : World} {B b : Nat} {off : Nat → Prop} {s : St} {p : Option Addr} {c : Nat} {A C : List (FV × Value)} {M : Option (FV × Value)} (h : Wp w B b off s p c A C) (hs : Spl s A M C) (hn : s.ys.length ≤ 90) (u : Value) (l : List UInt8) (k : Int) (hu : w.ownsRow B 5 1 u l.length (cel l)) (huo : ∀ j, u.ownBlock = some j → ¬ off j) (hd : ∀ y, y ∈ A ∨ y ∈ C → ∀ j, u.ownBlock = some j → y.2.ownBlock ≠ some j) :
    Calls Try.prog 39 #[.pointer (some ⟨b, 0, none⟩), u, .int .i64 k] w (PuPost B b off (s.with (A ++ (⟨nmM s.x M, l, k⟩, u) :: C)) w) := by
  obtain ⟨pu, cu, rfl⟩ := own_sl hu
  have HU : Hid (w.ownsRow B 5 1 (.slice pu l.length cu) l.length (cel l)) := hu
  have HUO : Hid (∀ j, (Value.slice pu l.length cu).ownBlock = some j → ¬ off j) := huo
  have HD : Hid (∀ y, y ∈ A ∨ y ∈ C → ∀ j, (Value.slice pu l.length cu).ownBlock = some j → y.2.ownBlock ≠ some j) := hd
  have HW : Hid (Wp w B b off s p c A C) := h
  have HS : Hid (Spl s A M C) := hs
  have HOL : Hid (∀ j, off j → j < w.heap.size) := h.ol
  have k6 : w.cell? ⟨b, 6, none⟩ = some (.bool s.th) := h.r.cell 6
  have hth := hs.th
  rw [hth] at k6
  clear hu huo hd h hs hth
  go_enter Try.func39, Try.ntmps39
  go_upto_if 10 with fail
  go_cut [] from 11 to 33 (fun wx => ∃ p1 c1 f u0, Hid (f.x = nmM s.x M) ∧ Hid (Wp wx B b off (s.with (A ++ (f, u0) :: C)) p1 c1 A C) ∧ Hid (Kf off w wx) ∧ Hid (wx.ownsRow B 5 1 (.slice pu l.length cu) l.length (cel l)))
  case first =>
    cases M with
    | some y =>
      have HW2 : Hid (Wp w B b off (s.with (A ++ (y.1, y.2) :: C)) p c A C) := by
        have e : s.with (A ++ (y.1, y.2) :: C) = s := by
          have h1 := HS.out.ys
          have h2 := HS.out.th
          cases s
          simp only at h1 h2
          simp [h1, h2]
        rw [e]
        exact HW.out
      clear HUO HD HW HS
      go_wp2_with fail
      go_meet
      case rel => exact ⟨p, c, y.1, y.2, rfl, HW2, Kf.refl _ _, HU⟩
    | none =>
      have hys : s.ys = A ++ C := HS.out.ys
      have hpl : s.pl = A.length := HS.out.pl
      have hw := HW.out
      have hS : w.drew.cell? ⟨b, 4, none⟩ = some (.string s.x) ∧ w.drew.cell? ⟨b, 5, none⟩ = some (.int .i64 s.pl) := ⟨hw.r.cell 4, hw.r.cell 5⟩
      have k0 : w.drew.cell? ⟨b, 0, none⟩ = some (.slice p s.ys.length c) := hw.r.cell 0
      have HWd : Hid (Wp w.drew B b off s p c A C) := hw.drew
      have hin : ∀ y, y ∈ s.ys → y ∈ A ∨ y ∈ C := fun y hy => List.mem_append.1 (by rw [← hys]; exact hy)
      have hKd : Kf off w w.drew := Kf.of (Below.refl _ _).drew
      have HUd : Hid (w.drew.ownsRow B 5 1 (.slice pu l.length cu) l.length (cel l)) := HU.out
      clear HU HUO HD HW HS hw k6
      go_wp2_with fail
      refine HeldI.region (fun w' : World => w'.cell? ⟨b, 4, none⟩ = some (.string s.x) ∧ w'.cell? ⟨b, 5, none⟩ = some (.int .i64 s.pl)) (by kernel_rfl) ?_
      generalize w.drew = wd at hS HWd hKd k0 HUd ⊢
      refine HeldI.pu 0 hS ?_
      refine HeldI.pu 1 hS ?_
      refine HeldI.pu 2 hS ?_
      refine HeldI.pu 3 hS ?_
      refine HeldI.pu 4 hS ?_
      refine HeldI.pu 6 hS ?_
      refine HeldI.pu 7 hS ?_
      refine HeldI.pu 8 hS ?_
      refine HeldI.ce 9 (fun _ h => h.2) hS ?_
      refine HeldI.pu 10 hS ?_
      refine HeldI.pu 11 hS ?_
      refine HeldI.pu 12 hS ?_
      refine HeldI.ce 13 (fun _ h => h.1) hS ?_
      refine HeldI.pu 14 hS ?_
      have hba := bel_alloc (Below.refl wd.heap.size wd) (.cells (FV.cells (⟨s.x, [], 0⟩, .slice none 0 0)).toArray 57)
      have hS5 := And.intro (cell_later hba hS.1) (cell_later hba hS.2)
      have k05 := cell_later hba k0
      have R5 := rw_new wd 57 (FV.cells (⟨s.x, [], 0⟩, .slice none 0 0)).toArray
      have BO := build_file s.x (.slice none 0 0) 0 rfl wd
      refine HeldI.al2 5 15 (HeldI.wpv (v := .slice p s.ys.length c) (w1 := wd) ?hv1 hS ?_) (HeldI.wpv (w1 := wd.alloc (.cells (FV.cells (⟨s.x, [], 0⟩, .slice none 0 0)).toArray 57)) (v := .slice (some ⟨wd.heap.size, 0, none⟩) 1 1) ?hv2 hS5 ?_)
      case hv1 => go_simp
      case hv2 =>
        unfold execOp
        simp only [List.map_toArray, List.map_cons, List.map_nil, Sem.run_bind]
        first | (rw [show (Instr.buildSlice 24 1 #[(0, FLV s.x (.slice none 0 0) 0)]).run Try.prog wd = _ from BO]; rfl) | (go_simp)
      refine HeldI.vl (w1 := wd.alloc (.cells (FV.cells (⟨s.x, [], 0⟩, .slice none 0 0)).toArray 57)) (v := .slice (some ⟨wd.heap.size, 0, none⟩) 1 1) 15 ?hv hS5 ?_
      case hv =>
        unfold execOp
        simp only [List.map_toArray, List.map_cons, List.map_nil, Sem.run_bind]
        first | (rw [show (Instr.buildSlice 24 1 #[(0, FLV s.x (.slice none 0 0) 0)]).run Try.prog wd = _ from BO]; rfl) | (go_simp)
      rotate_left
      refine HeldI.vl (w1 := wd.alloc (.cells (FV.cells (⟨s.x, [], 0⟩, .slice none 0 0)).toArray 57)) (v := .slice p s.ys.length c) 5 ?hv5 hS5 ?_
      case hv5 => go_simp
      all_goals
        have H5 := HWd.out.later hba
        have HU5 := own_later HUd.out hba
        have hK5 : Kf off w _ := hKd.trans (Kf.of hba)
        have hvb : ∀ k, (Value.slice p s.ys.length c).ownBlock = some k → wd.heap.size ≠ k := fun k e => by
          have := HWd.out.gl e
          omega
        generalize wd.alloc (.cells (FV.cells (⟨s.x, [], 0⟩, .slice none 0 0)).toArray 57) = w5 at hS5 R5 H5 hK5 hba HU5 ⊢
        have C6 := insertF_any B (.slice p s.ys.length c) s.ys s.pl wd.heap.size (⟨s.x, [], 0⟩, .slice none 0 0) w5 H5.gr (by rw [hys, hpl]; simp) (by omega) (by have := H5.bB; have := H5.r.lt; omega) (by intro v hv; simp at hv; rcases hv with rfl | rfl | rfl <;> rfl) (FV.ones fun y hy => own_sh (H5.go y (hin y hy))) R5 hvb
        refine HeldI.kn 16 C6 ?_
        clear C6
        rintro e w6 ⟨u2, rfl, hown, hkp, hloc, hbB⟩
        rw [hys, hpl, List.take_left, List.drop_left] at hown
        have hl1 : (A ++ (⟨s.x, [], 0⟩, Value.slice none 0 0) :: C).length = s.ys.length + 1 := by rw [hys]; simp; omega
        rw [← hys] at hown
        obtain ⟨p1, c1, rfl⟩ := own_sl hown
        have hb5 : b < w5.heap.size := H5.r.lt
        have hbe : w6.heap[b]? = w5.heap[b]? := hkp b hb5 fun e => H5.bg e rfl
        have hS6 : w6.cell? ⟨b, 4, none⟩ = some (.string s.x) ∧ w6.cell? ⟨b, 5, none⟩ = some (.int .i64 s.pl) := by
          rw [World.cell?_of_block (w := w5) (a := ⟨b, 4, none⟩) hbe, World.cell?_of_block (w := w5) (a := ⟨b, 5, none⟩) hbe]
          exact hS5
        refine ⟨_, rfl, hS6, ?_⟩
        have R6 : Rw w6 b 66 (wkc p c s) := hbe.trans H5.r
        have hK6 : Kf off w5 w6 := ⟨hbB.os, hbB.tape, hbB.output, hbB.size, fun k h1 h2 => hkp k h1 fun e => H5.og k e h2⟩
        have HT6 : Hid (OwnG w6 B (.slice p1 (s.ys.length + 1) c1) (A ++ (⟨s.x, [], 0⟩, .slice none 0 0) :: C)) := by
          refine ⟨by rw [hl1]; exact hown, fun y hy => ?_, pair_ins H5.gn (fun y _ k _ e => by cases e) (fun y _ k e => by cases e)⟩
          rcases (show y ∈ s.ys ∨ y = (⟨s.x, [], 0⟩, .slice none 0 0) by rw [hys]; exact mem_ins hy) with h' | rfl
          · exact own_keep (H5.go y (hin y h')) fun k e => hkp k ((H5.go y (hin y h')).lt k e).2 fun e2 => by
              obtain ⟨_, c1', h1⟩ := own_heap H5.gr e2
              obtain ⟨_, c2', h2⟩ := own_heap (H5.go y (hin y h')) e
              rw [h1] at h2
              simp at h2
          · exact World.ownsRow_nil _ _ _ _
        have HU6 : w6.ownsRow B 5 1 (.slice pu l.length cu) l.length (cel l) := own_keep HU5 fun k e => hkp k (HU5.lt k e).2 fun e2 => by
          obtain ⟨_, c1', h1⟩ := own_heap H5.gr e2
          obtain ⟨_, c2', h2⟩ := own_heap HU5 e
          rw [h1] at h2
          simp at h2
        have hog : ∀ k, (Value.slice p1 (s.ys.length + 1) c1).ownBlock = some k → ¬ off k := fun k e hk => (hloc k e).elim (fun e => H5.og k e hk) fun e => by
          have := HWd.out.ol k hk
          have := hba.size
          omega
        have hod : ∀ y ∈ A ++ (⟨s.x, [], 0⟩, Value.slice none 0 0) :: C, ∀ k, y.2.ownBlock = some k → ¬ off k := fun y hy => by
          rcases (show y ∈ s.ys ∨ y = (⟨s.x, [], 0⟩, .slice none 0 0) by rw [hys]; exact mem_ins hy) with h' | rfl
          · exact H5.od y (hin y h')
          · intro k e
            cases e
        have hol : ∀ k, off k → k < w6.heap.size := fun k hk => Nat.lt_of_lt_of_le (H5.ol k hk) hbB.size
        have hbB0 := H5.bB
        have hob0 := H5.ob
        have hK60 := hK5.trans hK6
        clear hown hkp hloc hbB hbe hK6 hK5 H5 R5 hS5 hba hvb hb5 hKd HWd
        refine HeldI.pu 17 hS6 ?_
        refine HeldI.pu 18 hS6 ?_
        refine HeldI.pu 19 hS6 ?_
        have R7 := R6.set 0 (.slice p1 (s.ys.length + 1) c1)
        have hK7 : Kf off w (w6.setCell ⟨b, 0, none⟩ (.slice p1 (s.ys.length + 1) c1)) := hK60.trans (Kf.grown (grown_cell w6 b 0 _) fun g e => by
          cases e
          exact hob0)
        have HT7 : Hid (OwnG (w6.setCell ⟨b, 0, none⟩ (.slice p1 (s.ys.length + 1) c1)) B (.slice p1 (s.ys.length + 1) c1) (A ++ (⟨s.x, [], 0⟩, .slice none 0 0) :: C)) := HT6.out.box R6 0 _
        have R8 := R7.set 6 (.bool true)
        have HU7 := own_apart HU6 (grown_cell w6 b 0 (.slice p1 (s.ys.length + 1) c1)) R6 (by decide)
        have hS7 : (w6.setCell ⟨b, 0, none⟩ (.slice p1 (s.ys.length + 1) c1)).cell? ⟨b, 4, none⟩ = some (.string s.x) ∧ (w6.setCell ⟨b, 0, none⟩ (.slice p1 (s.ys.length + 1) c1)).cell? ⟨b, 5, none⟩ = some (.int .i64 s.pl) := ⟨R7.cell 4, R7.cell 5⟩
        refine HeldI.ss 20 (store_b24 (R6.cell 0) (R6.frozen 0) p1 (s.ys.length + 1) c1) hS7 ?_
        refine HeldI.dn ?_
        clear hS6 hS7 R6 HT6 hK60
        generalize w6.setCell ⟨b, 0, none⟩ (.slice p1 (s.ys.length + 1) c1) = w7 at R7 R8 hK7 HT7 HU7 ⊢
        have k67 : w7.cell? ⟨b, 6, none⟩ = some (.bool s.th) := R7.cell 6
        have f67 := R7.frozen 6
        have hW8 : Wp (w7.setCell ⟨b, 6, none⟩ (.bool true)) B b off (s.with (A ++ (⟨s.x, [], 0⟩, .slice none 0 0) :: C)) p1 c1 A C := by
          have hT8 := HT7.out.box R7 6 (.bool true)
          have hmi : ∀ y, y ∈ A ∨ y ∈ C → y ∈ A ++ (⟨s.x, [], 0⟩, Value.slice none 0 0) :: C := fun y hy => hy.elim (List.mem_append_left _) fun hy => List.mem_append_right _ (List.mem_cons_of_mem _ hy)
          refine ⟨?_, ?_, fun y hy => hT8.o y (hmi y hy), pair_out (M := some (⟨s.x, [], 0⟩, Value.slice none 0 0)) hT8.n, hbB0, hob0, ?_, fun y hy => hod y (hmi y hy), fun k hk => ?_⟩
          · show Rw _ b 66 #[.slice p1 (A ++ (⟨s.x, [], 0⟩, Value.slice none 0 0) :: C).length c1, _, _, _, _, _, _]
            rw [hl1]
            exact R8
          · show World.ownsRow _ B 57 3 (.slice p1 (A ++ (⟨s.x, [], 0⟩, Value.slice none 0 0) :: C).length c1) _ _
            rw [hl1]
            have := hT8.r
            rw [hl1] at this
            exact this
          · show ∀ k, (Value.slice p1 (A ++ (⟨s.x, [], 0⟩, Value.slice none 0 0) :: C).length c1).ownBlock = some k → ¬ off k
            rw [hl1]
            exact hog
          · have := HOL.out k hk
            have := hK7.size
            simp
            omega
        have HW8 : Hid (Wp (w7.setCell ⟨b, 6, none⟩ (.bool true)) B b off (s.with (A ++ (⟨s.x, [], 0⟩, .slice none 0 0) :: C)) p1 c1 A C) := hW8
        have HK8 : Hid (Kf off w (w7.setCell ⟨b, 6, none⟩ (.bool true))) := hK7.trans (Kf.grown (grown_cell w7 b 6 _) fun g e => by
          cases e
          exact hob0)
        have HU8 : Hid ((w7.setCell ⟨b, 6, none⟩ (.bool true)).ownsRow B 5 1 (.slice pu l.length cu) l.length (cel l)) := own_apart HU7 (grown_cell w7 b 6 (.bool true)) R7 (by decide)
        clear hW8 hK7 HT7 R8 hog hod hol HU5 HU6 HU7 HUd
        go_wp2_with fail
        go_meet
        case rel => exact ⟨p1, c1, ⟨s.x, [], 0⟩, .slice none 0 0, rfl, HW8, HK8, HU8⟩
  case rest =>
    obtain ⟨p1, c1, f, u0, HF, HW1, HK1, HU1⟩ := hcut
    have hlen : (A ++ (f, u0) :: C).length ≤ 91 := by
      have h1 := congrArg List.length HS.out.ys
      simp only [List.length_append, List.length_cons] at h1 ⊢
      omega
    have hpl : s.pl = A.length := HS.out.pl
    have hk : s.pl < (A ++ (f, u0) :: C).length := by rw [hpl]; simp
    obtain ⟨g, hgp⟩ : ∃ g, p1 = some ⟨g, 0, none⟩ := by
      rcases HW1.out.gr.2 with ⟨e, h0⟩ | ⟨g, cap, cur, e, _⟩
      · have h0' : (A ++ (f, u0) :: C).length = 0 := h0
        omega
      · simp only [Value.slice.injEq] at e
        exact ⟨g, e.1⟩
    subst hgp
    have W1 : wc.drew.ownsRow B 57 3 (.slice (some ⟨g, 0, none⟩) (A ++ (f, u0) :: C).length c1) (A ++ (f, u0) :: C).length (rows FV.cells (A ++ (f, u0) :: C)) := HW1.out.gr
    have hS : wc.drew.cell? ⟨b, 0, none⟩ = some (.slice (some ⟨g, 0, none⟩) (A ++ (f, u0) :: C).length c1) ∧ wc.drew.cell? ⟨b, 5, none⟩ = some (.int .i64 s.pl) := ⟨HW1.out.r.cell 0, HW1.out.r.cell 5⟩
    have hgb : b ≠ g := HW1.out.bg rfl
    have HWd : Hid (Wp wc.drew B b off (s.with (A ++ (f, u0) :: C)) (some ⟨g, 0, none⟩) c1 A C) := HW1.out.drew
    have HKd : Hid (Kf off w wc.drew) := HK1.out.trans (Kf.of (Below.refl _ _).drew)
    have HUd : Hid (wc.drew.ownsRow B 5 1 (.slice pu l.length cu) l.length (cel l)) := HU1.out
    have HSB := set_both hk (.slice pu l.length cu) l k
    have hfx : (A ++ (f, u0) :: C)[s.pl].1.x = nmM s.x M := by rw [← HF.out]; simp only [hpl]; simp
    rw [hfx] at HSB
    have HSM : (A ++ (f, u0) :: C).set s.pl (⟨nmM s.x M, l, k⟩, .slice pu l.length cu) = A ++ (⟨nmM s.x M, l, k⟩, .slice pu l.length cu) :: C := by rw [hpl]; exact set_mid _ _
    rw [HSM] at HSB
    have hlen2 : (A ++ (⟨nmM s.x M, l, k⟩, Value.slice pu l.length cu) :: C).length = (A ++ (f, u0) :: C).length := by simp
    clear HS HW HU hn hfx HSM HF HW1 HK1 HU1 hpl
    obtain ⟨N, HN⟩ := hid_ex (A ++ (f, u0) :: C).length
    rw [HN.out] at hS W1 hk hlen hlen2
    have hk0 : (0 : Int) ≤ (s.pl : Int) := by omega
    have hk1 : (s.pl : Int) < (N : Int) := by omega
    go_wp2_with fail
    refine HeldI.region (fun w' : World => w'.cell? ⟨b, 0, none⟩ = some (.slice (some ⟨g, 0, none⟩) N c1) ∧ w'.cell? ⟨b, 5, none⟩ = some (.int .i64 s.pl)) (by kernel_rfl) ?_
    generalize wc.drew = wd at hS W1 HWd HKd HUd ⊢
    iterate 1 (refine HeldI.pu 0 hS ?_)
    refine HeldI.pu 1 hS ?_
    refine HeldI.pu 2 hS ?_
    refine HeldI.pu 3 hS ?_
    refine HeldI.ce 4 (fun _ h => h.1) hS ?_
    refine HeldI.pu 5 hS ?_
    refine HeldI.pu 6 hS ?_
    refine HeldI.pu 7 hS ?_
    refine HeldI.ce 8 (fun _ h => h.2) hS ?_
    refine HeldI.pu 9 hS ?_
    refine HeldI.pu 10 hS ?_
    refine HeldI.pu 11 hS ?_
    refine HeldI.pu 12 hS ?_
    refine HeldI.ce 13 (fun _ h => h.1) hS ?_
    refine HeldI.pu 14 hS ?_
    refine HeldI.pu 15 hS ?_
    refine HeldI.pu 16 hS ?_
    refine HeldI.ce 17 (fun _ h => h.2) hS ?_
    refine HeldI.pu 18 hS ?_
    refine HeldI.pu 19 hS ?_
    refine HeldI.pu 20 hS ?_
    refine HeldI.pu 21 hS ?_
    obtain ⟨⟨old, hold⟩, hfz⟩ := row_there W1 (s.pl * 3 + 1) (by omega)
    obtain ⟨O2, G2⟩ := W1.stored (s.pl * 3 + 1) (.slice pu l.length cu)
    have hS2 : (wd.setCell ⟨g, s.pl * 3 + 1, none⟩ (.slice pu l.length cu)).cell? ⟨b, 0, none⟩ = some (.slice (some ⟨g, 0, none⟩) N c1) ∧ (wd.setCell ⟨g, s.pl * 3 + 1, none⟩ (.slice pu l.length cu)).cell? ⟨b, 5, none⟩ = some (.int .i64 s.pl) := by
      rw [World.cell?_of_block (w := wd) (a := ⟨b, 0, none⟩) (Below.heap_setCell wd _ _ _ hgb), World.cell?_of_block (w := wd) (a := ⟨b, 5, none⟩) (Below.heap_setCell wd _ _ _ hgb)]
      exact hS
    refine HeldI.ss 22 (store_b22 hold hfz pu l.length cu) hS2 ?_
    refine HeldI.pu 23 hS2 ?_
    refine HeldI.pu 24 hS2 ?_
    obtain ⟨⟨old2, hold2⟩, hfz2⟩ := row_there O2 (s.pl * 3 + 2) (by omega)
    obtain ⟨O3, G3⟩ := O2.stored (s.pl * 3 + 2) (.int .i64 k)
    rw [HSB] at O3
    have hG : wd.grownBy ((wd.setCell ⟨g, s.pl * 3 + 1, none⟩ (.slice pu l.length cu)).setCell ⟨g, s.pl * 3 + 2, none⟩ (.int .i64 k)) (some g) := ⟨G3.os.trans G2.os, G3.tape.trans G2.tape, G3.output.trans G2.output, Nat.le_trans G2.size G3.size, fun j hj hne => (G3.block j (Nat.lt_of_lt_of_le hj G2.size) hne).trans (G2.block j hj hne)⟩
    have hS3 : ((wd.setCell ⟨g, s.pl * 3 + 1, none⟩ (.slice pu l.length cu)).setCell ⟨g, s.pl * 3 + 2, none⟩ (.int .i64 k)).cell? ⟨b, 0, none⟩ = some (.slice (some ⟨g, 0, none⟩) N c1) ∧ ((wd.setCell ⟨g, s.pl * 3 + 1, none⟩ (.slice pu l.length cu)).setCell ⟨g, s.pl * 3 + 2, none⟩ (.int .i64 k)).cell? ⟨b, 5, none⟩ = some (.int .i64 s.pl) := by
      rw [World.cell?_of_block (w := wd.setCell ⟨g, s.pl * 3 + 1, none⟩ (.slice pu l.length cu)) (a := ⟨b, 0, none⟩) (Below.heap_setCell _ _ _ _ hgb), World.cell?_of_block (w := wd.setCell ⟨g, s.pl * 3 + 1, none⟩ (.slice pu l.length cu)) (a := ⟨b, 5, none⟩) (Below.heap_setCell _ _ _ _ hgb)]
      exact hS2
    refine HeldI.ss 25 (store_b3 hold2 hfz2 k) hS3 ?_
    refine HeldI.dn ?_
    clear hold hold2 hfz hfz2 hS hS2 hS3 G2 G3 O2 HSB
    generalize (wd.setCell ⟨g, s.pl * 3 + 1, none⟩ (.slice pu l.length cu)).setCell ⟨g, s.pl * 3 + 2, none⟩ (.int .i64 k) = w9 at O3 hG ⊢
    obtain ⟨_, cur, hcur⟩ := row_cur W1
    have hW9 : Wk w9 B b off (s.with (A ++ (⟨nmM s.x M, l, k⟩, .slice pu l.length cu) :: C)) (some ⟨g, 0, none⟩) c1 := by
      have H := HWd.out
      have hlenE : (A ++ (⟨nmM s.x M, l, k⟩, Value.slice pu l.length cu) :: C).length = (A ++ (f, u0) :: C).length := by simp
      have hr : w9.heap[b]? = wd.heap[b]? := hG.block b H.r.lt fun e => by
        cases e
        exact hgb rfl
      refine ⟨?_, ⟨?_, fun y hy => ?_, ?_⟩, H.bB, H.ob, ?_, fun y hy j e => ?_, fun j hj => Nat.lt_of_lt_of_le (H.ol j hj) hG.size⟩
      · show Rw w9 b 66 #[.slice (some ⟨g, 0, none⟩) (A ++ (⟨nmM s.x M, l, k⟩, Value.slice pu l.length cu) :: C).length c1, _, _, _, _, _, _]
        rw [hlenE]
        exact hr.trans H.r
      · show w9.ownsRow B 57 3 (.slice (some ⟨g, 0, none⟩) (A ++ (⟨nmM s.x M, l, k⟩, Value.slice pu l.length cu) :: C).length c1) (A ++ (⟨nmM s.x M, l, k⟩, Value.slice pu l.length cu) :: C).length _
        rw [hlen2]
        exact O3
      · rcases mem_ins hy with h' | rfl
        · exact own_apart (H.go y (List.mem_append.1 h')) hG hcur (by decide)
        · exact own_apart HUd.out hG hcur (by decide)
      · refine pair_ins H.gn (fun y hy j e1 e2 => HD.out y (.inl hy) j e2 e1) (fun y hy j e1 e2 => HD.out y (.inr hy) j e1 e2)
      · show ∀ j, (Value.slice (some ⟨g, 0, none⟩) (A ++ (⟨nmM s.x M, l, k⟩, Value.slice pu l.length cu) :: C).length c1).ownBlock = some j → ¬ off j
        exact H.og
      · rcases mem_ins hy with h' | rfl
        · exact H.od y (List.mem_append.1 h') j e
        · exact HUO.out j e
    have HW9 : Hid (Wk w9 B b off (s.with (A ++ (⟨nmM s.x M, l, k⟩, .slice pu l.length cu) :: C)) (some ⟨g, 0, none⟩) c1) := hW9
    have HK9 : Hid (Kf off w w9) := HKd.out.trans (Kf.grown hG fun j e => by
      cases e
      exact HWd.out.og g rfl)
    clear hW9 HWd HKd HUd HUO HD HOL W1 O3 hG hcur
    go_wp2_with fail
    refine bodyPost_ret (v := .tuple #[]) (by simp [results, Try.results39, go_sem]) rfl ⟨rfl, _, _, HW9.out, HK9.out⟩
end Go.Proofs.Ytjjncmenkepcoaa
/- slices.Delete of one file out of a row of one's own. -/
namespace Go.Proofs.Ytjjncmenkepcoaa
open Go.RowKit

def setAt (xs : List Value) : Nat → List Value → List Value
  | _, [] => xs
  | j, u :: r => setAt (xs.set j u) (j + 1) r
theorem setAt_mid : ∀ (vs m a c : List Value), m.length = vs.length → setAt (a ++ m ++ c) a.length vs = a ++ vs ++ c
  | [], m, a, c, h => by
    obtain rfl := List.length_eq_zero_iff.1 h
    rfl
  | u :: r, [], a, c, h => by simp at h
  | u :: r, y :: m, a, c, h => by
    have e : (a ++ y :: m ++ c).set a.length u = (a ++ [u]) ++ m ++ c := by simp
    have ih := setAt_mid r m (a ++ [u]) c (by simpa using h)
    rw [List.length_append] at ih
    unfold setAt
    rw [e]
    simpa using ih
theorem own_cells {B e S g n cap : Nat} : ∀ (vs : List Value) (j : Nat) (w : World) (xs : List Value), w.ownsRow B e S (.slice (some ⟨g, 0, none⟩) n cap) n xs → (w.setCells g j vs).ownsRow B e S (.slice (some ⟨g, 0, none⟩) n cap) n (setAt xs j vs) ∧ w.grownBy (w.setCells g j vs) (some g)
  | [], j, w, xs, h => ⟨h, ⟨rfl, rfl, rfl, Nat.le_refl _, fun _ _ _ => rfl⟩⟩
  | u :: r, j, w, xs, h => by
    obtain ⟨h1, h2⟩ := h.stored j u
    obtain ⟨h3, h4⟩ := own_cells r (j + 1) _ _ h1
    exact ⟨h3, ⟨h4.os.trans h2.os, h4.tape.trans h2.tape, h4.output.trans h2.output, Nat.le_trans h2.size h4.size, fun k hk hne => (h4.block k (Nat.lt_of_lt_of_le hk h2.size) hne).trans (h2.block k hk hne)⟩⟩
theorem own_pre {w : World} {B e S g n m cap : Nat} {xs : List Value} (h : w.ownsRow B e S (.slice (some ⟨g, 0, none⟩) n cap) n xs) (hm : m ≤ n) : w.ownsRow B e S (.slice (some ⟨g, 0, none⟩) m cap) m (xs.take (m * S)) := by
  obtain ⟨h1, ⟨h2, _⟩ | ⟨g', cap', cur, h2, hB, hg, h3, h4, h5, h6⟩⟩ := h
  · simp at h2
  · simp only [Value.slice.injEq, Option.some.injEq, Addr.mk.injEq, and_true, true_and] at h2
    obtain ⟨rfl, rfl⟩ := h2
    have hmn : m * S ≤ n * S := Nat.mul_le_mul_right _ hm
    refine ⟨by rw [List.length_take, h1]; omega, .inr ⟨g, cap, cur, rfl, hB, hg, by omega, h4, h5, ?_⟩⟩
    rw [← h6, List.take_take, Nat.min_eq_left hmn]
abbrev z3 : List Value := [.string noS, .slice none 0 0, .int .i64 0]
theorem zeroF (w : World) : (zeroValue 57).run Try.prog w = .ok (.agg #[.string noS, .slice none 0 0, .int .i64 0]) w := by rfl
theorem run_clear_file (w : World) (ty : TypeId) (b o c : Nat) (hc : ∀ j, j < 3 → (w.cell? ⟨b, o + j, none⟩).isSome = true) (hf : ∀ j, j < 3 → w.frozen? ⟨b, o + j, none⟩ = false) : (Builtin.clear_ #[24] ty #[.slice (some ⟨b, o, none⟩) 1 c]).run Try.prog w = .ok (.tuple #[]) (w.setCells b o z3) := by
  have hst := run_storeCells_cells (P := Try.prog) b o z3 0 w (by simpa using hc) (by simpa using hf) (by intro v hv; simp at hv; rcases hv with rfl | rfl | rfl <;> rfl)
  simp only [Nat.add_zero] at hst
  have hz : (Builtin.zeroCells (Value.agg #[.string noS, .slice none 0 0, .int .i64 0]).cells 1).toList = z3 := by first | kernel_rfl | (simp [Builtin.zeroCells, Value.cells]; done)
  simp only [Builtin.clear_, List.getElem?_toArray, List.getElem?_cons_zero, Sem.run_bind, run_underlying Try.underlying24, zeroF, Result.andThen_ok, hz, hst]
  rfl
theorem del_lists (A C : List (FV × Value)) (y : FV × Value) : (setAt (setAt (rows FV.cells (A ++ y :: C)) (A.length * 3) (rows FV.cells C)) ((A.length + C.length) * 3) z3).take ((A.length + C.length) * 3) = rows FV.cells (A ++ C) := by
  have hA := rows_length FV.len A
  have hC := rows_length FV.len C
  have hy := FV.len y
  have e1 : rows FV.cells (A ++ y :: C) = rows FV.cells A ++ (FV.cells y ++ rows FV.cells C).take (C.length * 3) ++ (FV.cells y ++ rows FV.cells C).drop (C.length * 3) := by
    rw [rows_append, rows_cons, List.append_assoc, List.take_append_drop]
  have e2 : ((FV.cells y ++ rows FV.cells C).take (C.length * 3)).length = (rows FV.cells C).length := by
    rw [List.length_take, List.length_append, hy, hC]
    omega
  rw [e1, ← hA, setAt_mid _ _ _ _ e2]
  have e3 : ((FV.cells y ++ rows FV.cells C).drop (C.length * 3)).length = z3.length := by
    rw [List.length_drop, List.length_append, hy, hC]
    simp
  have e4 : (A.length + C.length) * 3 = (rows FV.cells A ++ rows FV.cells C).length := by
    rw [List.length_append, hA, hC, Nat.add_mul]
  have h5 := setAt_mid z3 ((FV.cells y ++ rows FV.cells C).drop (C.length * 3)) (rows FV.cells A ++ rows FV.cells C) [] e3
  rw [List.append_nil, List.append_nil] at h5
  rw [e4, h5, List.take_left, rows_append]
set_option maxHeartbeats 2000000 in
set_option maxRecDepth 100000 in
theorem delete_any {w : World} {B g c : Nat} {A C : List (FV × Value)} {y : FV × Value} (hown : w.ownsRow B 57 3 (.slice (some ⟨g, 0, none⟩) (A ++ y :: C).length c) (A ++ y :: C).length (rows FV.cells (A ++ y :: C))) (hone : ∀ u ∈ rows FV.cells (A ++ y :: C), u.oneCell' = true) (hn : (A ++ y :: C).length ≤ 90) :
    Calls Try.prog 55 #[.slice (some ⟨g, 0, none⟩) (A ++ y :: C).length c, .int .i64 A.length, .int .i64 ((A.length : Int) + 1)] w fun e w' => e = .returned (.slice (some ⟨g, 0, none⟩) (A ++ C).length c) ∧ w'.ownsRow B 57 3 (.slice (some ⟨g, 0, none⟩) (A ++ C).length c) (A ++ C).length (rows FV.cells (A ++ C)) ∧ w.grownBy w' (some g) := by
  obtain ⟨i0, hi0, hz0, hz1, hz2⟩ := info_split infoF
  have hl : (A ++ y :: C).length = A.length + C.length + 1 := by simp; omega
  have hl2 : (A ++ C).length = A.length + C.length := by simp
  have hdl := del_lists A C y
  have hcl := rows_length FV.len C
  have hc1 : ∀ u ∈ rows FV.cells C, u.oneCell' = true := fun u hu => hone u (by rw [rows_append, rows_cons]; simp [hu])
  have hat : ∀ t u, (rows FV.cells C)[t]? = some u → (rows FV.cells (A ++ y :: C))[(A.length + 1) * 3 + t]? = some u := fun t u hu => by
    have e : rows FV.cells (A ++ y :: C) = (rows FV.cells A ++ FV.cells y) ++ rows FV.cells C := by rw [rows_append, rows_cons, List.append_assoc]
    have e2 : (rows FV.cells A ++ FV.cells y).length = (A.length + 1) * 3 := by rw [List.length_append, rows_length FV.len, FV.len]; omega
    rw [e, List.getElem?_append_right (by omega), e2, Nat.add_sub_cancel_left]
    exact hu
  rw [hl] at hown hn ⊢
  rw [hl2]
  obtain ⟨xs, HXS⟩ := hid_ex (rows FV.cells (A ++ y :: C))
  rw [HXS.out] at hown hdl hat
  obtain ⟨news, HNW⟩ := hid_ex (rows FV.cells C)
  rw [HNW.out] at hdl hcl hc1 hat
  obtain ⟨rs, HRS⟩ := hid_ex (rows FV.cells (A ++ C))
  rw [HRS.out] at hdl ⊢
  obtain ⟨i, HI⟩ := hid_ex A.length
  rw [HI.out] at hown hn hdl hat ⊢
  obtain ⟨m, HM⟩ := hid_ex C.length
  rw [HM.out] at hown hn hdl hcl ⊢
  have hxl : xs.length = (i + m + 1) * 3 := hown.1
  have hcap : i + m + 1 ≤ c ∧ c ≤ maxLen := by
    obtain ⟨_, ⟨h2, _⟩ | ⟨g', cap', cur, h2, hB, hg, h3, h4, _⟩⟩ := hown
    · simp at h2
    · simp only [Value.slice.injEq] at h2
      omega
  have hcm := maxLen_lt hcap.2
  have hcn := hcap.1
  obtain ⟨Ad, hA, hsrc⟩ : ∃ Ad : Addr, (if c = i + 1 then (some (⟨g, 0, none⟩ : Addr)) else some ⟨g, (i + 1) * 3, none⟩) = some Ad ∧ Hid (∀ t u, news[t]? = some u → w.drew.cell? (Ad.add t) = some u) := by
    by_cases h : c = i + 1
    · refine ⟨_, by rw [if_pos h], fun t u hu => ?_⟩
      have := (List.getElem?_eq_some_iff.1 hu).1
      omega
    · refine ⟨_, by rw [if_neg h], fun t u hu => ?_⟩
      rw [Addr.add_mid]
      show w.cell? _ = _
      rw [hown.cellAt _ (by have := (List.getElem?_eq_some_iff.1 (hat t u hu)).1; omega)]
      exact hat t u hu
  have s1 : Hid (news.length = m * 3) := hcl
  have s2 : Hid (∀ u ∈ news, u.oneCell' = true) := hc1
  have s3 : Hid (∀ t, t < news.length → (w.drew.cell? ⟨g, 0 + i * 3 + t, none⟩).isSome = true ∧ w.drew.frozen? ⟨g, 0 + i * 3 + t, none⟩ = false) := fun t ht => by
    obtain ⟨⟨v, hv⟩, hf⟩ := row_there hown (0 + i * 3 + t) (by omega)
    exact ⟨by show (w.cell? _).isSome = true; rw [hv]; rfl, hf⟩
  obtain ⟨O1, G1⟩ := own_cells news (i * 3) w.drew xs hown
  obtain ⟨O2, G2⟩ := own_cells z3 ((i + m) * 3) _ _ O1
  obtain ⟨W1, hW1⟩ : ∃ W1, W1 = w.drew.setCells g (0 + i * 3) news := ⟨_, rfl⟩
  have hcl : ∀ ty, (Builtin.clear_ #[24] ty #[.slice (some ⟨g, (i + m) * 3, none⟩) 1 (c - (i + m))]).run Try.prog W1 = .ok (.tuple #[]) (W1.setCells g ((i + m) * 3) z3) := fun ty => run_clear_file W1 ty g ((i + m) * 3) _ (fun j hj => by
    rw [hW1, Nat.zero_add]
    obtain ⟨⟨v, hv⟩, hf⟩ := row_there O1 ((i + m) * 3 + j) (by omega)
    rw [hv]
    rfl) (fun j hj => by
    rw [hW1, Nat.zero_add]
    exact (row_there O1 ((i + m) * 3 + j) (by omega)).2)
  have HW : Hid (W1 = w.drew.setCells g (0 + i * 3) news) := hW1
  have hfin : Hid ((W1.setCells g ((i + m) * 3) z3).ownsRow B 57 3 (.slice (some ⟨g, 0, none⟩) (i + m) c) (i + m) rs ∧ w.grownBy (W1.setCells g ((i + m) * 3) z3) (some g)) := by
    rw [hW1, Nat.zero_add]
    have O3 := own_pre O2 (m := i + m) (by omega)
    rw [hdl] at O3
    exact ⟨O3, ⟨G2.os.trans G1.os, G2.tape.trans G1.tape, G2.output.trans G1.output, Nat.le_trans G1.size G2.size, fun k hk hne => (G2.block k (Nat.lt_of_lt_of_le hk G1.size) hne).trans (G1.block k hk hne)⟩⟩
  clear hW1 O1 O2 G1 G2 hdl hat hc1 hown hxl hone
  have hb1 : (0 : Int) ≤ (i : Int) + 1 := by omega
  have hb2 : (i : Int) + 1 ≤ (c : Int) := by omega
  have hb3 : ((i : Int) + 1).toNat = i + 1 := by omega
  have hb4 : ¬ (i : Int) = (i : Int) + 1 := by omega
  have hic : i ≤ c := by omega
  have hb5 : (i : Int) + 1 ≤ (i : Int) + (m : Int) + 1 := by omega
  have hb6 : i + 1 ≤ i + m + 1 := by omega
  have hb7 : i + m + 1 - (i + 1) = m := by omega
  have mixed : Try.prog.follows .mixedOrders = true := by kernel_rfl
  go_enter Try.func55, Try.ntmps55
  go_wp2_with fail
  go_region_law_o (refine step_append_room rfl (.tmp 22) (.tmp 25) 24 rfl 57 i0 3 Try.underlying24 hi0 hz1 g 0 i c (by simp [Act.eval, Act.put]) Ad m (c - (i + 1)) news (by simp [Act.eval, Act.put]) s1.out hsrc.out s2.out (by omega) s3.out ?_; rw [← HW.out])
  have hc0 : (0 : Int) ≤ (i : Int) + (m : Int) := by omega
  have hc2 : (i : Int) + (m : Int) ≤ (i : Int) + (m : Int) + 1 := by omega
  have hc3 : (i : Int) + (m : Int) + 1 ≤ (c : Int) := by omega
  have hc4 : ((i : Int) + (m : Int)).toNat = i + m := by omega
  have hc5 : ¬ c = i + m := by omega
  have hc6 : i + m + 1 - (i + m) = 1 := by omega
  have hc7 : ((i : Int) + (m : Int) + 1).toNat = i + m + 1 := by omega
  clear HW s1 s2 s3 hsrc
  go_wp2
  go_ret
  exact ⟨rfl, hfin.out⟩
end Go.Proofs.Ytjjncmenkepcoaa
