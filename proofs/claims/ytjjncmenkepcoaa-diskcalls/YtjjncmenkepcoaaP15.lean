import Derived.Test.YtjjncmenkepcoaaP14
import Derived.Test.YtjjncmenkepcoaaP8
/- What a disk at work is of the document's values. -/
namespace Go.Proofs.Ytjjncmenkepcoaa
open Go.RowKit

/-- The files that stand ahead of a name, the one of it, those behind. -/
structure Prt (l : List FV) (x : ByteArray) (A : List FV) (M : Option FV) (C : List FV) : Prop where
  l : l = A ++ (M.toList ++ C)
  lo : ∀ f ∈ A, fn f < bs x
  is : ∀ f ∈ M, f.x = x
  hi : ∀ f ∈ C, bs x < fn f
theorem Ofd.prt {s : St} {d : DV} {x : ByteArray} {A C : List (FV × Value)} {M : Option (FV × Value)} (ho : Ofd s d x) (hs : Spl s A M C) (hu : upf d.fs) : Prt d.fs x (A.map (·.1)) (M.map (·.1)) (C.map (·.1)) := by
  have hl : d.fs = A.map (·.1) ++ ((M.map (·.1)).toList ++ C.map (·.1)) := by
    rw [← ho.fs, hs.ys]
    cases M <;> simp
  have hfd := ho.fd
  rw [hs.pl, hs.th] at hfd
  obtain ⟨fs, room, arm, dead⟩ := d
  simp only at hl hu hfd
  subst hl
  generalize hA : A.map (·.1) = A' at *
  have hlen : A'.length = A.length := by rw [← hA, List.length_map]
  rw [← hlen] at hfd
  have hlo : ∀ f ∈ A', fn f < bs x := fun f hf => by
    obtain ⟨i, hi, rfl⟩ := List.getElem_of_mem hf
    have := hfd.lo hu i (by simp; omega) hi
    rw [List.getElem_append_left hi] at this
    exact this
  cases M with
  | some y =>
    have hn : y.1.x = x := by
      obtain ⟨h, e⟩ := hfd.is.1 rfl
      simpa using e
    refine ⟨rfl, hlo, fun f hf => ?_, fun f hf => ?_⟩
    · simp at hf
      rw [← hf]
      exact hn
    · unfold upf at hu
      rw [List.pairwise_append] at hu
      have h2 := hu.2.1
      simp only [Option.map_some, Option.toList_some, List.singleton_append, List.pairwise_cons] at h2
      have := h2.1 f hf
      unfold fn at this ⊢
      rw [hn] at this
      exact this
  | none =>
    refine ⟨rfl, hlo, fun f hf => by simp at hf, ?_⟩
    simp only [Option.map_none, Option.toList_none, List.nil_append] at *
    generalize hC : C.map (·.1) = C' at *
    cases C' with
    | nil => intro f hf; cases hf
    | cons c0 C2 =>
      have h1 : ¬ fn c0 < bs x := by
        have := hfd.hi hu A'.length (by simp) (Nat.le_refl _)
        simpa using this
      have h2 : c0.x ≠ x := fun e => by
        have := hfd.is.2 ⟨by simp, by simpa using e⟩
        cases this
      have h3 : bs x < fn c0 := Bs.tri h1 fun e => h2 (bs_inj e)
      unfold upf at hu
      rw [List.pairwise_append] at hu
      have h4 := (List.pairwise_cons.1 hu.2.1).1
      intro f hf
      rcases List.mem_cons.1 hf with rfl | hf
      · exact h3
      · exact Bs.trans h3 (h4 f hf)
section
variable {l A C : List FV} {x : ByteArray} {M : Option FV}
theorem Prt.with (h : Prt l x A M C) (hu : upf l) (b : List UInt8) (k : Int) : A ++ ⟨x, b, k⟩ :: C = withF ⟨x, b, k⟩ l := by
  rw [withF_up hu, h.l]
  have a1 : A.filter (fun y => decide (fn y < bs x)) = A := List.filter_eq_self.2 fun f hf => by simpa using h.lo f hf
  have a2 : A.filter (fun y => decide (bs x < fn y)) = [] := List.filter_eq_nil_iff.2 fun f hf => by simpa using Bs.asymm (h.lo f hf)
  have c1 : C.filter (fun y => decide (fn y < bs x)) = [] := List.filter_eq_nil_iff.2 fun f hf => by simpa using Bs.asymm (h.hi f hf)
  have c2 : C.filter (fun y => decide (bs x < fn y)) = C := List.filter_eq_self.2 fun f hf => by simpa using h.hi f hf
  have m1 : M.toList.filter (fun y => decide (fn y < bs x)) = [] := List.filter_eq_nil_iff.2 fun f hf => by
    have := h.is f (by simpa using hf)
    unfold fn
    rw [this]
    simp
  have m2 : M.toList.filter (fun y => decide (bs x < fn y)) = [] := List.filter_eq_nil_iff.2 fun f hf => by
    have := h.is f (by simpa using hf)
    unfold fn
    rw [this]
    simp
  show _ = List.filter (fun y => decide (fn y < bs x)) _ ++ _ :: List.filter (fun y => decide (bs x < fn y)) _
  simp only [List.filter_append, a1, a2, c1, c2, m1, m2, List.append_nil, List.nil_append]
theorem Prt.ne (h : Prt l x A M C) {f : FV} (hf : f ∈ A ∨ f ∈ C) : f.x ≠ x := by
  rintro rfl
  rcases hf with hf | hf
  · exact Bs.irr _ (h.lo f hf)
  · exact Bs.irr _ (h.hi f hf)
theorem Prt.out (h : Prt l x A M C) : A ++ C = woF l x := by
  unfold woF
  rw [h.l]
  have a1 : A.filter (fun y => !decide (y.x = x)) = A := List.filter_eq_self.2 fun f hf => by simpa using h.ne (.inl hf)
  have c1 : C.filter (fun y => !decide (y.x = x)) = C := List.filter_eq_self.2 fun f hf => by simpa using h.ne (.inr hf)
  have m1 : M.toList.filter (fun y => !decide (y.x = x)) = [] := List.filter_eq_nil_iff.2 fun f hf => by simpa using h.is f (by simpa using hf)
  simp only [List.filter_append, a1, c1, m1, List.nil_append]
theorem Prt.fi (h : Prt l x A M C) : fiF l x = M.getD ⟨x, [], 0⟩ := by
  unfold fiF
  rw [h.l]
  have a1 : A.find? (fun f => decide (f.x = x)) = none := List.find?_eq_none.2 fun f hf => by simpa using h.ne (.inl hf)
  have c1 : C.find? (fun f => decide (f.x = x)) = none := List.find?_eq_none.2 fun f hf => by simpa using h.ne (.inr hf)
  rw [List.find?_append, List.find?_append, a1, c1]
  cases M with
  | none => rfl
  | some y =>
    have := h.is y rfl
    simp [this]
theorem Prt.pl (h : Prt l x A M C) : 0 ≤ plF l x ↔ M.isSome = true := by
  rcases plF_spec l x with ⟨h1, h2⟩ | ⟨k, hk, h1, h2⟩
  · rw [h1]
    cases M with
    | none => simp
    | some y => exact absurd (h.is y rfl) (h2 y (by rw [h.l]; simp))
  · rw [h1]
    cases M with
    | none =>
      have : l[k] ∈ A ++ ([] ++ C) := by
        have h3 := h.l
        rw [Option.toList_none] at h3
        rw [← h3]
        exact List.getElem_mem hk
      rw [List.nil_append] at this
      exact absurd h2 (h.ne (List.mem_append.1 this))
    | some y => simp
end
/-- What fits answers is what the document asks. -/
theorem fit_eq {s : St} {d : DV} {x : ByteArray} {A C : List (FV × Value)} {M : Option (FV × Value)} (ho : Ofd s d x) (hs : Spl s A M C) (hu : upf d.fs) (h64 : d.fs.length ≤ 64) (size : Int) : fitV s (flM M).1.d.length size = if fit d x (size - (fiF d.fs x).d.length) = true then 0 else 4 := by
  have hp := ho.prt hs hu
  have hfi : (flM M).1.d = (fiF d.fs x).d := by
    rw [hp.fi]
    cases M <;> rfl
  have hlen : s.ys.length = d.fs.length := by rw [← ho.fs, List.length_map]
  have hth := hp.pl
  have hth2 : s.th = (M.map (·.1)).isSome := by rw [hs.th]; cases M <;> rfl
  rw [← hth2] at hth
  unfold fitV
  rw [hfi, ho.fs, ho.room, hlen]
  generalize (fiF d.fs x).d.length = n
  by_cases h1 : d.room < us d.fs - n + size
  · rw [if_pos h1, if_neg]
    rw [fit_iff]
    omega
  · rw [if_neg h1]
    by_cases h2 : s.th = false ∧ d.fs.length = 64
    · rw [if_pos h2, if_neg]
      rw [fit_iff, hth]
      intro ⟨h3, _⟩
      rcases h3 with h3 | h3
      · rw [h2.1] at h3
        cases h3
      · omega
    · rw [if_neg h2, if_pos]
      rw [fit_iff, hth]
      refine ⟨?_, by omega⟩
      cases ht : s.th
      · right
        have : ¬ d.fs.length = 64 := fun e => h2 ⟨ht, e⟩
        omega
      · exact .inl rfl
end Go.Proofs.Ytjjncmenkepcoaa
/- Sync and Drop of the program. -/
namespace Go.Proofs.Ytjjncmenkepcoaa
open Go.RowKit

theorem enter53 (args : Array Value) (w : World) : (callFunc 53 args).run Try.prog w = .ok (.enter 53 args) w := Calm.enters_run (by kernel_rfl) args w
theorem enter54 (args : Array Value) (w : World) : (callFunc 54 args).run Try.prog w = .ok (.enter 54 args) w := Calm.enters_run (by kernel_rfl) args w
theorem enter41 (args : Array Value) (w : World) : (callFunc 41 args).run Try.prog w = .ok (.enter 41 args) w := Calm.enters_run (by kernel_rfl) args w
theorem enter38 (args : Array Value) (w : World) : (callFunc 38 args).run Try.prog w = .ok (.enter 38 args) w := Calm.enters_run (by kernel_rfl) args w
theorem enter51 (args : Array Value) (w : World) : (callFunc 51 args).run Try.prog w = .ok (.enter 51 args) w := Calm.enters_run (by kernel_rfl) args w
/-- The disk at work holds the disk. -/
theorem Wk.dk {w : World} {B b : Nat} {off : Nat → Prop} {s : St} {p : Option Addr} {c : Nat} (h : Wk w B b off s p c) {d : DV} {x : ByteArray} (ho : Ofd s d x) : w.rangeAt b 0 [.slice p d.fs.length c, .int .i64 d.room, .int .i64 d.arm, .bool d.dead] ∧ FHas w (.slice p d.fs.length c) d.fs := by
  have h1 := h.disk
  have h2 := h.has
  have hl : s.ys.length = d.fs.length := by rw [← ho.fs, List.length_map]
  rw [hl, ho.room, ho.arm, ho.dead] at h1
  rw [hl, ho.fs] at h2
  exact ⟨h1, h2⟩
/-- Sync's and Drop's error. -/
theorem on_err {s : St} {d : DV} {x : ByteArray} {A C : List (FV × Value)} {M : Option (FV × Value)} (ho : Ofd s d x) (hs : Spl s A M C) {er : Int} (he : (if askD d x = 0 ∧ s.th = false then (7 : Int) else askD d x) = er) (h0 : er ≠ 0) (f : DV × Int) : (if askD d x ≠ 0 then (d, askD d x) else if plF d.fs x < 0 then (d, 7) else f) = (d, er) := by
  by_cases ha : askD d x = 0
  · rw [if_neg (fun e => e ha)]
    cases ht : s.th with
    | true =>
      rw [if_neg (fun e => by rw [ht] at e; cases e.2)] at he
      exact absurd (he.symm.trans ha) h0
    | false =>
      rw [if_pos ⟨ha, ht⟩] at he
      have hu := ((ckD_iff d).1 (ask_ok ha).1).2.2.2.2.2.1
      have hp := (ho.prt hs hu).pl
      have hn : ¬ 0 ≤ plF d.fs x := fun e => by
        have := hp.1 e
        have h2 := hs.th
        rw [ht] at h2
        cases M
        · cases this
        · cases h2
      rw [if_pos (by omega), he]
  · rw [if_pos ha]
    rw [if_neg (fun e => ha e.1)] at he
    rw [he]
/-- Where there is none. -/
theorem on_ok {s : St} {d : DV} {x : ByteArray} {A C : List (FV × Value)} {M : Option (FV × Value)} (ho : Ofd s d x) (hs : Spl s A M C) (he : (if askD d x = 0 ∧ s.th = false then (7 : Int) else askD d x) = 0) (f : DV × Int) : (if askD d x ≠ 0 then (d, askD d x) else if plF d.fs x < 0 then (d, 7) else f) = f ∧ ckD d = true ∧ ∃ y, M = some y := by
  have ha : askD d x = 0 := by
    by_cases ha : askD d x = 0
    · exact ha
    · rwa [if_neg (fun e => ha e.1)] at he
  have ht : s.th = true := by
    cases ht : s.th with
    | true => rfl
    | false =>
      rw [if_pos ⟨ha, ht⟩] at he
      cases he
  have hc := (ask_ok ha).1
  have hu := ((ckD_iff d).1 hc).2.2.2.2.2.1
  obtain ⟨y, rfl⟩ : ∃ y, M = some y := by
    have h2 := hs.th
    rw [ht] at h2
    cases M with
    | none => cases h2
    | some y => exact ⟨y, rfl⟩
  have := (ho.prt hs hu).pl.2 rfl
  exact ⟨by rw [if_neg (fun e => e ha), if_neg (by omega)], hc, y, rfl⟩
theorem pw_of {d : DV} (l : List FV) : (if d.arm = 0 then (⟨d.fs, d.room, d.arm, true⟩ : DV) else ⟨l, d.room, if 0 < d.arm then d.arm - 1 else d.arm, d.dead⟩) = (if d.arm = 0 then (pwD d, (220 : Int)) else ({ pwD d with fs := l }, 0)).1 ∧ (if d.arm = 0 then (220 : Int) else 0) = (if d.arm = 0 then (pwD d, (220 : Int)) else ({ pwD d with fs := l }, 0)).2 := by
  by_cases h : d.arm = 0
  · simp only [if_pos h]
    exact ⟨by unfold pwD; rw [if_pos h], trivial⟩
  · simp only [if_neg h]
    refine ⟨?_, trivial⟩
    unfold pwD
    rw [if_neg h]
    by_cases h2 : 0 < d.arm
    · rw [if_pos h2, if_pos h2]
    · rw [if_neg h2, if_neg h2]
set_option maxHeartbeats 1000000 in
set_option maxRecDepth 100000 in
theorem sync_any (d : DV) (sl : Value) (x : ByteArray) (w : World) (h : FHas w sl d.fs) (hd : Tm d) : Calls Try.prog 17 #[DKV.of sl d, .string x] w (DEPost (synD d x) w) := by
  obtain ⟨z, HZ⟩ := hid_ex (synD d x)
  rw [HZ.out]
  unfold synD at HZ
  obtain ⟨q, c0, rfl⟩ := h.slice
  have R0 := (rw_new w 26 #[.slice q d.fs.length c0, .int .i64 d.room, .int .i64 d.arm, .bool d.dead]).alloc (.cells #[.slice none 0 0, .int .i64 0, .int .i64 0, .bool false] 26)
  have R1 := rw_next (w.alloc (.cells #[.slice q d.fs.length c0, .int .i64 d.room, .int .i64 d.arm, .bool d.dead] 26)) (b := w.heap.size + 1) (by simp) 26 #[.slice none 0 0, .int .i64 0, .int .i64 0, .bool false]
  have hbel := bel_alloc (bel_alloc (Below.refl w.heap.size w) (.cells #[.slice q d.fs.length c0, .int .i64 d.room, .int .i64 d.arm, .bool d.dead] 26)) (.cells #[.slice none 0 0, .int .i64 0, .int .i64 0, .bool false] 26)
  generalize hW : (w.alloc (.cells #[.slice q d.fs.length c0, .int .i64 d.room, .int .i64 d.arm, .bool d.dead] 26)).alloc (.cells #[.slice none 0 0, .int .i64 0, .int .i64 0, .bool false] 26) = w0 at R0 R1 hbel
  have C1 := onFile_any d _ x w0 (h.later hbel) (by have := hd.n; omega) (by have := hd.u; omega)
  obtain ⟨E, HE⟩ := hid_ex (fun s : St => if askD d x = 0 ∧ s.th = false then (7 : Int) else askD d x)
  rw [HE.out] at C1
  clear h
  go_enter Try.func17, Try.ntmps17
  go_wp2_with (first | rw [hW] | refine load_r 26 _ rfl rfl _ rfl R0 Try.underlying26 rfl size26 ?_)
  clear hW
  refine C1.mono ?_
  clear C1
  rintro e w1 ⟨b, s, p, c, A, M, C, rfl, hW, hs, ho, hb1⟩
  have HER : Hid ((if askD d x = 0 ∧ s.th = false then (7 : Int) else askD d x) = E s) := congrFun HE.out s
  obtain ⟨er, HR⟩ := hid_ex (E s)
  rw [HR.out] at HER ⊢
  clear HR HE
  have RW := rw_new w1 61 #[.pointer (some ⟨b, 0, none⟩)]
  have hb2 := bel_alloc (Below.refl w1.heap.size w1) (.cells #[.pointer (some ⟨b, 0, none⟩)] 61)
  have hsz : (w1.alloc (.cells #[.pointer (some ⟨b, 0, none⟩)] 61)).heap.size = w1.heap.size + 1 := by simp
  have h10 : w.heap.size + 1 < w0.heap.size := R1.lt
  replace R1 := (R1.later hb1).later hb2
  replace hbel := below_on (below_on hbel hb1) hb2
  have W2 := hW.more hb2
  have HS : Hid (Spl s A M C) := hs
  have HO : Hid (Ofd s d x) := ho
  clear hb1 hb2 hW hs ho R0
  generalize hWW : w1.alloc (.cells #[.pointer (some ⟨b, 0, none⟩)] 61) = w2 at RW hsz R1 hbel W2
  have kp : w2.cell? ⟨w1.heap.size, 0, none⟩ = some (.pointer (some ⟨b, 0, none⟩)) := RW.cell 0
  by_cases h0 : er = 0
  case neg =>
    have g0 : (er == 0) = false := by rw [beq_eq_false_iff_ne]; exact h0
    obtain rfl : (d, er) = z := by rw [← HZ.out]; exact (on_err HO.out HS.out HER.out h0 _).symm
    obtain ⟨d2, hF⟩ := W2.dk HO.out
    have HF : Hid (FHas (w2.setRow (w.heap.size + 1) #[.slice p d.fs.length c, .int .i64 d.room, .int .i64 d.arm, .bool d.dead]) (.slice p d.fs.length c) d.fs) := hF.row R1 _
    have R1a := R1.row #[.slice p d.fs.length c, .int .i64 d.room, .int .i64 d.arm, .bool d.dead]
    have hb10 := bel_row hbel (b := w.heap.size + 1) (by omega) #[.slice p d.fs.length c, .int .i64 d.room, .int .i64 d.arm, .bool d.dead]
    have z2 : (Try.prog.info? 26).map (·.size) = some [Value.slice p d.fs.length c, .int .i64 d.room, .int .i64 d.arm, .bool d.dead].length := size26
    clear W2 hF HS HO HER HZ RW
    go_wp2_with (first | rw [hWW] | refine load_m 26 _ rfl rfl _ _ rfl d2 Try.underlying26 rfl z2 ?_ | refine store_r rfl 26 _ _ rfl _ _ rfl rfl R1 size26 rfl (by simp [Value.oneCell']) ?_)
    refine bodyPost_ret (results_rt rfl rfl R1a rfl Try.underlying26 size26) rfl ⟨p, c, rfl, HF.out, hb10⟩
  subst h0
  obtain ⟨hz, hck, y, rfl⟩ := on_ok HO.out HS.out HER.out (if d.arm = 0 then (pwD d, 220) else ({ pwD d with fs := withF ⟨x, (fiF d.fs x).d, (fiF d.fs x).d.length⟩ d.fs }, 0))
  have hZ := hz.symm.trans HZ.out
  have hcd := (ckD_iff d).1 hck
  have hu := hcd.2.2.2.2.2.1
  have hp := HO.out.prt HS.out hu
  have hfi : (fiF d.fs x) = y.1 := hp.fi
  have hyx : y.1.x = x := hp.is y.1 rfl
  have hlen : s.ys.length = d.fs.length := by rw [← HO.out.fs, List.length_map]
  have CD := doAt_any W2 53 41 #[.pointer (some ⟨w1.heap.size, 0, none⟩)] #[] enter53 enter41 _ _ (syncc_cls HS.out (by rw [hlen]; omega) RW (.inr ⟨Nat.le_refl _, by omega⟩)) nothing_cls (by rw [HO.out.arm]; exact hd.a2)
  rw [HO.out.arm, HO.out.room, HO.out.dead, HO.out.fs, hyx, hp.with hu, ← hfi] at CD
  obtain ⟨e1, e2⟩ := pw_of (d := d) (withF ⟨x, (fiF d.fs x).d, (fiF d.fs x).d.length⟩ d.fs)
  rw [e1, e2, hZ] at CD
  clear e1 e2 hz hZ hfi hyx hp hu hcd hck HZ HER hlen W2 HS HO
  go_wp2_with (rw [hWW])
  clear hWW kp
  refine CD.mono ?_
  clear CD
  rintro e w3 ⟨p3, c3, rfl, hF, hK⟩
  obtain ⟨D, err⟩ := z
  replace R1 := hK.rw R1 (.inl h10)
  have hb3 := hbel.trans (hK.below (B := w.heap.size) (fun k hk => .inl (by omega)) hbel.size)
  have HF : Hid (FHas (w3.setRow (w.heap.size + 1) #[.slice p3 D.fs.length c3, .int .i64 D.room, .int .i64 D.arm, .bool D.dead]) (.slice p3 D.fs.length c3) D.fs) := hF.row R1 _
  have R1a := R1.row #[.slice p3 D.fs.length c3, .int .i64 D.room, .int .i64 D.arm, .bool D.dead]
  have hb10 := bel_row hb3 (b := w.heap.size + 1) (by omega) #[.slice p3 D.fs.length c3, .int .i64 D.room, .int .i64 D.arm, .bool D.dead]
  clear hF hK hbel RW
  go_wp2_with (first | refine store_r rfl 26 _ _ rfl _ _ rfl rfl R1 size26 rfl (by simp [Value.oneCell']) ?_)
  refine bodyPost_ret (results_rt rfl rfl R1a rfl Try.underlying26 size26) rfl ⟨p3, c3, rfl, HF.out, hb10⟩
set_option maxHeartbeats 1000000 in
set_option maxRecDepth 100000 in
theorem drop_any (d : DV) (sl : Value) (x : ByteArray) (w : World) (h : FHas w sl d.fs) (hd : Tm d) : Calls Try.prog 19 #[DKV.of sl d, .string x] w (DEPost (droD d x) w) := by
  obtain ⟨z, HZ⟩ := hid_ex (droD d x)
  rw [HZ.out]
  unfold droD at HZ
  obtain ⟨q, c0, rfl⟩ := h.slice
  have R0 := (rw_new w 26 #[.slice q d.fs.length c0, .int .i64 d.room, .int .i64 d.arm, .bool d.dead]).alloc (.cells #[.slice none 0 0, .int .i64 0, .int .i64 0, .bool false] 26)
  have R1 := rw_next (w.alloc (.cells #[.slice q d.fs.length c0, .int .i64 d.room, .int .i64 d.arm, .bool d.dead] 26)) (b := w.heap.size + 1) (by simp) 26 #[.slice none 0 0, .int .i64 0, .int .i64 0, .bool false]
  have hbel := bel_alloc (bel_alloc (Below.refl w.heap.size w) (.cells #[.slice q d.fs.length c0, .int .i64 d.room, .int .i64 d.arm, .bool d.dead] 26)) (.cells #[.slice none 0 0, .int .i64 0, .int .i64 0, .bool false] 26)
  generalize hW : (w.alloc (.cells #[.slice q d.fs.length c0, .int .i64 d.room, .int .i64 d.arm, .bool d.dead] 26)).alloc (.cells #[.slice none 0 0, .int .i64 0, .int .i64 0, .bool false] 26) = w0 at R0 R1 hbel
  have C1 := onFile_any d _ x w0 (h.later hbel) (by have := hd.n; omega) (by have := hd.u; omega)
  obtain ⟨E, HE⟩ := hid_ex (fun s : St => if askD d x = 0 ∧ s.th = false then (7 : Int) else askD d x)
  rw [HE.out] at C1
  clear h
  go_enter Try.func19, Try.ntmps19
  go_wp2_with (first | rw [hW] | refine load_r 26 _ rfl rfl _ rfl R0 Try.underlying26 rfl size26 ?_)
  clear hW
  refine C1.mono ?_
  clear C1
  rintro e w1 ⟨b, s, p, c, A, M, C, rfl, hW, hs, ho, hb1⟩
  have HER : Hid ((if askD d x = 0 ∧ s.th = false then (7 : Int) else askD d x) = E s) := congrFun HE.out s
  obtain ⟨er, HR⟩ := hid_ex (E s)
  rw [HR.out] at HER ⊢
  clear HR HE
  have RW := rw_new w1 61 #[.pointer (some ⟨b, 0, none⟩)]
  have hb2 := bel_alloc (Below.refl w1.heap.size w1) (.cells #[.pointer (some ⟨b, 0, none⟩)] 61)
  have hsz : (w1.alloc (.cells #[.pointer (some ⟨b, 0, none⟩)] 61)).heap.size = w1.heap.size + 1 := by simp
  have h10 : w.heap.size + 1 < w0.heap.size := R1.lt
  replace R1 := (R1.later hb1).later hb2
  replace hbel := below_on (below_on hbel hb1) hb2
  have W2 := hW.more hb2
  have HS : Hid (Spl s A M C) := hs
  have HO : Hid (Ofd s d x) := ho
  clear hb1 hb2 hW hs ho R0
  generalize hWW : w1.alloc (.cells #[.pointer (some ⟨b, 0, none⟩)] 61) = w2 at RW hsz R1 hbel W2
  have kp : w2.cell? ⟨w1.heap.size, 0, none⟩ = some (.pointer (some ⟨b, 0, none⟩)) := RW.cell 0
  by_cases h0 : er = 0
  case neg =>
    have g0 : (er == 0) = false := by rw [beq_eq_false_iff_ne]; exact h0
    obtain rfl : (d, er) = z := by rw [← HZ.out]; exact (on_err HO.out HS.out HER.out h0 _).symm
    obtain ⟨d2, hF⟩ := W2.dk HO.out
    have HF : Hid (FHas (w2.setRow (w.heap.size + 1) #[.slice p d.fs.length c, .int .i64 d.room, .int .i64 d.arm, .bool d.dead]) (.slice p d.fs.length c) d.fs) := hF.row R1 _
    have R1a := R1.row #[.slice p d.fs.length c, .int .i64 d.room, .int .i64 d.arm, .bool d.dead]
    have hb10 := bel_row hbel (b := w.heap.size + 1) (by omega) #[.slice p d.fs.length c, .int .i64 d.room, .int .i64 d.arm, .bool d.dead]
    have z2 : (Try.prog.info? 26).map (·.size) = some [Value.slice p d.fs.length c, .int .i64 d.room, .int .i64 d.arm, .bool d.dead].length := size26
    clear W2 hF HS HO HER HZ RW
    go_wp2_with (first | rw [hWW] | refine load_m 26 _ rfl rfl _ _ rfl d2 Try.underlying26 rfl z2 ?_ | refine store_r rfl 26 _ _ rfl _ _ rfl rfl R1 size26 rfl (by simp [Value.oneCell']) ?_)
    refine bodyPost_ret (results_rt rfl rfl R1a rfl Try.underlying26 size26) rfl ⟨p, c, rfl, HF.out, hb10⟩
  subst h0
  obtain ⟨hz, hck, y, rfl⟩ := on_ok HO.out HS.out HER.out (if d.arm = 0 then (pwD d, 220) else ({ pwD d with fs := woF d.fs x }, 0))
  have hZ := hz.symm.trans HZ.out
  have hcd := (ckD_iff d).1 hck
  have hu := hcd.2.2.2.2.2.1
  have hp := HO.out.prt HS.out hu
  have hlen : s.ys.length = d.fs.length := by rw [← HO.out.fs, List.length_map]
  have CD := doAt_any W2 54 41 #[.pointer (some ⟨w1.heap.size, 0, none⟩)] #[] enter54 enter41 _ _ (dropc_cls HS.out (by rw [hlen]; omega) RW (.inr ⟨Nat.le_refl _, by omega⟩)) nothing_cls (by rw [HO.out.arm]; exact hd.a2)
  rw [HO.out.arm, HO.out.room, HO.out.dead, HO.out.fs, hp.out] at CD
  obtain ⟨e1, e2⟩ := pw_of (d := d) (woF d.fs x)
  rw [e1, e2, hZ] at CD
  clear e1 e2 hz hZ hp hu hcd hck HZ HER hlen W2 HS HO
  go_wp2_with (rw [hWW])
  clear hWW kp
  refine CD.mono ?_
  clear CD
  rintro e w3 ⟨p3, c3, rfl, hF, hK⟩
  obtain ⟨D, err⟩ := z
  replace R1 := hK.rw R1 (.inl h10)
  have hb3 := hbel.trans (hK.below (B := w.heap.size) (fun k hk => .inl (by omega)) hbel.size)
  have HF : Hid (FHas (w3.setRow (w.heap.size + 1) #[.slice p3 D.fs.length c3, .int .i64 D.room, .int .i64 D.arm, .bool D.dead]) (.slice p3 D.fs.length c3) D.fs) := hF.row R1 _
  have R1a := R1.row #[.slice p3 D.fs.length c3, .int .i64 D.room, .int .i64 D.arm, .bool D.dead]
  have hb10 := bel_row hb3 (b := w.heap.size + 1) (by omega) #[.slice p3 D.fs.length c3, .int .i64 D.room, .int .i64 D.arm, .bool D.dead]
  clear hF hK hbel RW
  go_wp2_with (first | refine store_r rfl 26 _ _ rfl _ _ rfl rfl R1 size26 rfl (by simp [Value.oneCell']) ?_)
  refine bodyPost_ret (results_rt rfl rfl R1a rfl Try.underlying26 size26) rfl ⟨p3, c3, rfl, HF.out, hb10⟩
end Go.Proofs.Ytjjncmenkepcoaa
/- Put and Append of the program. -/
namespace Go.Proofs.Ytjjncmenkepcoaa
open Go.RowKit

set_option maxHeartbeats 2000000 in
set_option maxRecDepth 100000 in
theorem putMain_any (d : DV) (sl : Value) (x : ByteArray) (l : List UInt8) (u : Value) (w : World) (h : FHas w sl d.fs) (hd : Tm d) (hu : DB w u l) (hl : l.length ≤ 6000) : Calls Try.prog 9 #[DKV.of sl d, .string x, u] w (DEPost (putD d x l) w) := by
  obtain ⟨z, HZ⟩ := hid_ex (putD d x l)
  rw [HZ.out]
  unfold putD at HZ
  obtain ⟨q, c0, rfl⟩ := h.slice
  obtain ⟨pu, cu, rfl⟩ := SHas.slice hu
  have R0 := ((rw_new w 26 #[.slice q d.fs.length c0, .int .i64 d.room, .int .i64 d.arm, .bool d.dead]).alloc (.cells #[.slice pu l.length cu] 22)).alloc (.cells #[.slice none 0 0, .int .i64 0, .int .i64 0, .bool false] 26)
  have R5 := (rw_next (w.alloc (.cells #[.slice q d.fs.length c0, .int .i64 d.room, .int .i64 d.arm, .bool d.dead] 26)) (b := w.heap.size + 1) (by simp) 22 #[.slice pu l.length cu]).alloc (.cells #[.slice none 0 0, .int .i64 0, .int .i64 0, .bool false] 26)
  have R1 := rw_next ((w.alloc (.cells #[.slice q d.fs.length c0, .int .i64 d.room, .int .i64 d.arm, .bool d.dead] 26)).alloc (.cells #[.slice pu l.length cu] 22)) (b := w.heap.size + 1 + 1) (by simp) 26 #[.slice none 0 0, .int .i64 0, .int .i64 0, .bool false]
  have hbel := bel_alloc (bel_alloc (bel_alloc (Below.refl w.heap.size w) (.cells #[.slice q d.fs.length c0, .int .i64 d.room, .int .i64 d.arm, .bool d.dead] 26)) (.cells #[.slice pu l.length cu] 22)) (.cells #[.slice none 0 0, .int .i64 0, .int .i64 0, .bool false] 26)
  generalize hW : ((w.alloc (.cells #[.slice q d.fs.length c0, .int .i64 d.room, .int .i64 d.arm, .bool d.dead] 26)).alloc (.cells #[.slice pu l.length cu] 22)).alloc (.cells #[.slice none 0 0, .int .i64 0, .int .i64 0, .bool false] 26) = w0 at R0 R1 R5 hbel
  have C1 := atWork_any d _ x w0 (h.later hbel) (by have := hd.n; omega) (by have := hd.u; omega)
  have HU0 : Hid (DB w0 (.slice pu l.length cu) l) := SHas.later hu hbel
  obtain ⟨er, HE⟩ := hid_ex (askD d x)
  rw [HE.out] at C1
  clear h hu
  go_enter Try.func9, Try.ntmps9
  go_wp2_with (first | rw [hW] | refine load_r 26 _ rfl rfl _ rfl R0 Try.underlying26 rfl size26 ?_)
  clear hW
  refine C1.mono ?_
  clear C1
  rintro e w1 ⟨b, s, p, c, A, M, C, rfl, hW, hs, ho, hb1⟩
  have RW := rw_new w1 61 #[.pointer (some ⟨b, 0, none⟩)]
  have hb2 := bel_alloc (Below.refl w1.heap.size w1) (.cells #[.pointer (some ⟨b, 0, none⟩)] 61)
  have hsz : (w1.alloc (.cells #[.pointer (some ⟨b, 0, none⟩)] 61)).heap.size = w1.heap.size + 1 := by simp
  have h10 : w.heap.size + 1 + 1 < w0.heap.size := R1.lt
  replace R1 := (R1.later hb1).later hb2
  replace R5 := (R5.later hb1).later hb2
  have HU : Hid (DB _ (.slice pu l.length cu) l) := SHas.later (SHas.later HU0.out hb1) hb2
  replace hbel := below_on (below_on hbel hb1) hb2
  have W2 := hW.more hb2
  have HS : Hid (Spl s A M C) := hs
  have HO : Hid (Ofd s d x) := ho
  clear hb1 hb2 hW hs ho R0 HU0
  generalize hWW : w1.alloc (.cells #[.pointer (some ⟨b, 0, none⟩)] 61) = w2 at RW hsz R1 R5 hbel W2 HU
  have kp : w2.cell? ⟨w1.heap.size, 0, none⟩ = some (.pointer (some ⟨b, 0, none⟩)) := RW.cell 0
  have k5 : w2.cell? ⟨w.heap.size + 1, 0, none⟩ = some (.slice pu l.length cu) := R5.cell 0
  by_cases h0 : er = 0
  case neg =>
    have g0 : (er == 0) = false := by rw [beq_eq_false_iff_ne]; exact h0
    obtain rfl : (d, er) = z := by rw [← HZ.out, HE.out, if_pos h0]
    obtain ⟨d2, hF⟩ := W2.dk HO.out
    have HF : Hid (FHas (w2.setRow (w.heap.size + 1 + 1) #[.slice p d.fs.length c, .int .i64 d.room, .int .i64 d.arm, .bool d.dead]) (.slice p d.fs.length c) d.fs) := hF.row R1 _
    have R1a := R1.row #[.slice p d.fs.length c, .int .i64 d.room, .int .i64 d.arm, .bool d.dead]
    have hb10 := bel_row hbel (b := w.heap.size + 1 + 1) (by omega) #[.slice p d.fs.length c, .int .i64 d.room, .int .i64 d.arm, .bool d.dead]
    have z2 : (Try.prog.info? 26).map (·.size) = some [Value.slice p d.fs.length c, .int .i64 d.room, .int .i64 d.arm, .bool d.dead].length := size26
    clear W2 hF HS HO HE HZ RW HU k5 R5
    go_wp2_with (first | rw [hWW] | refine load_m 26 _ rfl rfl _ _ rfl d2 Try.underlying26 rfl z2 ?_ | refine store_r rfl 26 _ _ rfl _ _ rfl rfl R1 size26 rfl (by simp [Value.oneCell']) ?_)
    refine bodyPost_ret (results_rt rfl rfl R1a rfl Try.underlying26 size26) rfl ⟨p, c, rfl, HF.out, hb10⟩
  subst h0
  rw [HE.out, if_neg (show ¬ (0 : Int) ≠ 0 from fun h => h rfl)] at HZ
  have hck := (ask_ok HE.out).1
  have hcd := (ckD_iff d).1 hck
  have hup := hcd.2.2.2.2.2.1
  have h64 := hcd.2.2.2.1
  have hp := HO.out.prt HS.out hup
  have hlen : s.ys.length = d.fs.length := by rw [← HO.out.fs, List.length_map]
  have CF := fits_any W2 HS.out (by rw [HO.out.fs]; have := hd.u; omega) (l.length : Int) (by omega) (by omega)
  rw [fit_eq HO.out HS.out hup h64] at CF
  go_wp2_with (rw [hWW])
  clear hWW kp k5
  refine CF.mono ?_
  clear CF
  rintro e w3 ⟨rfl, hb3⟩
  have hlt1 : w1.heap.size < w2.heap.size := by omega
  replace R1 := R1.later hb3
  replace R5 := R5.later hb3
  replace RW := RW.later hb3
  replace W2 := W2.later hb3
  replace HU : Hid (DB w3 (.slice pu l.length cu) l) := SHas.later HU.out hb3
  replace hbel := below_on hbel hb3
  clear hb3
  have kp : w3.cell? ⟨w1.heap.size, 0, none⟩ = some (.pointer (some ⟨b, 0, none⟩)) := RW.cell 0
  cases hfit : fit d x ((l.length : Int) - (fiF d.fs x).d.length) with
  | false =>
    obtain rfl : (d, 4) = z := by rw [← HZ.out, if_pos hfit]
    obtain ⟨d2, hF⟩ := W2.dk HO.out
    have HF : Hid (FHas (w3.setRow (w.heap.size + 1 + 1) #[.slice p d.fs.length c, .int .i64 d.room, .int .i64 d.arm, .bool d.dead]) (.slice p d.fs.length c) d.fs) := hF.row R1 _
    have R1a := R1.row #[.slice p d.fs.length c, .int .i64 d.room, .int .i64 d.arm, .bool d.dead]
    have hb10 := bel_row hbel (b := w.heap.size + 1 + 1) (by omega) #[.slice p d.fs.length c, .int .i64 d.room, .int .i64 d.arm, .bool d.dead]
    have z2 : (Try.prog.info? 26).map (·.size) = some [Value.slice p d.fs.length c, .int .i64 d.room, .int .i64 d.arm, .bool d.dead].length := size26
    clear W2 hF HS HO HE HZ RW HU R5 hfit hp hcd hck
    go_wp2_with (first | refine load_m 26 _ rfl rfl _ _ rfl d2 Try.underlying26 rfl z2 ?_ | refine store_r rfl 26 _ _ rfl _ _ rfl rfl R1 size26 rfl (by simp [Value.oneCell']) ?_)
    refine bodyPost_ret (results_rt rfl rfl R1a rfl Try.underlying26 size26) rfl ⟨p, c, rfl, HF.out, hb10⟩
  | true =>
    rw [hfit, if_neg (fun e => by cases e)] at HZ
    have hnx : nmM s.x M = x := by
      cases M with
      | none => exact HO.out.sx
      | some y => exact hp.is y.1 rfl
    have CD := doAt_any W2 38 41 #[.pointer (some ⟨w1.heap.size, 0, none⟩), .pointer (some ⟨w.heap.size + 1, 0, none⟩)] #[] enter38 enter41 _ _ (putc_cls HS.out (by rw [hlen]; omega) RW R5 (.inr ⟨Nat.le_refl _, hlt1⟩) (.inl (by omega)) HU.out (by omega)) nothing_cls (by rw [HO.out.arm]; exact hd.a2)
    rw [HO.out.arm, HO.out.room, HO.out.dead, HO.out.fs, hnx, hp.with hup] at CD
    obtain ⟨e1, e2⟩ := pw_of (d := d) (withF ⟨x, l, l.length⟩ d.fs)
    rw [e1, e2, HZ.out] at CD
    clear e1 e2 hnx hp hup hcd hck HZ HE hlen W2 HS HO hfit HU R5
    go_wp2_with fail
    clear kp
    refine CD.mono ?_
    clear CD
    rintro e w4 ⟨p3, c3, rfl, hF, hK⟩
    obtain ⟨D, err⟩ := z
    replace R1 := hK.rw R1 (.inl h10)
    have hb3 := hbel.trans (hK.below (B := w.heap.size) (fun k hk => .inl (by omega)) hbel.size)
    have HF : Hid (FHas (w4.setRow (w.heap.size + 1 + 1) #[.slice p3 D.fs.length c3, .int .i64 D.room, .int .i64 D.arm, .bool D.dead]) (.slice p3 D.fs.length c3) D.fs) := hF.row R1 _
    have R1a := R1.row #[.slice p3 D.fs.length c3, .int .i64 D.room, .int .i64 D.arm, .bool D.dead]
    have hb10 := bel_row hb3 (b := w.heap.size + 1 + 1) (by omega) #[.slice p3 D.fs.length c3, .int .i64 D.room, .int .i64 D.arm, .bool D.dead]
    clear hF hK hbel RW
    go_wp2_with (first | refine store_r rfl 26 _ _ rfl _ _ rfl rfl R1 size26 rfl (by simp [Value.oneCell']) ?_)
    refine bodyPost_ret (results_rt rfl rfl R1a rfl Try.underlying26 size26) rfl ⟨p3, c3, rfl, HF.out, hb10⟩
set_option maxHeartbeats 2000000 in
set_option maxRecDepth 100000 in
theorem append_any (d : DV) (sl : Value) (x : ByteArray) (l : List UInt8) (u : Value) (w : World) (h : FHas w sl d.fs) (hd : Tm d) (hu : DB w u l) (hl : l.length ≤ 6000) : Calls Try.prog 14 #[DKV.of sl d, .string x, u] w (DEPost (appD d x l) w) := by
  obtain ⟨z, HZ⟩ := hid_ex (appD d x l)
  rw [HZ.out]
  unfold appD at HZ
  obtain ⟨q, c0, rfl⟩ := h.slice
  obtain ⟨pu, cu, rfl⟩ := SHas.slice hu
  have R0 := ((rw_new w 26 #[.slice q d.fs.length c0, .int .i64 d.room, .int .i64 d.arm, .bool d.dead]).alloc (.cells #[.slice pu l.length cu] 22)).alloc (.cells #[.slice none 0 0, .int .i64 0, .int .i64 0, .bool false] 26)
  have R5 := (rw_next (w.alloc (.cells #[.slice q d.fs.length c0, .int .i64 d.room, .int .i64 d.arm, .bool d.dead] 26)) (b := w.heap.size + 1) (by simp) 22 #[.slice pu l.length cu]).alloc (.cells #[.slice none 0 0, .int .i64 0, .int .i64 0, .bool false] 26)
  have R1 := rw_next ((w.alloc (.cells #[.slice q d.fs.length c0, .int .i64 d.room, .int .i64 d.arm, .bool d.dead] 26)).alloc (.cells #[.slice pu l.length cu] 22)) (b := w.heap.size + 1 + 1) (by simp) 26 #[.slice none 0 0, .int .i64 0, .int .i64 0, .bool false]
  have hbel := bel_alloc (bel_alloc (bel_alloc (Below.refl w.heap.size w) (.cells #[.slice q d.fs.length c0, .int .i64 d.room, .int .i64 d.arm, .bool d.dead] 26)) (.cells #[.slice pu l.length cu] 22)) (.cells #[.slice none 0 0, .int .i64 0, .int .i64 0, .bool false] 26)
  generalize hW : ((w.alloc (.cells #[.slice q d.fs.length c0, .int .i64 d.room, .int .i64 d.arm, .bool d.dead] 26)).alloc (.cells #[.slice pu l.length cu] 22)).alloc (.cells #[.slice none 0 0, .int .i64 0, .int .i64 0, .bool false] 26) = w0 at R0 R1 R5 hbel
  have C1 := atWork_any d _ x w0 (h.later hbel) (by have := hd.n; omega) (by have := hd.u; omega)
  have HU0 : Hid (DB w0 (.slice pu l.length cu) l) := SHas.later hu hbel
  obtain ⟨er, HE⟩ := hid_ex (askD d x)
  rw [HE.out] at C1
  clear h hu
  go_enter Try.func14, Try.ntmps14
  go_wp2_with (first | rw [hW] | refine load_r 26 _ rfl rfl _ rfl R0 Try.underlying26 rfl size26 ?_)
  clear hW
  refine C1.mono ?_
  clear C1
  rintro e w1 ⟨b, s, p, c, A, M, C, rfl, hW, hs, ho, hb1⟩
  have RW := rw_new w1 61 #[.pointer (some ⟨b, 0, none⟩)]
  have hb2 := bel_alloc (Below.refl w1.heap.size w1) (.cells #[.pointer (some ⟨b, 0, none⟩)] 61)
  have hsz : (w1.alloc (.cells #[.pointer (some ⟨b, 0, none⟩)] 61)).heap.size = w1.heap.size + 1 := by simp
  have h10 : w.heap.size + 1 + 1 < w0.heap.size := R1.lt
  replace R1 := (R1.later hb1).later hb2
  replace R5 := (R5.later hb1).later hb2
  have HU : Hid (DB _ (.slice pu l.length cu) l) := SHas.later (SHas.later HU0.out hb1) hb2
  replace hbel := below_on (below_on hbel hb1) hb2
  have W2 := hW.more hb2
  have HS : Hid (Spl s A M C) := hs
  have HO : Hid (Ofd s d x) := ho
  clear hb1 hb2 hW hs ho R0 HU0
  generalize hWW : w1.alloc (.cells #[.pointer (some ⟨b, 0, none⟩)] 61) = w2 at RW hsz R1 R5 hbel W2 HU
  have kp : w2.cell? ⟨w1.heap.size, 0, none⟩ = some (.pointer (some ⟨b, 0, none⟩)) := RW.cell 0
  have k5 : w2.cell? ⟨w.heap.size + 1, 0, none⟩ = some (.slice pu l.length cu) := R5.cell 0
  have C2 := file_any W2 HS.out
  have HFO := W2.fl HS.out
  have hfk : Hid ((flM M).1.d.length ≤ 5000000) := by
    have h1 := HS.out.us
    rw [HO.out.fs] at h1
    have := hd.u
    show _ ≤ _
    omega
  obtain ⟨f, HFM⟩ := hid_ex (flM M)
  rw [HFM.out] at C2 HFO hfk
  obtain ⟨⟨fx, fd, fk⟩, fv⟩ := f
  replace HFO : w2.ownsRow w0.heap.size 5 1 fv fd.length (cel fd) := HFO
  replace C2 : Calls Try.prog 50 #[.pointer (some ⟨b, 0, none⟩)] w2 (Tells (FLV fx fv fk) w2) := C2
  replace hfk : Hid (fd.length ≤ 5000000) := hfk
  obtain ⟨p1, c1, rfl⟩ : ∃ p c, fv = .slice p fd.length c := own_sl HFO
  clear HFO
  go_wp2_with (rw [hWW])
  clear hWW kp k5
  refine C2.mono ?_
  clear C2
  rintro e w3 ⟨rfl, hb3⟩
  have RB := rw_new w3 57 #[.string fx, .slice p1 fd.length c1, .int .i64 fk]
  have hb4 := bel_alloc (Below.refl w3.heap.size w3) (.cells #[.string fx, .slice p1 fd.length c1, .int .i64 fk] 57)
  have hsz4 : (w3.alloc (.cells #[.string fx, .slice p1 fd.length c1, .int .i64 fk] 57)).heap.size = w3.heap.size + 1 := by simp
  have hlt1 : w1.heap.size < w2.heap.size := by omega
  replace R1 := (R1.later hb3).later hb4
  replace R5 := (R5.later hb3).later hb4
  replace RW := (RW.later hb3).later hb4
  have W4 := (W2.later hb3).more hb4
  replace HU : Hid (DB _ (.slice pu l.length cu) l) := SHas.later (SHas.later HU.out hb3) hb4
  replace hbel := below_on (below_on hbel hb3) hb4
  clear hb3 hb4 W2
  generalize hWB : w3.alloc (.cells #[.string fx, .slice p1 fd.length c1, .int .i64 fk] 57) = w4 at RB hsz4 R1 R5 RW W4 HU hbel
  have kp : w4.cell? ⟨w1.heap.size, 0, none⟩ = some (.pointer (some ⟨b, 0, none⟩)) := RW.cell 0
  have k5 : w4.cell? ⟨w.heap.size + 1, 0, none⟩ = some (.slice pu l.length cu) := R5.cell 0
  have kf : w4.cell? ⟨w3.heap.size, 1, none⟩ = some (.slice p1 fd.length c1) := RB.cell 1
  by_cases h0 : er = 0
  case neg =>
    have g0 : (er == 0) = false := by rw [beq_eq_false_iff_ne]; exact h0
    obtain rfl : (d, er) = z := by rw [← HZ.out, HE.out, if_pos h0]
    obtain ⟨d2, hF⟩ := W4.dk HO.out
    have HF : Hid (FHas (w4.setRow (w.heap.size + 1 + 1) #[.slice p d.fs.length c, .int .i64 d.room, .int .i64 d.arm, .bool d.dead]) (.slice p d.fs.length c) d.fs) := hF.row R1 _
    have R1a := R1.row #[.slice p d.fs.length c, .int .i64 d.room, .int .i64 d.arm, .bool d.dead]
    have hb10 := bel_row hbel (b := w.heap.size + 1 + 1) (by omega) #[.slice p d.fs.length c, .int .i64 d.room, .int .i64 d.arm, .bool d.dead]
    have z2 : (Try.prog.info? 26).map (·.size) = some [Value.slice p d.fs.length c, .int .i64 d.room, .int .i64 d.arm, .bool d.dead].length := size26
    clear W4 hF HS HO HE HZ RW HU k5 R5 RB kf HFM hfk
    go_wp2_with (first | rw [hWB] | refine load_m 26 _ rfl rfl _ _ rfl d2 Try.underlying26 rfl z2 ?_ | refine store_r rfl 26 _ _ rfl _ _ rfl rfl R1 size26 rfl (by simp [Value.oneCell']) ?_)
    refine bodyPost_ret (results_rt rfl rfl R1a rfl Try.underlying26 size26) rfl ⟨p, c, rfl, HF.out, hb10⟩
  subst h0
  rw [HE.out, if_neg (show ¬ (0 : Int) ≠ 0 from fun h => h rfl)] at HZ
  have hck := (ask_ok HE.out).1
  have hcd := (ckD_iff d).1 hck
  have hup := hcd.2.2.2.2.2.1
  have h64 := hcd.2.2.2.1
  have hp := HO.out.prt HS.out hup
  have hlen : s.ys.length = d.fs.length := by rw [← HO.out.fs, List.length_map]
  have CF := fits_any W4 HS.out (by rw [HO.out.fs]; have := hd.u; omega) ((fd.length : Int) + (l.length : Int)) (by omega) (by have := hfk.out; omega)
  have hfi : fiF d.fs x = ⟨(fiF d.fs x).x, fd, (fiF d.fs x).k⟩ ∧ (fiF d.fs x).k = fk := by
    rw [hp.fi]
    cases M with
    | none =>
      have h1 := congrArg (·.1.d) HFM.out
      have h2 := congrArg (·.1.k) HFM.out
      simp only [flM, Option.getD_none] at h1 h2
      simp [← h1, ← h2]
    | some y =>
      have h1 := HFM.out
      simp only [flM, Option.getD_some] at h1
      simp [h1]
  have hfd : (fiF d.fs x).d = fd := by rw [hfi.1]
  rw [fit_eq HO.out HS.out hup h64, hfd, show (fd.length : Int) + (l.length : Int) - (fd.length : Int) = (l.length : Int) by omega] at CF
  have ew : IntKind.i64.wrap ((fd.length : Int) + (l.length : Int)) = (fd.length : Int) + (l.length : Int) := by have := hfk.out; rw [IntKind.wrap_i64]; omega
  go_wp2_with (rw [hWB])
  clear hWB kp k5 kf
  refine CF.mono ?_
  clear CF
  rintro e w5 ⟨rfl, hb3⟩
  replace RB := RB.later hb3
  replace R1 := R1.later hb3
  replace R5 := R5.later hb3
  replace RW := RW.later hb3
  replace W4 := W4.later hb3
  replace HU : Hid (DB w5 (.slice pu l.length cu) l) := SHas.later HU.out hb3
  replace hbel := below_on hbel hb3
  clear hb3
  have kp : w5.cell? ⟨w1.heap.size, 0, none⟩ = some (.pointer (some ⟨b, 0, none⟩)) := RW.cell 0
  cases hfit : fit d x (l.length : Int) with
  | false =>
    obtain rfl : (d, 4) = z := by rw [← HZ.out, if_pos hfit]
    obtain ⟨d2, hF⟩ := W4.dk HO.out
    have HF : Hid (FHas (w5.setRow (w.heap.size + 1 + 1) #[.slice p d.fs.length c, .int .i64 d.room, .int .i64 d.arm, .bool d.dead]) (.slice p d.fs.length c) d.fs) := hF.row R1 _
    have R1a := R1.row #[.slice p d.fs.length c, .int .i64 d.room, .int .i64 d.arm, .bool d.dead]
    have hb10 := bel_row hbel (b := w.heap.size + 1 + 1) (by omega) #[.slice p d.fs.length c, .int .i64 d.room, .int .i64 d.arm, .bool d.dead]
    have z2 : (Try.prog.info? 26).map (·.size) = some [Value.slice p d.fs.length c, .int .i64 d.room, .int .i64 d.arm, .bool d.dead].length := size26
    clear W4 hF HS HO HE HZ RW HU R5 RB hfit hp hcd hck HFM hfk hfi hfd
    go_wp2_with (first | refine load_m 26 _ rfl rfl _ _ rfl d2 Try.underlying26 rfl z2 ?_ | refine store_r rfl 26 _ _ rfl _ _ rfl rfl R1 size26 rfl (by simp [Value.oneCell']) ?_)
    refine bodyPost_ret (results_rt rfl rfl R1a rfl Try.underlying26 size26) rfl ⟨p, c, rfl, HF.out, hb10⟩
  | true =>
    rw [hfit, if_neg (fun e => by cases e)] at HZ
    have hnx : nmM s.x M = x := by
      cases M with
      | none => exact HO.out.sx
      | some y => exact hp.is y.1 rfl
    have CL := appc_cls (off := fun k => (k < w0.heap.size ∨ w1.heap.size ≤ k ∧ k < w2.heap.size) ∨ w3.heap.size ≤ k ∧ k < w4.heap.size) (w := w5) (B := w0.heap.size) (b := b) (p := p) (c := c) HS.out (by rw [hlen]; omega) RW (bf := w3.heap.size) (by rw [HFM.out]; exact RB) R5 (.inl (.inr ⟨Nat.le_refl _, hlt1⟩)) (.inr ⟨Nat.le_refl _, by omega⟩) (.inl (.inl (by omega))) HU.out (by rw [HFM.out]; have := hfk.out; show fd.length + _ ≤ _; omega)
    have CD := doAt_any W4 51 51 _ _ enter51 enter51 _ _ CL CL (by rw [HO.out.arm]; exact hd.a2)
    rw [HO.out.arm, HO.out.room, HO.out.dead, hnx, hp.with hup, HFM.out] at CD
    have e1 : (if d.arm = 0 then (⟨withF ⟨x, fd ++ l, fk⟩ d.fs, d.room, d.arm, true⟩ : DV) else ⟨withF ⟨x, fd ++ l, fk⟩ d.fs, d.room, if 0 < d.arm then d.arm - 1 else d.arm, d.dead⟩) = z.1 ∧ (if d.arm = 0 then (220 : Int) else 0) = z.2 := by
      have hz := HZ.out
      rw [hfd, hfi.2] at hz
      obtain ⟨z1, z2⟩ := z
      simp only [Prod.mk.injEq] at hz
      refine ⟨?_, hz.2⟩
      rw [← hz.1]
      unfold pwD
      by_cases h : d.arm = 0
      · rw [if_pos h, if_pos h]
      · rw [if_neg h, if_neg h]
        by_cases h2 : 0 < d.arm
        · rw [if_pos h2, if_pos h2]
        · rw [if_neg h2, if_neg h2]
    rw [e1.1, e1.2] at CD
    clear e1 CL hfi hfd HFM hfk RB hnx hp hup hcd hck HZ HE hlen W4 HS HO hfit HU R5
    go_wp2_with fail
    clear kp
    refine CD.mono ?_
    clear CD
    rintro e w6 ⟨p3, c3, rfl, hF, hK⟩
    obtain ⟨D, err⟩ := z
    replace R1 := hK.rw R1 (.inl (.inl h10))
    have hb3 := hbel.trans (hK.below (B := w.heap.size) (fun k hk => .inl (.inl (by omega))) hbel.size)
    have HF : Hid (FHas (w6.setRow (w.heap.size + 1 + 1) #[.slice p3 D.fs.length c3, .int .i64 D.room, .int .i64 D.arm, .bool D.dead]) (.slice p3 D.fs.length c3) D.fs) := hF.row R1 _
    have R1a := R1.row #[.slice p3 D.fs.length c3, .int .i64 D.room, .int .i64 D.arm, .bool D.dead]
    have hb10 := bel_row hb3 (b := w.heap.size + 1 + 1) (by omega) #[.slice p3 D.fs.length c3, .int .i64 D.room, .int .i64 D.arm, .bool D.dead]
    clear hF hK hbel RW
    go_wp2_with (first | refine store_r rfl 26 _ _ rfl _ _ rfl rfl R1 size26 rfl (by simp [Value.oneCell']) ?_)
    refine bodyPost_ret (results_rt rfl rfl R1a rfl Try.underlying26 size26) rfl ⟨p3, c3, rfl, HF.out, hb10⟩
end Go.Proofs.Ytjjncmenkepcoaa
