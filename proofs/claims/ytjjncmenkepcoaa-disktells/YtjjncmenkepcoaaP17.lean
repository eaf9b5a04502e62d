import Derived.Test.YtjjncmenkepcoaaP9
import Derived.Deep.Slices
/- Acts on disks: where they lie, whether they are small, and what they do. -/
namespace Go.Proofs.Ytjjncmenkepcoaa.HeldI

/-- Two that may come up: a call, and an operation that comes to a value. -/
theorem knvl {P : Program} {ops : Array Oper} {Q : Exit → Act → World → Prop} {S : World → Prop} {fuel : Nat} {listed : Array Bool} {a a2 : Act} {w w1 : World} {o o2 : Oper} (i j : Nat) {f : FuncId} {us : Array Operand} {ts : Array TypeId} {args : List Value} {φ : Ending → World → Prop} {au : Value → Act} {v : Value} (hc : Calls P f args.toArray w φ) (h : ∀ e w', φ e w' → ∃ u, e = .returned u ∧ S w' ∧ wpAnyH P .any ops Q S fuel (listed.setIfInBounds i true) (au u) w')
    (hv : (execOp a.eval o2).run P w = .ok (.value v) w1) (hS : S w1) (h2 : wpAnyH P .any ops Q S fuel (listed.setIfInBounds j true) a2 w1)
    (hi : ops[i]? = some o := by (simp only [List.getElem?_toArray, List.getElem?_cons_succ, List.getElem?_cons_zero]; rfl)) (hj : ops[j]? = some o2 := by (simp only [List.getElem?_toArray, List.getElem?_cons_succ, List.getElem?_cons_zero]; rfl)) (hr : Region.ready .any ops listed = [i, j] := by kernel_rfl) (hw : Region.wanted o (yielded ops a.tmps) = true := by rfl) (hw2 : Region.wanted o2 (yielded ops a.tmps) = true := by rfl) (hf : Calm.enters P f = true := by kernel_rfl)
    (ho : o.op = .call { callee := .value (.func f), args := us, argTypes := ts } := by rfl) (ha : us.toList.map a.eval = args := by rfl) (hp : ∀ u, a.put o.dst u = au u := by (intro u; simp only [Act.put, List.setIfInBounds_toArray, List.set_cons_zero, List.set_cons_succ]; rfl)) (hp2 : a.put o2.dst v = a2 := by (simp only [Act.put, List.setIfInBounds_toArray, List.set_cons_zero, List.set_cons_succ]; rfl)) : wpAnyH P .any ops Q S (fuel + 1) listed a w :=
  wpAnyH_all hr (by simp) fun k hk => by
    simp only [List.mem_cons, List.not_mem_nil, or_false] at hk
    rcases hk with rfl | rfl
    · unfold wpOp
      simp only [hi, hw, if_true]
      left
      have e : ∀ args, (callFunc f args).run P w = .ok (.enter f args) w := fun args => Calm.enters_run hf args w
      have hr' : (execOp a.eval o).run P w = .ok (.enter f args.toArray) w := by
        have ha' : us.map a.eval = args.toArray := by
          rw [← ha, ← Array.toList_map, Array.toArray_toList]
        unfold execOp
        rw [ho]
        simp [go_sem, Act.eval, e, ← ha']
      unfold Oper.wp
      rw [hr']
      refine hc.mono fun e w' he => ?_
      obtain ⟨u, rfl, h1, h2⟩ := h e w' he
      exact ⟨h1, hp u ▸ h2⟩
    · unfold wpOp
      simp only [hj, hw2, if_true]
      left
      unfold Oper.wp
      rw [hv]
      exact ⟨hS, hp2 ▸ h2⟩
end Go.Proofs.Ytjjncmenkepcoaa.HeldI
namespace Go.Proofs.Ytjjncmenkepcoaa
open Go.RowKit

/-- An act. -/
structure AV where
  k : Int
  x : ByteArray
  d : List UInt8
  n : Int
abbrev AV.cells (a : AV × Value) : List Value := [.int .i64 a.1.k, .string a.1.x, a.2, .int .i64 a.1.n]
theorem AV.len (a : AV × Value) : (AV.cells a).length = 4 := rfl
def AHas (w : World) (v : Value) (l : List AV) : Prop := ∃ ys : List (AV × Value), ys.map (·.1) = l ∧ SHas 4 w v l.length (rows AV.cells ys) ∧ ∀ y ∈ ys, DB w y.2 y.1.d
theorem AHas.later {w w' : World} {v : Value} {l : List AV} (h : AHas w v l) (hb : Below w.heap.size w w') : AHas w' v l := by
  obtain ⟨ys, h1, h2, h3⟩ := h
  exact ⟨ys, h1, h2.later hb, fun y hy => (h3 y hy).later hb⟩
theorem AHas.slice {w : World} {v : Value} {l : List AV} (h : AHas w v l) : ∃ p c, v = .slice p l.length c := by
  obtain ⟨ys, h1, h2, h3⟩ := h
  exact h2.slice
theorem AHas.max {w : World} {v : Value} {l : List AV} (h : AHas w v l) : l.length ≤ maxLen := by
  obtain ⟨ys, h1, h2, h3⟩ := h
  exact h2.1
theorem AHas.at {w : World} {p : Option Addr} {c : Nat} {l : List AV} (h : AHas w (.slice p l.length c) l) (k : Nat) (hk : k < l.length) : ∃ g o sl, p = some ⟨g, o, none⟩ ∧ w.rangeAt g (o + k * 4) [.int .i64 l[k].k, .string l[k].x, sl, .int .i64 l[k].n] ∧ DB w sl l[k].d := by
  obtain ⟨ys, rfl, h2, h3⟩ := h
  have hk' : k < ys.length := by simpa using hk
  obtain ⟨g, o, rfl, hd⟩ := h2.at (by omega)
  refine ⟨g, o, ys[k].2, rfl, ?_, ?_⟩
  · have : w.rangeAt g (o + k * 4) (AV.cells ys[k]) := range_sub hd (k * 4) fun j u hu => rows_at AV.len ys k hk' j u hu
    simpa using this
  · simpa using h3 ys[k] (List.getElem_mem _)
def asu (l : List AV) : Nat := (l.map (·.d.length)).sum
theorem asu_take_succ {l : List AV} {k : Nat} (h : k < l.length) : asu (l.take (k + 1)) = asu (l.take k) + l[k].d.length := by
  unfold asu
  rw [List.take_succ_eq_append_getElem h, List.map_append, List.sum_append]
  simp
def smF (l : List AV) : Bool := decide (∀ k (h : k < l.length), l[k].x.size ≤ 100 ∧ l[k].d.length + asu (l.take k) ≤ 6000)
def smA (l : List AV) : Bool := decide (l.length ≤ 60) && smF l
theorem smF_not {l : List AV} {k : Nat} (h : k < l.length) (h2 : ¬ (l[k].x.size ≤ 100 ∧ l[k].d.length + asu (l.take k) ≤ 6000)) : smF l = false := decide_eq_false fun e => h2 (e k h)
theorem size55 : (Try.prog.info? 55).map (·.size) = some 4 := by kernel_rfl
/-- What an act does. -/
def doD (d : DV) (a : AV) : DV × Int := if a.k = 0 then putD d a.x a.d else if a.k = 1 then appD d a.x a.d else if a.k = 2 then synD d a.x else if a.k = 3 then droD d a.x else if a.k = 4 then armD d a.n else if a.k = 5 then (craD d a.n, 0) else (d, 0)
set_option maxHeartbeats 8000000 in
set_option maxRecDepth 100000 in
theorem do_any (K : Prk) (d : DV) (q : Option Addr) (c : Nat) (ak : Int) (ax : ByteArray) (ad : List UInt8) (an : Int) (u : Value) (w : World) (h : FHas w (.slice q d.fs.length c) d.fs) (TM : Tm d) (hu : DB w u ad) (hx : ax.size ≤ 100) (hdl : ad.length ≤ 6000) (hn1 : -9223372036854775808 ≤ an) (hn2 : an ≤ 9223372036854775807) : Calls Try.prog 32 #[DKV.of (.slice q d.fs.length c) d, .agg #[.int .i64 ak, .string ax, u, .int .i64 an]] w (DEPost (doD d ⟨ak, ax, ad, an⟩) w) := by
  obtain ⟨z, HZ⟩ := hid_ex (doD d ⟨ak, ax, ad, an⟩)
  rw [HZ.out]
  obtain ⟨pu, cu, rfl⟩ := SHas.slice hu
  have HU : Hid (∀ w', Below w.heap.size w w' → DB w' (.slice pu ad.length cu) ad) := fun w' hb => SHas.later hu hb
  have H : Hid (∀ w', Below w.heap.size w w' → FHas w' (.slice q d.fs.length c) d.fs) := fun w' hb => h.later hb
  clear hu h
  have R0 := ((rw_new w 26 #[(.slice q d.fs.length c), .int .i64 d.room, .int .i64 d.arm, .bool d.dead]).alloc (.cells #[.int .i64 ak, .string ax, .slice pu ad.length cu, .int .i64 an] 55)).alloc (.cells #[.slice none 0 0, .int .i64 0, .int .i64 0, .bool false] 26)
  have RA := (rw_next (w.alloc (.cells #[(.slice q d.fs.length c), .int .i64 d.room, .int .i64 d.arm, .bool d.dead] 26)) (b := w.heap.size + 1) (by simp) 55 #[.int .i64 ak, .string ax, .slice pu ad.length cu, .int .i64 an]).alloc (.cells #[.slice none 0 0, .int .i64 0, .int .i64 0, .bool false] 26)
  have R1 := rw_next ((w.alloc (.cells #[(.slice q d.fs.length c), .int .i64 d.room, .int .i64 d.arm, .bool d.dead] 26)).alloc (.cells #[.int .i64 ak, .string ax, .slice pu ad.length cu, .int .i64 an] 55)) (b := w.heap.size + 2) (by simp) 26 #[.slice none 0 0, .int .i64 0, .int .i64 0, .bool false]
  have hbel := bel_alloc (bel_alloc (bel_alloc (Below.refl w.heap.size w) (.cells #[(.slice q d.fs.length c), .int .i64 d.room, .int .i64 d.arm, .bool d.dead] 26)) (.cells #[.int .i64 ak, .string ax, .slice pu ad.length cu, .int .i64 an] 55)) (.cells #[.slice none 0 0, .int .i64 0, .int .i64 0, .bool false] 26)
  generalize hW : ((w.alloc (.cells #[(.slice q d.fs.length c), .int .i64 d.room, .int .i64 d.arm, .bool d.dead] 26)).alloc (.cells #[.int .i64 ak, .string ax, .slice pu ad.length cu, .int .i64 an] 55)).alloc (.cells #[.slice none 0 0, .int .i64 0, .int .i64 0, .bool false] 26) = w0 at R0 RA R1 hbel
  have a0 : w0.cell? ⟨w.heap.size + 1, 0, none⟩ = some (.int .i64 ak) := RA.cell 0
  have a1 : w0.cell? ⟨w.heap.size + 1, 1, none⟩ = some (.string ax) := RA.cell 1
  have a2 : w0.cell? ⟨w.heap.size + 1, 2, none⟩ = some (.slice pu ad.length cu) := RA.cell 2
  have a3 : w0.cell? ⟨w.heap.size + 1, 3, none⟩ = some (.int .i64 an) := RA.cell 3
  go_enter Try.func32, Try.ntmps32
  by_cases hk0 : ak = 0
  case pos =>
    obtain ⟨⟨D5, z5⟩, E5⟩ := hid_ex (putD d ax ad)
    have hz : doD d ⟨ak, ax, ad, an⟩ = (D5, z5) := by rw [← E5.out]; unfold doD; simp [hk0]
    rw [hz] at HZ
    obtain rfl := HZ.out
    have C := K.put d _ ax ad _ w0 (H.out w0 hbel) TM hx (HU.out w0 hbel) hdl
    rw [E5.out] at C
    have C := show Calls Try.prog 9 #[DKV.of (.slice q d.fs.length c) d, .string ax, .slice pu ad.length cu] w0 (DQ D5 z5 w0) from C
    clear E5 hz K
    subst hk0
    go_wp2_with (first | rw [hW] | refine load_r 26 _ rfl rfl _ rfl R0 Try.underlying26 rfl size26 ?_)
    refine C.mono ?_
    rintro e w1 ⟨p5, c5, rfl, F5, hb1⟩
    replace R1 := R1.later hb1
    replace hbel := below_on hbel hb1
    have F9 := F5.row R1 (dkc p5 c5 D5)
    have R1a := R1.row (dkc p5 c5 D5)
    have hb10 := bel_row hbel (b := w.heap.size + 2) (by omega) (dkc p5 c5 D5)
    clear C F5 hb1
    go_wp2_with (first | refine store_r rfl 26 _ _ rfl _ _ rfl rfl R1 size26 rfl (by simp [Value.oneCell']) ?_)
    refine bodyPost_ret (results_rt rfl rfl R1a rfl Try.underlying26 size26) rfl ⟨_, _, rfl, F9, hb10⟩
  have g0 : (ak == 0) = false := by rw [beq_eq_false_iff_ne]; exact hk0
  by_cases hk1 : ak = 1
  case pos =>
    obtain ⟨⟨D5, z5⟩, E5⟩ := hid_ex (appD d ax ad)
    have hz : doD d ⟨ak, ax, ad, an⟩ = (D5, z5) := by rw [← E5.out]; unfold doD; simp [hk1]
    rw [hz] at HZ
    obtain rfl := HZ.out
    have C := K.app d _ ax ad _ w0 (H.out w0 hbel) TM hx (HU.out w0 hbel) hdl
    rw [E5.out] at C
    have C := show Calls Try.prog 14 #[DKV.of (.slice q d.fs.length c) d, .string ax, .slice pu ad.length cu] w0 (DQ D5 z5 w0) from C
    clear E5 hz K
    subst hk1
    go_wp2_with (first | rw [hW] | refine load_r 26 _ rfl rfl _ rfl R0 Try.underlying26 rfl size26 ?_)
    refine C.mono ?_
    rintro e w1 ⟨p5, c5, rfl, F5, hb1⟩
    replace R1 := R1.later hb1
    replace hbel := below_on hbel hb1
    have F9 := F5.row R1 (dkc p5 c5 D5)
    have R1a := R1.row (dkc p5 c5 D5)
    have hb10 := bel_row hbel (b := w.heap.size + 2) (by omega) (dkc p5 c5 D5)
    clear C F5 hb1
    go_wp2_with (first | refine store_r rfl 26 _ _ rfl _ _ rfl rfl R1 size26 rfl (by simp [Value.oneCell']) ?_)
    refine bodyPost_ret (results_rt rfl rfl R1a rfl Try.underlying26 size26) rfl ⟨_, _, rfl, F9, hb10⟩
  have g1 : (ak == 1) = false := by rw [beq_eq_false_iff_ne]; exact hk1
  by_cases hk2 : ak = 2
  case pos =>
    obtain ⟨⟨D5, z5⟩, E5⟩ := hid_ex (synD d ax)
    have hz : doD d ⟨ak, ax, ad, an⟩ = (D5, z5) := by rw [← E5.out]; unfold doD; simp [hk2]
    rw [hz] at HZ
    obtain rfl := HZ.out
    have C := K.sync d _ ax w0 (H.out w0 hbel) TM hx
    rw [E5.out] at C
    have C := show Calls Try.prog 17 #[DKV.of (.slice q d.fs.length c) d, .string ax] w0 (DQ D5 z5 w0) from C
    clear E5 hz K
    subst hk2
    go_wp2_with (first | rw [hW] | refine load_r 26 _ rfl rfl _ rfl R0 Try.underlying26 rfl size26 ?_)
    refine C.mono ?_
    rintro e w1 ⟨p5, c5, rfl, F5, hb1⟩
    replace R1 := R1.later hb1
    replace hbel := below_on hbel hb1
    have F9 := F5.row R1 (dkc p5 c5 D5)
    have R1a := R1.row (dkc p5 c5 D5)
    have hb10 := bel_row hbel (b := w.heap.size + 2) (by omega) (dkc p5 c5 D5)
    clear C F5 hb1
    go_wp2_with (first | refine store_r rfl 26 _ _ rfl _ _ rfl rfl R1 size26 rfl (by simp [Value.oneCell']) ?_)
    refine bodyPost_ret (results_rt rfl rfl R1a rfl Try.underlying26 size26) rfl ⟨_, _, rfl, F9, hb10⟩
  have g2 : (ak == 2) = false := by rw [beq_eq_false_iff_ne]; exact hk2
  by_cases hk3 : ak = 3
  case pos =>
    obtain ⟨⟨D5, z5⟩, E5⟩ := hid_ex (droD d ax)
    have hz : doD d ⟨ak, ax, ad, an⟩ = (D5, z5) := by rw [← E5.out]; unfold doD; simp [hk3]
    rw [hz] at HZ
    obtain rfl := HZ.out
    have C := K.drop d _ ax w0 (H.out w0 hbel) TM hx
    rw [E5.out] at C
    have C := show Calls Try.prog 19 #[DKV.of (.slice q d.fs.length c) d, .string ax] w0 (DQ D5 z5 w0) from C
    clear E5 hz K
    subst hk3
    go_wp2_with (first | rw [hW] | refine load_r 26 _ rfl rfl _ rfl R0 Try.underlying26 rfl size26 ?_)
    refine C.mono ?_
    rintro e w1 ⟨p5, c5, rfl, F5, hb1⟩
    replace R1 := R1.later hb1
    replace hbel := below_on hbel hb1
    have F9 := F5.row R1 (dkc p5 c5 D5)
    have R1a := R1.row (dkc p5 c5 D5)
    have hb10 := bel_row hbel (b := w.heap.size + 2) (by omega) (dkc p5 c5 D5)
    clear C F5 hb1
    go_wp2_with (first | refine store_r rfl 26 _ _ rfl _ _ rfl rfl R1 size26 rfl (by simp [Value.oneCell']) ?_)
    refine bodyPost_ret (results_rt rfl rfl R1a rfl Try.underlying26 size26) rfl ⟨_, _, rfl, F9, hb10⟩
  have g3 : (ak == 3) = false := by rw [beq_eq_false_iff_ne]; exact hk3
  by_cases hk4 : ak = 4
  case pos =>
    obtain ⟨⟨D5, z5⟩, E5⟩ := hid_ex (armD d an)
    have hz : doD d ⟨ak, ax, ad, an⟩ = (D5, z5) := by rw [← E5.out]; unfold doD; simp [hk4]
    rw [hz] at HZ
    obtain rfl := HZ.out
    have C := K.arm d _ an w0 (H.out w0 hbel) TM hn1 hn2
    rw [E5.out] at C
    have C := show Calls Try.prog 8 #[DKV.of (.slice q d.fs.length c) d, .int .i64 an] w0 (DQ D5 z5 w0) from C
    clear E5 hz K
    subst hk4
    go_wp2_with (first | rw [hW] | refine load_r 26 _ rfl rfl _ rfl R0 Try.underlying26 rfl size26 ?_)
    refine C.mono ?_
    rintro e w1 ⟨p5, c5, rfl, F5, hb1⟩
    replace R1 := R1.later hb1
    replace hbel := below_on hbel hb1
    have F9 := F5.row R1 (dkc p5 c5 D5)
    have R1a := R1.row (dkc p5 c5 D5)
    have hb10 := bel_row hbel (b := w.heap.size + 2) (by omega) (dkc p5 c5 D5)
    clear C F5 hb1
    go_wp2_with (first | refine store_r rfl 26 _ _ rfl _ _ rfl rfl R1 size26 rfl (by simp [Value.oneCell']) ?_)
    refine bodyPost_ret (results_rt rfl rfl R1a rfl Try.underlying26 size26) rfl ⟨_, _, rfl, F9, hb10⟩
  have g4 : (ak == 4) = false := by rw [beq_eq_false_iff_ne]; exact hk4
  by_cases hk5 : ak = 5
  case pos =>
    obtain ⟨D5, E5⟩ := hid_ex (craD d an)
    have hz : doD d ⟨ak, ax, ad, an⟩ = (D5, 0) := by rw [← E5.out]; unfold doD; simp [hk5]
    rw [hz] at HZ
    obtain rfl := HZ.out
    have C := K.crash d _ an w0 (H.out w0 hbel) TM hn1 hn2
    rw [E5.out] at C
    clear E5 hz K
    subst hk5
    go_wp2_with (first | rw [hW] | refine load_r 26 _ rfl rfl _ rfl R0 Try.underlying26 rfl size26 ?_)
    refine C.mono ?_
    rintro e w1 ⟨p5, c5, rfl, F5, hb1⟩
    replace R1 := R1.later hb1
    replace hbel := below_on hbel hb1
    have F9 := F5.row R1 (dkc p5 c5 D5)
    have R1a := R1.row (dkc p5 c5 D5)
    have hb10 := bel_row hbel (b := w.heap.size + 2) (by omega) (dkc p5 c5 D5)
    clear C F5 hb1
    go_wp2_with (first | refine store_r rfl 26 _ _ rfl _ _ rfl rfl R1 size26 rfl (by simp [Value.oneCell']) ?_)
    refine bodyPost_ret (results_rt rfl rfl R1a rfl Try.underlying26 size26) rfl ⟨_, _, rfl, F9, hb10⟩
  have g5 : (ak == 5) = false := by rw [beq_eq_false_iff_ne]; exact hk5
  have hz : doD d ⟨ak, ax, ad, an⟩ = (d, 0) := by unfold doD; simp [hk0, hk1, hk2, hk3, hk4, hk5]
  rw [hz] at HZ
  obtain rfl := HZ.out
  have F9 := H.out _ (bel_row hbel (b := w.heap.size + 2) (by omega) #[(.slice q d.fs.length c), .int .i64 d.room, .int .i64 d.arm, .bool d.dead])
  have R1a := R1.row #[(.slice q d.fs.length c), .int .i64 d.room, .int .i64 d.arm, .bool d.dead]
  have hb10 := bel_row hbel (b := w.heap.size + 2) (by omega) #[(.slice q d.fs.length c), .int .i64 d.room, .int .i64 d.arm, .bool d.dead]
  clear hz K
  go_wp2_with (first | rw [hW] | refine load_r 26 _ rfl rfl _ rfl R0 Try.underlying26 rfl size26 ?_ | refine store_r rfl 26 _ _ rfl _ _ rfl rfl R1 size26 rfl (by simp [Value.oneCell']) ?_)
  refine bodyPost_ret (results_rt rfl rfl R1a rfl Try.underlying26 size26) rfl ⟨_, _, rfl, F9, hb10⟩
end Go.Proofs.Ytjjncmenkepcoaa
/- Disks, bytes and acts that came in, opened by how they are read. -/
namespace Go.Proofs.Ytjjncmenkepcoaa
open Go.ChangeShapes Go.WideShapes Go.ChangeAt Go.RowKit

section
variable {H : Type} {enc : TypeId × Value → H} {w : World} {base : Nat} {spare : Nat → Bool} {held : Bool}
theorem n3 : Try.prog.cellsOf 3 = 1 := by kernel_rfl
theorem n4 : Try.prog.cellsOf 4 = 1 := by kernel_rfl
theorem n5 : Try.prog.cellsOf 5 = 1 := by kernel_rfl
theorem n9 : Try.prog.cellsOf 9 = 1 := by kernel_rfl
theorem n22 : Try.prog.cellsOf 22 = 1 := by kernel_rfl
theorem n24 : Try.prog.cellsOf 24 = 1 := by kernel_rfl
theorem n26 : Try.prog.cellsOf 26 = 4 := by kernel_rfl
theorem n57 : Try.prog.cellsOf 57 = 3 := by kernel_rfl
theorem n55 : Try.prog.cellsOf 55 = 4 := by kernel_rfl
theorem rows_split {α : Type} {f : α → List Value} {S : Nat} (hf : ∀ x, (f x).length = S) : ∀ (l : List α) (j : Nat) (u : Value), (rows f l)[j]? = some u → ∃ i r, ∃ h : i < l.length, r < S ∧ j = i * S + r ∧ (f l[i])[r]? = some u
  | [], j, u, h => by simp [rows] at h
  | x :: l, j, u, h => by
    rw [rows_cons] at h
    rcases Nat.lt_or_ge j S with hj | hj
    · rw [List.getElem?_append_left (by rw [hf]; exact hj)] at h
      exact ⟨0, j, by simp, hj, by omega, h⟩
    · rw [List.getElem?_append_right (by rw [hf]; exact hj), hf] at h
      obtain ⟨i, r, hi, hr, e, hu⟩ := rows_split hf l (j - S) u h
      exact ⟨i + 1, r, by simpa using hi, hr, by rw [Nat.succ_mul]; omega, hu⟩
set_option maxRecDepth 100000 in
/-- A slice whose elements are known one by one. -/
theorem cells_rows {α : Type} [Inhabited α] {ts e S : Nat} (hu : Try.prog.underlying ts = some (.slice e)) (hS : Try.prog.cellsOf e = S) (hS0 : 0 < S) (f : α → List Value) (Pr : α → Prop) (hf : ∀ y, (f y).length = S)
    (each : ∀ (fuel : Nat) (cs : List Value) (x : DataW H × List MemPlace), DataW.trod enc Try.prog w base spare held fuel e cs = some x → ∃ y, cs = f y ∧ Pr y) {fuel : Nat} {cs : List Value} {x : DataW H × List MemPlace} (h : DataW.trod enc Try.prog w base spare held fuel ts cs = some x) :
    ∃ (v : Value) (l : List α), cs = [v] ∧ SHas S w v l.length (rows f l) ∧ (∀ y ∈ l, Pr y) ∧ ∀ b, (DataW.weights Try.prog ts x.1).all (· ≤ b) = true → l.length * Try.prog.bytesOf e ≤ b := by
  rcases DataW.trod_slice hu h with ⟨h0, hx⟩ | ⟨a, len, cap, elems, rest, m, hm, hcs, hx, hba, hl, hmx, hlen, hel, _, _⟩
  · exact ⟨_, [], h0, SHas.nil w S, (fun _ h => by cases h), fun b _ => by simp⟩
  · have one : ∀ i, i < len → ∃ y : α, (∀ j u, (f y)[j]? = some u → w.cell? (a.add (i * S + j)) = some u) ∧ Pr y := by
      intro i hi
      have hi' := hel i hi
      rw [hS, List.getElem?_eq_getElem (by omega)] at hi'
      obtain ⟨cs', h1, h2⟩ := Option.bind_eq_some_iff.1 hi'
      obtain ⟨_, hlen', hcell⟩ := World.cells?_some h1
      obtain ⟨y, rfl, hy⟩ := each _ _ _ h2
      refine ⟨y, fun j u hu => ?_, hy⟩
      have hj : j < S := by have := (List.getElem?_eq_some_iff.1 hu).1; rw [hf] at this; exact this
      have e := hcell j (by omega)
      rw [Deep.add_add] at e
      rw [e]
      exact hu
    obtain ⟨g, hk⟩ := Deep.choose_lt one
    have hll : ((List.range len).map g).length = len := by simp
    refine ⟨_, (List.range len).map g, hcs, ⟨by rw [hll]; omega, by rw [rows_length hf], .inr ⟨a, cap, by rw [hll], ⟨by rw [hll]; omega, by omega⟩, fun h0 => ?_⟩⟩, ?_, ?_⟩
    · have h0' : 0 < len := by simpa using h0
      obtain ⟨b, off, spot⟩ := a
      obtain ⟨u0, hu0⟩ : ∃ u0, (f (g 0))[0]? = some u0 := ⟨(f (g 0))[0]'(by rw [hf]; exact hS0), List.getElem?_eq_getElem _⟩
      have q0 := (hk 0 h0').1 0 _ hu0
      have hspot : spot = none := by simpa [Addr.add] using World.cell?_spot q0
      subst hspot
      refine ⟨b, off, rfl, fun j u hu => ?_⟩
      obtain ⟨i, r, hi, hr, rfl, hq⟩ := rows_split hf _ j u hu
      have hi' : i < len := by simpa using hi
      have := (hk i hi').1 r u (by simpa using hq)
      rw [Addr.add_mid] at this
      exact this
    · intro y hy
      obtain ⟨i, hi, rfl⟩ := List.mem_map.1 hy
      exact (hk i (by simpa using hi)).2
    · intro b hb
      rw [hx] at hb
      simp only [DataW.weights, hu, List.all_cons, Bool.and_eq_true, decide_eq_true_eq, List.length_map] at hb
      rw [hll, ← hlen]
      exact Nat.le_trans (Nat.mul_le_mul_right _ (Nat.le_add_right _ _)) hb.1
theorem rows_cel (l : List UInt8) : rows (fun b : UInt8 => [Value.int .u8 b.toNat]) l = cel l := by
  unfold rows cel
  induction l with
  | nil => rfl
  | cons b l ih => rw [List.flatMap_cons, ih, List.map_cons]; rfl
theorem cells_bytes {fuel : Nat} {cs : List Value} {x : DataW H × List MemPlace} (h : DataW.trod enc Try.prog w base spare held fuel 22 cs = some x) : ∃ (v : Value) (l : List UInt8), cs = [v] ∧ DB w v l := by
  have hinh : Inhabited UInt8 := ⟨0⟩
  obtain ⟨v, l, h1, h2, _, _⟩ := cells_rows (α := UInt8) Try.underlying22 n5 (by decide) (fun b : UInt8 => [Value.int .u8 b.toNat]) (fun _ => True) (fun _ => rfl) (fun fuel cs x hx => by
    obtain ⟨n, e, _, hw⟩ := DataW.trod_int Try.underlying5 hx
    have hb := bounds_u8 hw
    refine ⟨n.toNat.toUInt8, ?_, trivial⟩
    rw [e]
    have : ((n.toNat.toUInt8).toNat : Int) = n := by simp; omega
    rw [this]) h
  rw [rows_cel] at h2
  exact ⟨v, l, h1, h2⟩
theorem cells_file {fuel : Nat} {cs : List Value} {x : DataW H × List MemPlace} (h : DataW.trod enc Try.prog w base spare held fuel 57 cs = some x) : ∃ y : FV × Value, cs = FV.cells y ∧ DB w y.2 y.1.d := by
  obtain ⟨xs, k, rfl, _, hcl, hxl, hf⟩ := DataW.trod_struct Try.underlying57 h
  rw [n57] at hcl
  match xs, hxl, cs, hcl with
  | [y0, y1, y2], _, [v0, v1, v2], _ =>
    have g0 := hf 0 _ rfl
    have g1 := hf 1 _ rfl
    have g2 := hf 2 _ rfl
    simp [n3, n9, n22] at g0 g1 g2
    obtain ⟨s0, h0, _⟩ := DataW.trod_string Try.underlying9 g0
    obtain ⟨u1, l1, h1, hd⟩ := cells_bytes g1
    obtain ⟨m2, h2, _⟩ := DataW.trod_int Try.underlying3 g2
    simp at h0 h1 h2
    exact ⟨(⟨s0, l1, m2⟩, u1), by rw [h0, h1, h2], hd⟩
theorem cells_files {fuel : Nat} {cs : List Value} {x : DataW H × List MemPlace} (h : DataW.trod enc Try.prog w base spare held fuel 24 cs = some x) : ∃ (v : Value) (l : List FV), cs = [v] ∧ FHas w v l := by
  have hinh : Inhabited (FV × Value) := ⟨(⟨noS, [], 0⟩, .bool false)⟩
  obtain ⟨v, ys, h1, h2, h3, _⟩ := cells_rows (α := FV × Value) Try.underlying24 n57 (by decide) FV.cells (fun y => DB w y.2 y.1.d) FV.len (fun fuel cs x hx => cells_file hx) h
  exact ⟨v, ys.map (·.1), h1, ys, rfl, by rw [List.length_map]; exact h2, h3⟩
theorem cells_act {fuel : Nat} {cs : List Value} {x : DataW H × List MemPlace} (h : DataW.trod enc Try.prog w base spare held fuel 55 cs = some x) : ∃ y : AV × Value, cs = AV.cells y ∧ DB w y.2 y.1.d ∧ -9223372036854775808 ≤ y.1.n ∧ y.1.n ≤ 9223372036854775807 := by
  obtain ⟨xs, k, rfl, _, hcl, hxl, hf⟩ := DataW.trod_struct Try.underlying55 h
  rw [n55] at hcl
  match xs, hxl, cs, hcl with
  | [y0, y1, y2, y3], _, [v0, v1, v2, v3], _ =>
    have g0 := hf 0 _ rfl
    have g1 := hf 1 _ rfl
    have g2 := hf 2 _ rfl
    have g3 := hf 3 _ rfl
    simp [n3, n9, n22] at g0 g1 g2 g3
    obtain ⟨m0, h0, _⟩ := DataW.trod_int Try.underlying3 g0
    obtain ⟨s1, h1, _⟩ := DataW.trod_string Try.underlying9 g1
    obtain ⟨u2, l2, h2, hd⟩ := cells_bytes g2
    obtain ⟨m3, h3, _, hw⟩ := DataW.trod_int Try.underlying3 g3
    have hb := bounds_i64 hw
    simp at h0 h1 h2 h3
    exact ⟨(⟨m0, s1, l2, m3⟩, u2), by rw [h0, h1, h2, h3], hd, hb.1, hb.2⟩
theorem cells_acts {fuel : Nat} {cs : List Value} {x : DataW H × List MemPlace} (h : DataW.trod enc Try.prog w base spare held fuel 51 cs = some x) : ∃ (v : Value) (l : List AV), cs = [v] ∧ AHas w v l ∧ ∀ a ∈ l, -9223372036854775808 ≤ a.n ∧ a.n ≤ 9223372036854775807 := by
  have hinh : Inhabited (AV × Value) := ⟨(⟨0, noS, [], 0⟩, .bool false)⟩
  obtain ⟨v, ys, h1, h2, h3, _⟩ := cells_rows (α := AV × Value) Try.underlying51 n55 (by decide) AV.cells (fun y => DB w y.2 y.1.d ∧ -9223372036854775808 ≤ y.1.n ∧ y.1.n ≤ 9223372036854775807) AV.len (fun fuel cs x hx => cells_act hx) h
  exact ⟨v, ys.map (·.1), h1, ⟨ys, rfl, by rw [List.length_map]; exact h2, fun y hy => (h3 y hy).1⟩, fun a ha => by
    obtain ⟨y, hy, rfl⟩ := List.mem_map.1 ha
    exact (h3 y hy).2⟩
variable {r : Reach} {b0 : Nat} {v : Value} {d : DataW H} {ps : List MemPlace}
theorem open_by (hval : Value.okWide Try.prog w r b0 22 v) (hd : DataW.Trod enc Try.prog w base spare held 22 v d ps) : ∃ l : List UInt8, DB w v l := by
  obtain ⟨fuel, hf⟩ := hd
  obtain ⟨a, len, cap, rfl⟩ := okWide_slice Try.underlying22 hval
  obtain ⟨v', l, e, h⟩ := cells_bytes hf
  simp only [Value.cells, List.cons.injEq, and_true] at e
  exact ⟨l, by rw [← e] at h; exact h⟩
theorem open_acts (hval : Value.okWide Try.prog w r b0 51 v) (hd : DataW.Trod enc Try.prog w base spare held 51 v d ps) : ∃ l : List AV, AHas w v l ∧ ∀ a ∈ l, -9223372036854775808 ≤ a.n ∧ a.n ≤ 9223372036854775807 := by
  obtain ⟨fuel, hf⟩ := hd
  obtain ⟨a, len, cap, rfl⟩ := okWide_slice Try.underlying51 hval
  obtain ⟨v', l, e, h⟩ := cells_acts hf
  simp only [Value.cells, List.cons.injEq, and_true] at e
  exact ⟨l, by rw [← e] at h; exact h⟩
theorem open_disk (hval : Value.okWide Try.prog w r b0 26 v) (hd : DataW.Trod enc Try.prog w base spare held 26 v d ps) : ∃ (sl : Value) (D : DV), v = DKV.of sl D ∧ FHas w sl D.fs ∧ -9223372036854775808 ≤ D.room ∧ D.room ≤ 9223372036854775807 ∧ -9223372036854775808 ≤ D.arm ∧ D.arm ≤ 9223372036854775807 := by
  obtain ⟨fuel, hf⟩ := hd
  simp only [Value.okWide, Try.underlying26] at hval
  obtain ⟨cs, rfl, _⟩ := hval
  obtain ⟨xs, k, rfl, _, hcl, hxl, hf⟩ := DataW.trod_struct Try.underlying26 hf
  rw [n26] at hcl
  obtain ⟨cl⟩ := cs
  match xs, hxl, cl, hcl with
  | [y0, y1, y2, y3], _, [v0, v1, v2, v3], _ =>
    have g0 := hf 0 _ rfl
    have g1 := hf 1 _ rfl
    have g2 := hf 2 _ rfl
    have g3 := hf 3 _ rfl
    simp [n3, n4, n24, Value.cells] at g0 g1 g2 g3
    obtain ⟨u0, l0, h0, hF⟩ := cells_files g0
    obtain ⟨m1, h1, _, w1⟩ := DataW.trod_int Try.underlying3 g1
    obtain ⟨m2, h2, _, w2⟩ := DataW.trod_int Try.underlying3 g2
    obtain ⟨t3, h3, _⟩ := DataW.trod_bool Try.underlying4 g3
    have b1 := bounds_i64 w1
    have b2 := bounds_i64 w2
    simp at h0 h1 h2 h3
    exact ⟨u0, ⟨l0, m1, m2, t3⟩, by rw [h0, h1, h2, h3], hF, b1.1, b1.2, b2.1, b2.2⟩
end
end Go.Proofs.Ytjjncmenkepcoaa
