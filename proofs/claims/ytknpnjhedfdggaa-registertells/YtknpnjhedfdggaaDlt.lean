/- slices.DeleteFunc over a row of writes of the call's own. -/
import Derived.Test.YtknpnjhedfdggaaDel
namespace Go.Proofs.Ytknpnjhedfdggaa
open Go.RowKit

/-- What DeleteFunc answers: a row of its own. -/
def DlPost (B : Nat) (v0 : Value) (l : List Wt) (w : World) (e : Ending) (w' : World) : Prop := ∃ u, e = .returned u ∧ w'.ownsRow B 42 5 u l.length (rows Wt.cells l) ∧ Kp v0.ownBlock w w' ∧ (u.ownBlock = none ∨ u.ownBlock = v0.ownBlock) ∧ Below B w w'
set_option maxHeartbeats 4000000 in
set_option maxRecDepth 100000 in
theorem delete_any (B : Nat) (v0 : Value) (l : List Wt) (bt bi : Nat) (q u : Int) (v : List Int) (t : Int) (sl : Value) (idx : Int) (w : World) (hv : v.length = 13) (hown : w.ownsRow B 42 5 v0 l.length (rows Wt.cells l)) (hl : l.length ≤ 100) (hbt : bt < B) (hbi : bi < B) (hBw : B ≤ w.heap.size) (hX : Bxs w bt bi q u v t sl idx) :
    Calls Try.prog 34 #[v0, .func (.func 35) #[] #[.pointer (some ⟨bt, 0, none⟩), .pointer (some ⟨bi, 0, none⟩)]] w (DlPost B v0 (l.filter (fun y => !bf y.p y.s y.i q u v idx)) w) := by
  obtain ⟨f, hf⟩ : ∃ f : Wt → Bool, f = fun y => bf y.p y.s y.i q u v idx := ⟨_, rfl⟩
  have C : ∀ (y : Wt) (w' : World), Bxs w' bt bi q u v t sl idx → Calls Try.prog 35 #[WV y.p y.s y.i y.t y.x, .pointer (some ⟨bt, 0, none⟩), .pointer (some ⟨bi, 0, none⟩)] w' (Tells (.bool (f y)) w') := fun y w' h => by rw [hf]; exact clear1_any y bt bi q u v t sl idx w' hv h
  rw [show (fun y : Wt => !bf y.p y.s y.i q u v idx) = fun y => !f y by rw [hf]]
  clear hf
  obtain ⟨p, c, rfl⟩ := own_sl hown
  have CI := index_any _ l f bt bi w (own_sh hown) hl (fun y w' hb => C y w' (hX.later hb))
  have HX : Hid (Bxs w bt bi q u v t sl idx) := hX
  have HO : Hid (w.ownsRow B 42 5 (.slice p l.length c) l.length (rows Wt.cells l)) := hown
  clear hown hX
  go_enter Try.func34, Try.ntmps34
  go_wp2_with fail
  refine CI.mono ?_
  clear CI
  rintro e w1 (⟨rfl, hall, hb1⟩ | ⟨k, hk, rfl, hfk, hbf, hb1⟩)
  · have HE : Hid (l.filter (fun y => !f y) = l) := by
      show _ = _
      rw [List.filter_eq_self]
      intro y hy
      rw [hall y hy]
      rfl
    clear hall C
    go_wp2_with fail
    go_ret
    refine ⟨_, rfl, ?_, fun b h _ => hb1.block b h, .inr rfl, hb1.mono hBw⟩
    rw [HE.out]
    exact own_later HO.out hb1
  · obtain ⟨g, rfl, hg⟩ := own_some HO.out (by omega)
    have ho := own_later HO.out hb1
    obtain ⟨hxl, ⟨h0, _⟩ | ⟨g', cap, cur, h0, hBg, hgc, hnc, hcm, hcs, htake⟩⟩ := ho
    · simp at h0
    simp only [Value.slice.injEq, Option.some.injEq, Addr.mk.injEq, and_true, true_and] at h0
    obtain ⟨rfl, rfl⟩ := h0
    have HD : Hid (DI l f k (k + 1) cur) := DI.start hk hfk hbf htake
    have HB : Hid (Bxs w1 bt bi q u v t sl idx) := HX.out.later hb1
    have HR : Hid (Rw w1 g 42 cur) := hgc
    have hbel := hb1.mono hBw
    have HK : Hid (Kp (some g) w w1) := fun b h _ => hb1.block b h
    have hsw : w.heap.size ≤ w1.heap.size := hb1.size
    clear HX HO hfk hbf htake hxl hgc hb1
    have hkb : ((k : Int) == -1) = false := by
      rw [beq_eq_false_iff_ne]
      omega
    go_wp2_with fail
    go_loopw [5, 6] (fun vi vj wr => ∃ a j : Nat, ∃ cr : Array Value, vi = .int .i64 a ∧ vj = .int .i64 j ∧ j ≤ l.length ∧ a < j ∧ Hid (DI l f a j cr) ∧ cr.size = c * 5 ∧ Hid (Rw wr g 42 cr) ∧ Hid (Bxs wr bt bi q u v t sl idx) ∧ Hid (Kp (some g) w wr) ∧ w.heap.size ≤ wr.heap.size ∧ Below B w wr) (fun _ vj _ => l.length - (intOf vj).toNat)
    case atStart => exact ⟨k, k + 1, cur, rfl, by simp, by omega, by omega, HD, hcs, HR, HB, HK, hsw, hbel⟩
    case round =>
      clear HD hcs HR HB HK hsw hbel
      obtain ⟨a, j, cr, rfl, rfl, hj, haj, HD, hcs, HR, HB, HK, hsw, hbel⟩ := hrel
      by_cases hlt : j < l.length
      · have hlt' : (j : Int) < (l.length : Int) := by omega
        have hgl := HR.out.lt
        have d := DI.elem HD.out hlt HR.out
        obtain ⟨x, HXX⟩ := hid_ex l[j]
        rw [HXX.out] at d
        have z42 : (Try.prog.info? 42).map (·.size) = some x.cells.length := size42
        have hbA := bel_alloc (Below.refl wr.heap.size wr) (.cells #[.int .i64 x.p, .int .i64 x.s, .int .i64 x.i, .int .i64 x.t, .string x.x] 42)
        have R := rw_new wr 42 #[.int .i64 x.p, .int .i64 x.s, .int .i64 x.i, .int .i64 x.t, .string x.x]
        have Cx := C x _ (HB.out.later hbA)
        obtain ⟨y, HY⟩ := hid_ex (f x)
        rw [HY.out] at Cx
        have HF : Hid (f l[j] = y) := by show _ = _; rw [HXX.out, HY.out]
        clear C HY
        have hBr := Nat.le_trans hBw hbel.size
        go_wp2_with (refine load_m 42 _ rfl rfl _ _ rfl d Try.underlying42 rfl z42 ?_)
        refine Cx.mono ?_
        clear Cx d
        rintro e w2 ⟨rfl, hb2⟩
        have hbC := below_on hbA hb2
        replace R := R.later hb2
        replace HR : Hid (Rw w2 g 42 cr) := HR.out.later hbC
        replace HB : Hid (Bxs w2 bt bi q u v t sl idx) := HB.out.later hbC
        replace hbel := hbel.trans (hbC.mono hBr)
        replace HK : Hid (Kp (some g) w w2) := HK.out.on hsw hbC
        replace hsw := Nat.le_trans hsw hbC.size
        clear hbA hb2 hbC
        cases y
        · have HD2 : Hid (DI l f (a + 1) (j + 1) (cr.toList.take (a * 5) ++ x.cells ++ cr.toList.drop (a * 5 + 5)).toArray) := by
            have := DI.keep HD.out hlt haj (by omega) HF.out
            rw [HXX.out] at this
            exact this
          have hal' : (a : Int) < (l.length : Int) := by omega
          have ha0 : (0 : Int) ≤ (a : Int) := by omega
          have RR := HR.out
          clear HXX HF
          go_wp2_with (first | refine load_r 42 _ rfl rfl _ rfl R Try.underlying42 rfl size42 ?_ | refine store_mr rfl 42 _ _ rfl _ _ #[.int .i64 x.p, .int .i64 x.s, .int .i64 x.i, .int .i64 x.t, .string x.x] rfl rfl RR size42 ?hfit (by simp [Value.oneCell']) ?_)
          case hfit => simp; omega
          go_roundw
          case rel =>
            refine ⟨a + 1, j + 1, _, by simp, by simp, by omega, by omega, ?_, ?_, RR.row _, HB.out.row (by omega) (by omega) _, HK.out.row _, (by simpa [World.setRow] using hsw), below_setRow hbel hBg _⟩
            · have := HD2.out
              simp only [List.append_assoc, List.cons_append, List.nil_append] at this
              exact this
            · simp
              omega
          case measure => simp [intOf]; omega
        · have HD2 : Hid (DI l f a (j + 1) cr) := DI.skip HD.out hlt HF.out
          clear HF HXX R
          go_wp2_with fail
          go_roundw
          case rel => exact ⟨a, j + 1, cr, rfl, by simp, by omega, by omega, HD2, hcs, HR, HB, HK, hsw, hbel⟩
          case measure => simp [intOf]; omega
      · obtain rfl : j = l.length := by omega
        have hlt' : ¬ (l.length : Int) < (l.length : Int) := by omega
        have hal' : (a : Int) < (l.length : Int) := by omega
        have hale : (a : Int) ≤ (l.length : Int) := by omega
        have hca : ¬ (c = a) := by omega
        have hac : (a : Int) ≤ (c : Int) := by omega
        have han : a ≤ l.length := by omega
        have ha0 : (0 : Int) ≤ (a : Int) := by omega
        have RR := HR.out
        have hcl : ∀ ty cc, (Builtin.clear_ #[23] ty #[.slice (some ⟨g, a * 5, none⟩) (l.length - a) cc]).run Try.prog wr = .ok (.tuple #[]) (wr.setRow g (cr.toList.take (a * 5) ++ (Builtin.zeroCells (WV 0 0 0 0 noS).cells (l.length - a)).toList ++ cr.toList.drop (a * 5 + (l.length - a) * 5)).toArray) := fun ty cc => run_clear_rowS wr 23 42 ty _ 5 Try.underlying23 zero42 rfl (by decide) (by intro u hu; simp [Value.cells] at hu; rcases hu with rfl | rfl <;> rfl) g (a * 5) _ cc (by omega) 42 cr RR (by omega)
        obtain ⟨cr2, HC2⟩ := hid_ex (cr.toList.take (a * 5) ++ (Builtin.zeroCells (WV 0 0 0 0 noS).cells (l.length - a)).toList ++ cr.toList.drop (a * 5 + (l.length - a) * 5)).toArray
        rw [HC2.out] at hcl
        have hs2 : cr2.size = c * 5 := by
          rw [← HC2.out]
          simp [Builtin.zeroCells, Value.cells]
          omega
        have ht2 : cr2.toList.take (a * 5) = rows Wt.cells (l.filter (fun y => !f y)) := by
          have := HD.out.t
          rw [List.take_length] at this
          rw [← HC2.out, ← this, List.toList_toArray, List.append_assoc, List.take_left' (by rw [List.length_take, Array.length_toList]; omega)]
        have hn2 : a = (l.filter (fun y => !f y)).length := by
          have := HD.out.n
          rwa [List.take_length] at this
        have HP : Hid (a = (l.filter (fun y => !f y)).length ∧ cr2.toList.take (a * 5) = rows Wt.cells (l.filter (fun y => !f y))) := ⟨hn2, ht2⟩
        clear ht2 hn2 HC2 C HD HB HR
        go_wp2_with (first | (at_builtin; refine clear_run rfl _ 23 rfl _ rfl (hcl _ _) ?_))
        go_ret
        refine ⟨_, rfl, ?_, HK.out.row _, .inr rfl, below_setRow hbel hBg _⟩
        obtain ⟨h1, h2⟩ := HP.out
        rw [← h1, ← h2]
        refine ⟨?_, .inr ⟨g, c, cr2, rfl, hBg, RR.row cr2, by omega, hcm, hs2, rfl⟩⟩
        rw [List.length_take, Array.length_toList]
        omega
end Go.Proofs.Ytknpnjhedfdggaa
