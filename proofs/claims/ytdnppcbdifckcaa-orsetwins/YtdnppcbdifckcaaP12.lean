import Derived.Test.YtdnppcbdifckcaaP11
/- slices.DeleteFunc over a row of marks of the call's own. -/
namespace Go.Proofs.Ytdnppcbdifckcaa
open Go.RowKit

/-- What DeleteFunc answers: a row of its own. -/
def DlPost (B : Nat) (v0 : Value) (l : List M) (w : World) (e : Ending) (w' : World) : Prop := ∃ u, e = .returned u ∧ w'.ownsRow B 44 3 u l.length (rows M.cells l) ∧ Kp v0.ownBlock w w' ∧ (u.ownBlock = none ∨ u.ownBlock = v0.ownBlock) ∧ Below B w w'
set_option maxHeartbeats 4000000 in
set_option maxRecDepth 100000 in
theorem delete_any (B : Nat) (v0 : Value) (l : List M) (bt bi : Nat) (q u : Int) (v : List Int) (t : Int) (sl : Value) (idx : Int) (w : World) (hv : v.length = 13) (hown : w.ownsRow B 44 3 v0 l.length (rows M.cells l)) (hl : l.length ≤ 100) (hbt : bt < B) (hbi : bi < B) (hBw : B ≤ w.heap.size) (hX : Bxs w bt bi q u v t sl idx) :
    Calls Try.prog 40 #[v0, .func (.func 46) #[] #[.pointer (some ⟨bt, 0, none⟩), .pointer (some ⟨bi, 0, none⟩)]] w (DlPost B v0 (l.filter (fun y => !bf y.p y.s y.i q u v idx)) w) := by
  obtain ⟨f, hf⟩ : ∃ f : M → Bool, f = fun y => bf y.p y.s y.i q u v idx := ⟨_, rfl⟩
  have C : ∀ (y : M) (w' : World), Bxs w' bt bi q u v t sl idx → Calls Try.prog 46 #[MV y.p y.s y.i, .pointer (some ⟨bt, 0, none⟩), .pointer (some ⟨bi, 0, none⟩)] w' (Tells (.bool (f y)) w') := fun y w' h => by rw [hf]; exact without1_any y bt bi q u v t sl idx w' hv h
  rw [show (fun y : M => !bf y.p y.s y.i q u v idx) = fun y => !f y by rw [hf]]
  clear hf
  obtain ⟨p, c, rfl⟩ := own_sl hown
  have CI := index_any _ l f bt bi w (own_sh hown) hl (fun y w' hb => C y w' (hX.later hb))
  have HX : Hid (Bxs w bt bi q u v t sl idx) := hX
  have HO : Hid (w.ownsRow B 44 3 (.slice p l.length c) l.length (rows M.cells l)) := hown
  clear hown hX
  go_enter Try.func40, Try.ntmps40
  go_wp2_with fail
  refine CI.mono ?_
  clear CI
  rintro e w1 (⟨rfl, hall, hb1⟩ | ⟨k, hk, rfl, hfk, hbf, hb1⟩)
  · have HE : Hid (l.filter (fun y => !f y) = l) := by
      show _ = _
      rw [List.filter_eq_self]
      intro y hy
      rw [hall y hy]
      rfl
    clear hall C
    go_wp2_with fail
    go_ret
    refine ⟨_, rfl, ?_, fun b h _ => hb1.block b h, .inr rfl, hb1.mono hBw⟩
    rw [HE.out]
    exact own_later HO.out hb1
  · obtain ⟨g, rfl, hg⟩ := own_some HO.out (by omega)
    have ho := own_later HO.out hb1
    obtain ⟨hxl, ⟨h0, _⟩ | ⟨g', cap, cur, h0, hBg, hgc, hnc, hcm, hcs, htake⟩⟩ := ho
    · simp at h0
    simp only [Value.slice.injEq, Option.some.injEq, Addr.mk.injEq, and_true, true_and] at h0
    obtain ⟨rfl, rfl⟩ := h0
    have HD : Hid (DI l f k (k + 1) cur) := DI.start hk hfk hbf htake
    have HB : Hid (Bxs w1 bt bi q u v t sl idx) := HX.out.later hb1
    have HR : Hid (Rw w1 g 44 cur) := hgc
    have hbel := hb1.mono hBw
    have HK : Hid (Kp (some g) w w1) := fun b h _ => hb1.block b h
    have hsw : w.heap.size ≤ w1.heap.size := hb1.size
    clear HX HO hfk hbf htake hxl hgc hb1
    have hkb : ((k : Int) == -1) = false := by
      rw [beq_eq_false_iff_ne]
      omega
    go_wp2_with fail
    go_loopw [5, 6] (fun vi vj wr => ∃ a j : Nat, ∃ cr : Array Value, vi = .int .i64 a ∧ vj = .int .i64 j ∧ j ≤ l.length ∧ a < j ∧ Hid (DI l f a j cr) ∧ cr.size = c * 3 ∧ Hid (Rw wr g 44 cr) ∧ Hid (Bxs wr bt bi q u v t sl idx) ∧ Hid (Kp (some g) w wr) ∧ w.heap.size ≤ wr.heap.size ∧ Below B w wr) (fun _ vj _ => l.length - (intOf vj).toNat)
    case atStart => exact ⟨k, k + 1, cur, rfl, by simp, by omega, by omega, HD, hcs, HR, HB, HK, hsw, hbel⟩
    case round =>
      clear HD hcs HR HB HK hsw hbel
      obtain ⟨a, j, cr, rfl, rfl, hj, haj, HD, hcs, HR, HB, HK, hsw, hbel⟩ := hrel
      by_cases hlt : j < l.length
      · have hlt' : (j : Int) < (l.length : Int) := by omega
        have hgl := HR.out.lt
        have d := DI.elem HD.out hlt HR.out
        obtain ⟨x, HXX⟩ := hid_ex l[j]
        rw [HXX.out] at d
        have zm : (Try.prog.info? 44).map (·.size) = some x.cells.length := size44
        have hbA := bel_alloc (Below.refl wr.heap.size wr) (.cells #[.int .i64 x.p, .int .i64 x.s, .int .i64 x.i] 44)
        have R := rw_new wr 44 #[.int .i64 x.p, .int .i64 x.s, .int .i64 x.i]
        have Cx := C x _ (HB.out.later hbA)
        obtain ⟨y, HY⟩ := hid_ex (f x)
        rw [HY.out] at Cx
        have HF : Hid (f l[j] = y) := by show _ = _; rw [HXX.out, HY.out]
        clear C HY
        have hBr := Nat.le_trans hBw hbel.size
        go_wp2_with (refine load_m 44 _ rfl rfl _ _ rfl d Try.underlying44 rfl zm ?_)
        refine Cx.mono ?_
        clear Cx d
        rintro e w2 ⟨rfl, hb2⟩
        have hbC := below_on hbA hb2
        replace R := R.later hb2
        replace HR : Hid (Rw w2 g 44 cr) := HR.out.later hbC
        replace HB : Hid (Bxs w2 bt bi q u v t sl idx) := HB.out.later hbC
        replace hbel := hbel.trans (hbC.mono hBr)
        replace HK : Hid (Kp (some g) w w2) := HK.out.on hsw hbC
        replace hsw := Nat.le_trans hsw hbC.size
        clear hbA hb2 hbC
        cases y
        · have HD2 : Hid (DI l f (a + 1) (j + 1) (cr.toList.take (a * 3) ++ x.cells ++ cr.toList.drop (a * 3 + 3)).toArray) := by
            have := DI.keep HD.out hlt haj (by omega) HF.out
            rw [HXX.out] at this
            exact this
          have hal' : (a : Int) < (l.length : Int) := by omega
          have ha0 : (0 : Int) ≤ (a : Int) := by omega
          have RR := HR.out
          clear HXX HF
          go_wp2_with (first | refine load_r 44 _ rfl rfl _ rfl R Try.underlying44 rfl size44 ?_ | refine store_mr rfl 44 _ _ rfl _ _ #[.int .i64 x.p, .int .i64 x.s, .int .i64 x.i] rfl rfl RR size44 ?hfit (by simp [Value.oneCell']) ?_)
          case hfit => simp; omega
          go_roundw
          case rel =>
            refine ⟨a + 1, j + 1, _, by simp, by simp, by omega, by omega, ?_, ?_, RR.row _, HB.out.row (by omega) (by omega) _, HK.out.row _, (by simpa [World.setRow] using hsw), below_setRow hbel hBg _⟩
            · have := HD2.out
              simp only [List.append_assoc, List.cons_append, List.nil_append] at this
              exact this
            · simp
              omega
          case measure => simp [intOf]; omega
        · have HD2 : Hid (DI l f a (j + 1) cr) := DI.skip HD.out hlt HF.out
          clear HF HXX R
          go_wp2_with fail
          go_roundw
          case rel => exact ⟨a, j + 1, cr, rfl, by simp, by omega, by omega, HD2, hcs, HR, HB, HK, hsw, hbel⟩
          case measure => simp [intOf]; omega
      · obtain rfl : j = l.length := by omega
        have hlt' : ¬ (l.length : Int) < (l.length : Int) := by omega
        have hal' : (a : Int) < (l.length : Int) := by omega
        have hale : (a : Int) ≤ (l.length : Int) := by omega
        have hca : ¬ (c = a) := by omega
        have hac : (a : Int) ≤ (c : Int) := by omega
        have han : a ≤ l.length := by omega
        have ha0 : (0 : Int) ≤ (a : Int) := by omega
        have RR := HR.out
        have hcl : ∀ ty cc, (Builtin.clear_ #[39] ty #[.slice (some ⟨g, a * 3, none⟩) (l.length - a) cc]).run Try.prog wr = .ok (.tuple #[]) (wr.setRow g (cr.toList.take (a * 3) ++ (Builtin.zeroCells (MV 0 0 0).cells (l.length - a)).toList ++ cr.toList.drop (a * 3 + (l.length - a) * 3)).toArray) := fun ty cc => run_clear_rowS wr 39 44 ty _ 3 Try.underlying39 zero44 rfl (by decide) (by intro u hu; simp [Value.cells] at hu; rcases hu with rfl | rfl <;> rfl) g (a * 3) _ cc (by omega) 44 cr RR (by omega)
        obtain ⟨cr2, HC2⟩ := hid_ex (cr.toList.take (a * 3) ++ (Builtin.zeroCells (MV 0 0 0).cells (l.length - a)).toList ++ cr.toList.drop (a * 3 + (l.length - a) * 3)).toArray
        rw [HC2.out] at hcl
        have hs2 : cr2.size = c * 3 := by
          rw [← HC2.out]
          simp [Builtin.zeroCells, Value.cells]
          omega
        have ht2 : cr2.toList.take (a * 3) = rows M.cells (l.filter (fun y => !f y)) := by
          have := HD.out.t
          rw [List.take_length] at this
          rw [← HC2.out, ← this, List.toList_toArray, List.append_assoc, List.take_left' (by rw [List.length_take, Array.length_toList]; omega)]
        have hn2 : a = (l.filter (fun y => !f y)).length := by
          have := HD.out.n
          rwa [List.take_length] at this
        have HP : Hid (a = (l.filter (fun y => !f y)).length ∧ cr2.toList.take (a * 3) = rows M.cells (l.filter (fun y => !f y))) := ⟨hn2, ht2⟩
        clear ht2 hn2 HC2 C HD HB HR
        go_wp2_with (first | (at_builtin; refine clear_run rfl _ 39 rfl _ rfl (hcl _ _) ?_))
        go_ret
        refine ⟨_, rfl, ?_, HK.out.row _, .inr rfl, below_setRow hbel hBg _⟩
        obtain ⟨h1, h2⟩ := HP.out
        rw [← h1, ← h2]
        refine ⟨?_, .inr ⟨g, c, cr2, rfl, hBg, RR.row cr2, by omega, hcm, hs2, rfl⟩⟩
        rw [List.length_take, Array.length_toList]
        omega
end Go.Proofs.Ytdnppcbdifckcaa
/- with of package orset, with its closure and sort.Search. -/
namespace Go.Proofs.Ytdnppcbdifckcaa
open Go.RowKit

/-- The boxes that the closure looks at. -/
structure Cap (w : World) (b1 b2 : Nat) (v : Value) (x : M) : Prop where
  l : w.cell? ⟨b1, 0, none⟩ = some v
  m : Rw w b2 44 #[.int .i64 x.p, .int .i64 x.s, .int .i64 x.i]
theorem Cap.later {w w' : World} {b1 b2 : Nat} {v : Value} {x : M} (h : Cap w b1 b2 v x) (hb : Below w.heap.size w w') : Cap w' b1 b2 v x := ⟨cell_later hb h.l, h.m.later hb⟩
set_option maxHeartbeats 2000000 in
set_option maxRecDepth 100000 in
theorem with1_any (k : Nat) (b1 b2 : Nat) (v : Value) (l : List M) (x : M) (w : World) (h : MHas w v l) (hk : k < l.length) (hC : Cap w b1 b2 v x) :
    Calls Try.prog 55 #[.int .i64 k, .pointer (some ⟨b1, 0, none⟩), .pointer (some ⟨b2, 0, none⟩)] w (Tells (.bool (!lt l[k] x)) w) := by
  have hml := maxLen_lt h.1
  obtain ⟨p, c, rfl⟩ := h.slice
  obtain ⟨g, o, rfl, hd⟩ := h.at (by omega)
  have d := M.elem hd k hk
  obtain ⟨y, HY⟩ := hid_ex l[k]
  rw [HY.out] at d ⊢
  clear HY h hd
  have zy : (Try.prog.info? 44).map (·.size) = some y.cells.length := size44
  have zm : (Try.prog.info? 44).map (·.size) = some [Value.int .i64 x.p, .int .i64 x.s, .int .i64 x.i].length := size44
  have C1 : ∀ w, Calls Try.prog 56 #[MV y.p y.s y.i, MV x.p x.s x.i] w (Tells (.bool (lt y x)) w) := fun w => less_any y.p y.s y.i x.p x.s x.i w
  generalize lt y x = z at C1 ⊢
  have hbel := Below.refl w.heap.size w
  have hk0 : (0 : Int) ≤ (k : Int) := by omega
  have hk1 : (k : Int) < (l.length : Int) := by omega
  go_enter Try.func55, Try.ntmps55
  go_wp2_with fail
  have hs : Calm.Stays (fun w' => Cap w' b1 b2 (.slice (some ⟨g, o, none⟩) l.length c) x ∧ w'.rangeAt g (o + k * 3) y.cells ∧ Below w.heap.size w w') := fun wa wb h hb => ⟨h.1.later hb, range_later h.2.1 hb, below_on h.2.2 hb⟩
  refine Calm.region (by kernel_rfl) (by kernel_rfl) (fun w' => Cap w' b1 b2 (.slice (some ⟨g, o, none⟩) l.length c) x ∧ w'.rangeAt g (o + k * 3) y.cells ∧ Below w.heap.size w w') ⟨⟨hC.l, hC.m⟩, d, hbel.drew⟩ ?_
  all_goals
    refine Calm.pure (v := ?_) (by rfl) ?_ ?_
    rotate_left
    focus (intro w hSw; have g1 := hSw.1.l; go_simp <;> rfl)
    simp only [Act.put, List.setIfInBounds_toArray, List.set_cons_zero, List.set_cons_succ]
  all_goals
    refine Calm.pure (v := ?_) (by rfl) ?_ ?_
    rotate_left
    focus (intro w hSw; go_simp <;> rfl)
    simp only [Act.put, List.setIfInBounds_toArray, List.set_cons_zero, List.set_cons_succ]
  all_goals
    refine Calm.pure (v := ?_) (by rfl) ?_ ?_
    rotate_left
    focus (intro w hSw; go_simp <;> rfl)
    simp only [Act.put, List.setIfInBounds_toArray, List.set_cons_zero, List.set_cons_succ]
  all_goals
    first | (refine Calm.loadM 44 Try.underlying44 rfl zy (by rfl) _ rfl rfl (fun _ h => h.2.1) ?_) | (refine Calm.loadM 44 Try.underlying44 rfl zm (by rfl) _ rfl rfl (fun _ h => Rw.whole h.1.m) ?_)
    simp only [Act.put, List.setIfInBounds_toArray, List.set_cons_zero, List.set_cons_succ]
  all_goals
    first | (refine Calm.loadM 44 Try.underlying44 rfl zy (by rfl) _ rfl rfl (fun _ h => h.2.1) ?_) | (refine Calm.loadM 44 Try.underlying44 rfl zm (by rfl) _ rfl rfl (fun _ h => Rw.whole h.1.m) ?_)
    simp only [Act.put, List.setIfInBounds_toArray, List.set_cons_zero, List.set_cons_succ]
  all_goals
    refine Calm.call2s (by rfl) rfl rfl rfl (by kernel_rfl) hs (fun w1 h => C1 w1) ?_
    simp only [Act.put, List.setIfInBounds_toArray, List.set_cons_zero, List.set_cons_succ]
  all_goals
    refine Calm.pure (v := ?_) (by rfl) ?_ ?_
    rotate_left
    focus (intro w hSw; go_simp <;> rfl)
    simp only [Act.put, List.setIfInBounds_toArray, List.set_cons_zero, List.set_cons_succ]
  all_goals
    refine Calm.pure (v := ?_) (by rfl) ?_ ?_
    rotate_left
    focus (intro w hSw; go_simp <;> rfl)
    simp only [Act.put, List.setIfInBounds_toArray, List.set_cons_zero, List.set_cons_succ]
  all_goals
    rintro w9 ⟨_, _, hbel9⟩
  go_wp2_with fail
  go_ret
  exact ⟨rfl, hbel9⟩
theorem pair_at {l : List M} (h : l.Pairwise (fun a b => lt a b = true)) (i j : Nat) (hj : j < l.length) (hij : i < j) : lt (l[i]'(by omega)) l[j] = true := (List.pairwise_iff_getElem.1 h) i j (by omega) hj hij
/-- What a search comes to: where it stands, or would stand. -/
def SePost (l : List M) (x : M) (w : World) (e : Ending) (w' : World) : Prop := ∃ k : Nat, e = .returned (.int .i64 k) ∧ k ≤ l.length ∧ (∀ j (h : j < l.length), j < k → lt l[j] x = true) ∧ (∀ j (h : j < l.length), k ≤ j → lt l[j] x = false) ∧ Below w.heap.size w w'
set_option maxHeartbeats 2000000 in
set_option maxRecDepth 100000 in
theorem search_any (b1 b2 : Nat) (v : Value) (l : List M) (x : M) (w : World) (h : MHas w v l) (hl : l.length ≤ 100) (hp : l.Pairwise (fun a b => lt a b = true)) (hC : Cap w b1 b2 v x) :
    Calls Try.prog 54 #[.int .i64 l.length, .func (.func 55) #[] #[.pointer (some ⟨b1, 0, none⟩), .pointer (some ⟨b2, 0, none⟩)]] w (SePost l x w) := by
  have HA : Hid (MHas w v l) := h
  have HP : Hid (l.Pairwise (fun a b => lt a b = true)) := hp
  have HC : Hid (Cap w b1 b2 v x) := hC
  clear h hp hC
  go_enter Try.func54, Try.ntmps54
  go_wp2
  go_loopw [5, 6] (fun vi vj wr => ∃ a b : Nat, vi = .int .i64 a ∧ vj = .int .i64 b ∧ a ≤ b ∧ b ≤ l.length ∧ Hid (∀ j (h : j < l.length), j < a → lt l[j] x = true) ∧ Hid (∀ j (h : j < l.length), b ≤ j → lt l[j] x = false) ∧ Below w.heap.size w wr) (fun vi vj _ => (intOf vj).toNat - (intOf vi).toNat)
  case atStart => exact ⟨0, l.length, rfl, rfl, by omega, by omega, (show ∀ j (_ : j < l.length), j < 0 → _ from fun j _ h => by omega), (show ∀ j (_ : j < l.length), l.length ≤ j → _ from fun j h h' => by omega), Below.refl _ _⟩
  case round =>
    obtain ⟨a, b, rfl, rfl, hab, hbl, HV, HW, hbel⟩ := hrel
    by_cases hlt : a < b
    · have hlt' : (a : Int) < (b : Int) := by omega
      obtain ⟨m, hm⟩ : ∃ m : Nat, m = (a + b) / 2 := ⟨_, rfl⟩
      have hmi : ((a : Int) + (b : Int)) / 2 = (m : Int) := by omega
      have hm1 : a ≤ m := by omega
      have hm2 : m < b := by omega
      have hml : m < l.length := by omega
      have C1 := with1_any m b1 b2 v l x wr (HA.out.later hbel) hml (HC.out.later hbel)
      obtain ⟨z, HZ⟩ := hid_ex (lt l[m] x)
      rw [HZ.out] at C1
      clear hm
      go_wp2_with (first | rw [hmi])
      refine C1.mono ?_
      clear C1
      rintro e w1 ⟨rfl, hb1⟩
      cases z
      · have HW2 : Hid (∀ j (h : j < l.length), m ≤ j → lt l[j] x = false) := fun j h hj => by
          rcases Nat.lt_or_ge m j with h' | h'
          · cases k : lt l[j] x
            · rfl
            · have := lt_trans (pair_at HP.out m j h h') k
              rw [HZ.out] at this
              cases this
          · obtain rfl : j = m := by omega
            exact HZ.out
        go_wp2_with fail
        go_roundw
        case rel => exact ⟨a, m, rfl, rfl, by omega, by omega, HV, HW2, below_on hbel hb1⟩
        case measure => simp [intOf]; omega
      · have HV2 : Hid (∀ j (h : j < l.length), j < m + 1 → lt l[j] x = true) := fun j h hj => by
          rcases Nat.lt_or_ge j m with h' | h'
          · exact lt_trans (pair_at HP.out j m hml h') HZ.out
          · obtain rfl : j = m := by omega
            exact HZ.out
        go_wp2_with fail
        go_roundw
        case rel => exact ⟨m + 1, b, by simp, rfl, by omega, by omega, HV2, HW, below_on hbel hb1⟩
        case measure => simp [intOf]; omega
    · obtain rfl : a = b := by omega
      have hlt' : ¬ (a : Int) < (a : Int) := by omega
      clear HA HP HC
      go_wp2_with fail
      go_ret
      exact ⟨a, rfl, hbl, HV.out, HW.out, hbel⟩
theorem has_at {x : M} {l : List M} {k : Nat} (hp : l.Pairwise (fun a b => lt a b = true)) (h1 : ∀ j (h : j < l.length), j < k → lt l[j] x = true) (h2 : ∀ j (h : j < l.length), k ≤ j → lt l[j] x = false) : has x l = (if h : k < l.length then mk l[k] x else false) := by
  split
  · rename_i h
    cases e : mk l[k] x
    · rw [has_false]
      intro y hy
      obtain ⟨j, hj, rfl⟩ := List.getElem_of_mem hy
      cases e2 : mk l[j] x
      · rfl
      · exfalso
        rcases Nat.lt_trichotomy j k with h' | h' | h'
        · have := h1 j hj h'
          rw [mk_lt e2] at this
          cases this
        · subst h'
          rw [e] at e2
          cases e2
        · have a1 := pair_at hp k j hj h'
          have a2 := h2 k h (Nat.le_refl _)
          have a3 : lt l[k] x = true := by
            rw [lt_iff] at a1 ⊢
            rw [mk_iff] at e2
            omega
          rw [a3] at a2
          cases a2
    · unfold has
      rw [List.any_eq_true]
      exact ⟨l[k], List.getElem_mem _, e⟩
  · rename_i h
    rw [has_false]
    intro y hy
    obtain ⟨j, hj, rfl⟩ := List.getElem_of_mem hy
    have := h1 j hj (by omega)
    cases e2 : mk l[j] x
    · rfl
    · rw [mk_lt e2] at this
      cases this
/-- What with answers: a row of its own. -/
def WiPost (B : Nat) (v : Value) (l : List M) (w : World) (e : Ending) (w' : World) : Prop := ∃ u, e = .returned u ∧ w'.ownsRow B 44 3 u l.length (rows M.cells l) ∧ Kp v.ownBlock w w' ∧ (∀ k, u.ownBlock = some k → v.ownBlock = some k ∨ w.heap.size ≤ k) ∧ Below B w w'
set_option maxHeartbeats 4000000 in
set_option maxRecDepth 100000 in
theorem with_any (B : Nat) (v : Value) (l : List M) (x : M) (w : World) (hown : w.ownsRow B 44 3 v l.length (rows M.cells l)) (hl : l.length ≤ 100) (hp : l.Pairwise (fun a b => lt a b = true)) (hB : B ≤ w.heap.size) :
    Calls Try.prog 36 #[v, MV x.p x.s x.i] w (WiPost B v (wth l x) w) := by
  obtain ⟨z, HZ⟩ := hid_ex (wth l x)
  rw [HZ.out]
  obtain ⟨p, c, rfl⟩ := own_sl hown
  have hbel := bel_alloc (bel_alloc (Below.refl w.heap.size w) (.cells #[.slice p l.length c] 39)) (.cells #[.int .i64 x.p, .int .i64 x.s, .int .i64 x.i] 44)
  have r1 := (rw_new w 39 #[.slice p l.length c]).alloc (.cells #[.int .i64 x.p, .int .i64 x.s, .int .i64 x.i] 44)
  have r2 := rw_new (w.alloc (.cells #[.slice p l.length c] 39)) 44 #[.int .i64 x.p, .int .i64 x.s, .int .i64 x.i]
  have hlo : ∀ k, (Value.slice p l.length c).ownBlock = some k → k < w.heap.size := fun k hk => (World.ownsRow.lt hown k hk).2
  have HLO : Hid (∀ k, (Value.slice p l.length c).ownBlock = some k → k < w.heap.size) := hlo
  have hsz : w.heap.size ≤ ((w.alloc (.cells #[.slice p l.length c] 39)).alloc (.cells #[.int .i64 x.p, .int .i64 x.s, .int .i64 x.i] 44)).heap.size := hbel.size
  replace hown := own_later hown hbel
  generalize hW : (w.alloc (.cells #[.slice p l.length c] 39)).alloc (.cells #[.int .i64 x.p, .int .i64 x.s, .int .i64 x.i] 44) = w0 at hbel r1 r2 hown hsz
  simp only [World.size_alloc] at r2
  have hC : Cap w0 w.heap.size (w.heap.size + 1) (.slice p l.length c) x := ⟨r1.cell 0, r2⟩
  have c1 := hC.l
  clear r1 r2 hlo
  go_enter Try.func36, Try.ntmps36
  go_wp2_with (first | rw [hW])
  clear hW
  refine (search_any w.heap.size (w.heap.size + 1) _ l x w0 (own_sh hown) (by omega) hp hC).mono ?_
  rintro e w1 ⟨k, rfl, hk, h1, h2, hb1⟩
  have HI : Hid (l.take k ++ x :: l.drop k = insF x l) := insF_at h1 h2
  have hh := has_at hp h1 h2
  replace hC := hC.later hb1
  replace hbel := below_on hbel hb1
  replace hown := own_later hown hb1
  clear h1 h2 hb1 hp c1 hsz
  have zm : (Try.prog.info? 44).map (·.size) = some [Value.int .i64 x.p, .int .i64 x.s, .int .i64 x.i].length := size44
  by_cases hlt : k < l.length
  · rw [dif_pos hlt] at hh
    have hlt' : (k : Int) < (l.length : Int) := by omega
    have hk0 : (0 : Int) ≤ (k : Int) := by omega
    obtain ⟨g, o, rfl, hd⟩ := (own_sh hown).at (by omega)
    have d := M.elem hd k hlt
    obtain ⟨y, HY⟩ := hid_ex l[k]
    rw [HY.out] at d hh
    have E := fun w => eq_mark w y.p y.s y.i x.p x.s x.i
    obtain ⟨t, HT⟩ := hid_ex (mk y x)
    rw [show (decide (y.p = x.p) && decide (y.s = x.s) && decide (y.i = x.i)) = t from HT.out] at E
    rw [HT.out] at hh
    have HH : Hid (has x l = t) := hh
    have zy : (Try.prog.info? 44).map (·.size) = some y.cells.length := size44
    clear hh hd HY HT
    cases t
    · go_wp2_with fail
      have hs : Calm.Stays (fun w' => Cap w' w.heap.size (w.heap.size + 1) (.slice (some ⟨g, o, none⟩) l.length c) x ∧ w'.rangeAt g (o + k * 3) y.cells ∧ w'.ownsRow B 44 3 (.slice (some ⟨g, o, none⟩) l.length c) l.length (rows M.cells l) ∧ Below w1.heap.size w1 w') := fun wa wb h hb => ⟨h.1.later hb, range_later h.2.1 hb, own_later h.2.2.1 hb, below_on h.2.2.2 hb⟩
      refine Calm.region (by kernel_rfl) (by kernel_rfl) (fun w' => Cap w' w.heap.size (w.heap.size + 1) (.slice (some ⟨g, o, none⟩) l.length c) x ∧ w'.rangeAt g (o + k * 3) y.cells ∧ w'.ownsRow B 44 3 (.slice (some ⟨g, o, none⟩) l.length c) l.length (rows M.cells l) ∧ Below w1.heap.size w1 w') ⟨⟨hC.l, hC.m⟩, d, hown, (Below.refl _ _).drew⟩ ?_
      all_goals
        refine Calm.pure (v := ?_) (by rfl) ?_ ?_
        rotate_left
        focus (intro w hSw; go_simp <;> rfl)
        simp only [Act.put, List.setIfInBounds_toArray, List.set_cons_zero, List.set_cons_succ]
      all_goals
        refine Calm.pure (v := ?_) (by rfl) ?_ ?_
        rotate_left
        focus (intro w hSw; have g1 := hSw.1.l; go_simp <;> rfl)
        simp only [Act.put, List.setIfInBounds_toArray, List.set_cons_zero, List.set_cons_succ]
      all_goals
        refine Calm.pure (v := ?_) (by rfl) ?_ ?_
        rotate_left
        focus (intro w hSw; go_simp <;> rfl)
        simp only [Act.put, List.setIfInBounds_toArray, List.set_cons_zero, List.set_cons_succ]
      all_goals
        refine Calm.pure (v := ?_) (by rfl) ?_ ?_
        rotate_left
        focus (intro w hSw; go_simp <;> rfl)
        simp only [Act.put, List.setIfInBounds_toArray, List.set_cons_zero, List.set_cons_succ]
      all_goals
        refine Calm.pure (v := ?_) (by rfl) ?_ ?_
        rotate_left
        focus (intro w hSw; go_simp <;> rfl)
        simp only [Act.put, List.setIfInBounds_toArray, List.set_cons_zero, List.set_cons_succ]
      all_goals
        first
          | (refine Calm.skip ?_ ?_; focus rfl)
          | (refine Calm.pure (v := ?_) (by rfl) ?_ ?_
             rotate_left
             focus (intro w hSw; have g1 := hSw.1.l; go_simp <;> rfl))
        simp only [Act.put, List.setIfInBounds_toArray, List.set_cons_zero, List.set_cons_succ]
      all_goals
        first
          | (refine Calm.skip ?_ ?_; focus rfl)
          | (refine Calm.pure (v := ?_) (by rfl) ?_ ?_
             rotate_left
             focus (intro w hSw; go_simp <;> rfl))
        simp only [Act.put, List.setIfInBounds_toArray, List.set_cons_zero, List.set_cons_succ]
      all_goals
        first
          | (refine Calm.skip ?_ ?_; focus rfl)
          | (refine Calm.pure (v := ?_) (by rfl) ?_ ?_
             rotate_left
             focus (intro w hSw; go_simp <;> rfl))
        simp only [Act.put, List.setIfInBounds_toArray, List.set_cons_zero, List.set_cons_succ]
      all_goals
        first
          | (refine Calm.skip ?_ ?_; focus rfl)
          | (first | (refine Calm.loadM 44 Try.underlying44 rfl zy (by rfl) _ rfl rfl (fun _ h => h.2.1) ?_) | (refine Calm.loadM 44 Try.underlying44 rfl zm (by rfl) _ rfl rfl (fun _ h => Rw.whole h.1.m) ?_))
        simp only [Act.put, List.setIfInBounds_toArray, List.set_cons_zero, List.set_cons_succ]
      all_goals
        first
          | (refine Calm.skip ?_ ?_; focus rfl)
          | (first | (refine Calm.loadM 44 Try.underlying44 rfl zy (by rfl) _ rfl rfl (fun _ h => h.2.1) ?_) | (refine Calm.loadM 44 Try.underlying44 rfl zm (by rfl) _ rfl rfl (fun _ h => Rw.whole h.1.m) ?_))
        simp only [Act.put, List.setIfInBounds_toArray, List.set_cons_zero, List.set_cons_succ]
      all_goals
        first
          | (refine Calm.skip ?_ ?_; focus rfl)
          | (refine Calm.pure (v := ?_) (by rfl) ?_ ?_
             rotate_left
             focus (intro w hSw; go_simp <;> rfl))
        simp only [Act.put, List.setIfInBounds_toArray, List.set_cons_zero, List.set_cons_succ]
      all_goals
        refine Calm.pure (v := ?_) (by rfl) ?_ ?_
        rotate_left
        focus (intro w hSw; go_simp <;> rfl)
        simp only [Act.put, List.setIfInBounds_toArray, List.set_cons_zero, List.set_cons_succ]
      all_goals
        rintro w9 ⟨hC9, _, ho9, hbel9⟩
      have c9 := hC9.l
      have hb9 := below_on hbel hbel9
      have R9 := hC9.m
      clear hC9 hbel9 hC hown
      go_wp2_with (first | refine load_r 44 _ rfl rfl _ rfl R9 Try.underlying44 rfl size44 ?_)
      have hbA := bel_alloc (Below.refl w9.heap.size w9) (.cells #[.int .i64 x.p, .int .i64 x.s, .int .i64 x.i] 44)
      have hb10 := below_on hb9 hbA
      refine (insert_any B _ l k w9.heap.size x _ (own_later ho9 hbA) hk (by omega) (Nat.le_trans hB hb10.size) (rw_new w9 44 _) (fun q hq => by have := HLO.out q hq; have := hb9.size; omega)).mono ?_
      rintro e w2 ⟨u, rfl, hou, hkp, hnu, hb2⟩
      rw [HI.out] at hou
      have HE : Hid (insF x l = z) := by
        have e := HZ.out
        unfold wth at e
        rw [HH.out] at e
        exact e
      have HF : Hid (WiPost B (.slice (some ⟨g, o, none⟩) l.length c) z w (.returned u) w2) := by
        refine ⟨u, rfl, ?_, ?_, ?_, (hb10.mono hB).trans hb2⟩
        · rw [← HE.out, insF_length]
          exact hou
        · exact fun b h1 h2 => (hkp b (Nat.lt_of_lt_of_le h1 hb10.size) h2).trans (hb10.block b h1)
        · exact fun q hq => (hnu q hq).elim .inl (fun h => .inr (Nat.le_trans hb10.size h))
      obtain ⟨pu, cu, rfl⟩ := own_sl hou
      clear hou hkp hnu hb2 ho9 hb10 hbA
      go_wp2_with fail
      go_ret
      exact HF.out
    · go_wp2_with fail
      have hs : Calm.Stays (fun w' => Cap w' w.heap.size (w.heap.size + 1) (.slice (some ⟨g, o, none⟩) l.length c) x ∧ w'.rangeAt g (o + k * 3) y.cells ∧ w'.ownsRow B 44 3 (.slice (some ⟨g, o, none⟩) l.length c) l.length (rows M.cells l) ∧ Below w1.heap.size w1 w') := fun wa wb h hb => ⟨h.1.later hb, range_later h.2.1 hb, own_later h.2.2.1 hb, below_on h.2.2.2 hb⟩
      refine Calm.region (by kernel_rfl) (by kernel_rfl) (fun w' => Cap w' w.heap.size (w.heap.size + 1) (.slice (some ⟨g, o, none⟩) l.length c) x ∧ w'.rangeAt g (o + k * 3) y.cells ∧ w'.ownsRow B 44 3 (.slice (some ⟨g, o, none⟩) l.length c) l.length (rows M.cells l) ∧ Below w1.heap.size w1 w') ⟨⟨hC.l, hC.m⟩, d, hown, (Below.refl _ _).drew⟩ ?_
      all_goals
        refine Calm.pure (v := ?_) (by rfl) ?_ ?_
        rotate_left
        focus (intro w hSw; go_simp <;> rfl)
        simp only [Act.put, List.setIfInBounds_toArray, List.set_cons_zero, List.set_cons_succ]
      all_goals
        refine Calm.pure (v := ?_) (by rfl) ?_ ?_
        rotate_left
        focus (intro w hSw; have g1 := hSw.1.l; go_simp <;> rfl)
        simp only [Act.put, List.setIfInBounds_toArray, List.set_cons_zero, List.set_cons_succ]
      all_goals
        refine Calm.pure (v := ?_) (by rfl) ?_ ?_
        rotate_left
        focus (intro w hSw; go_simp <;> rfl)
        simp only [Act.put, List.setIfInBounds_toArray, List.set_cons_zero, List.set_cons_succ]
      all_goals
        refine Calm.pure (v := ?_) (by rfl) ?_ ?_
        rotate_left
        focus (intro w hSw; go_simp <;> rfl)
        simp only [Act.put, List.setIfInBounds_toArray, List.set_cons_zero, List.set_cons_succ]
      all_goals
        refine Calm.pure (v := ?_) (by rfl) ?_ ?_
        rotate_left
        focus (intro w hSw; go_simp <;> rfl)
        simp only [Act.put, List.setIfInBounds_toArray, List.set_cons_zero, List.set_cons_succ]
      all_goals
        first
          | (refine Calm.skip ?_ ?_; focus rfl)
          | (refine Calm.pure (v := ?_) (by rfl) ?_ ?_
             rotate_left
             focus (intro w hSw; have g1 := hSw.1.l; go_simp <;> rfl))
        simp only [Act.put, List.setIfInBounds_toArray, List.set_cons_zero, List.set_cons_succ]
      all_goals
        first
          | (refine Calm.skip ?_ ?_; focus rfl)
          | (refine Calm.pure (v := ?_) (by rfl) ?_ ?_
             rotate_left
             focus (intro w hSw; go_simp <;> rfl))
        simp only [Act.put, List.setIfInBounds_toArray, List.set_cons_zero, List.set_cons_succ]
      all_goals
        first
          | (refine Calm.skip ?_ ?_; focus rfl)
          | (refine Calm.pure (v := ?_) (by rfl) ?_ ?_
             rotate_left
             focus (intro w hSw; go_simp <;> rfl))
        simp only [Act.put, List.setIfInBounds_toArray, List.set_cons_zero, List.set_cons_succ]
      all_goals
        first
          | (refine Calm.skip ?_ ?_; focus rfl)
          | (first | (refine Calm.loadM 44 Try.underlying44 rfl zy (by rfl) _ rfl rfl (fun _ h => h.2.1) ?_) | (refine Calm.loadM 44 Try.underlying44 rfl zm (by rfl) _ rfl rfl (fun _ h => Rw.whole h.1.m) ?_))
        simp only [Act.put, List.setIfInBounds_toArray, List.set_cons_zero, List.set_cons_succ]
      all_goals
        first
          | (refine Calm.skip ?_ ?_; focus rfl)
          | (first | (refine Calm.loadM 44 Try.underlying44 rfl zy (by rfl) _ rfl rfl (fun _ h => h.2.1) ?_) | (refine Calm.loadM 44 Try.underlying44 rfl zm (by rfl) _ rfl rfl (fun _ h => Rw.whole h.1.m) ?_))
        simp only [Act.put, List.setIfInBounds_toArray, List.set_cons_zero, List.set_cons_succ]
      all_goals
        first
          | (refine Calm.skip ?_ ?_; focus rfl)
          | (refine Calm.pure (v := ?_) (by rfl) ?_ ?_
             rotate_left
             focus (intro w hSw; go_simp <;> rfl))
        simp only [Act.put, List.setIfInBounds_toArray, List.set_cons_zero, List.set_cons_succ]
      all_goals
        refine Calm.pure (v := ?_) (by rfl) ?_ ?_
        rotate_left
        focus (intro w hSw; go_simp <;> rfl)
        simp only [Act.put, List.setIfInBounds_toArray, List.set_cons_zero, List.set_cons_succ]
      all_goals
        rintro w9 ⟨hC9, _, ho9, hbel9⟩
      have c9 := hC9.l
      have hb9 := below_on hbel hbel9
      have HE : Hid (l = z) := by
        have e := HZ.out
        unfold wth at e
        rw [HH.out] at e
        exact e
      clear hC9 hC hown
      go_wp2_with fail
      go_ret
      exact ⟨_, rfl, by rw [← HE.out]; exact ho9, (fun b h1 _ => hb9.block b h1), (fun q hq => .inl hq), hb9.mono hB⟩
  · rw [dif_neg hlt] at hh
    have HH : Hid (has x l = false) := hh
    have hlt' : ¬ (k : Int) < (l.length : Int) := by omega
    clear hh
    go_wp2_with fail
    have hs : Calm.Stays (fun w' => Cap w' w.heap.size (w.heap.size + 1) (.slice p l.length c) x ∧ w'.ownsRow B 44 3 (.slice p l.length c) l.length (rows M.cells l) ∧ Below w1.heap.size w1 w') := fun wa wb h hb => ⟨h.1.later hb, own_later h.2.1 hb, below_on h.2.2 hb⟩
    refine Calm.region (by kernel_rfl) (by kernel_rfl) (fun w' => Cap w' w.heap.size (w.heap.size + 1) (.slice p l.length c) x ∧ w'.ownsRow B 44 3 (.slice p l.length c) l.length (rows M.cells l) ∧ Below w1.heap.size w1 w') ⟨⟨hC.l, hC.m⟩, hown, (Below.refl _ _).drew⟩ ?_
    all_goals
      refine Calm.pure (v := ?_) (by rfl) ?_ ?_
      rotate_left
      focus (intro w hSw; go_simp <;> rfl)
      simp only [Act.put, List.setIfInBounds_toArray, List.set_cons_zero, List.set_cons_succ]
    all_goals
      refine Calm.pure (v := ?_) (by rfl) ?_ ?_
      rotate_left
      focus (intro w hSw; have g1 := hSw.1.l; go_simp <;> rfl)
      simp only [Act.put, List.setIfInBounds_toArray, List.set_cons_zero, List.set_cons_succ]
    all_goals
      refine Calm.pure (v := ?_) (by rfl) ?_ ?_
      rotate_left
      focus (intro w hSw; go_simp <;> rfl)
      simp only [Act.put, List.setIfInBounds_toArray, List.set_cons_zero, List.set_cons_succ]
    all_goals
      refine Calm.pure (v := ?_) (by rfl) ?_ ?_
      rotate_left
      focus (intro w hSw; go_simp <;> rfl)
      simp only [Act.put, List.setIfInBounds_toArray, List.set_cons_zero, List.set_cons_succ]
    all_goals
      refine Calm.pure (v := ?_) (by rfl) ?_ ?_
      rotate_left
      focus (intro w hSw; go_simp <;> rfl)
      simp only [Act.put, List.setIfInBounds_toArray, List.set_cons_zero, List.set_cons_succ]
    all_goals
      first
        | (refine Calm.skip ?_ ?_; focus rfl)
        | (refine Calm.pure (v := ?_) (by rfl) ?_ ?_
           rotate_left
           focus (intro w hSw; have g1 := hSw.1.l; go_simp <;> rfl))
      simp only [Act.put, List.setIfInBounds_toArray, List.set_cons_zero, List.set_cons_succ]
    all_goals
      first
        | (refine Calm.skip ?_ ?_; focus rfl)
        | (refine Calm.pure (v := ?_) (by rfl) ?_ ?_
           rotate_left
           focus (intro w hSw; go_simp <;> rfl))
      simp only [Act.put, List.setIfInBounds_toArray, List.set_cons_zero, List.set_cons_succ]
    all_goals
      first
        | (refine Calm.skip ?_ ?_; focus rfl)
        | (refine Calm.pure (v := ?_) (by rfl) ?_ ?_
           rotate_left
           focus (intro w hSw; go_simp <;> rfl))
      simp only [Act.put, List.setIfInBounds_toArray, List.set_cons_zero, List.set_cons_succ]
    all_goals
      first
        | (refine Calm.skip ?_ ?_; focus rfl)
        | (refine Calm.pure (v := ?_) (by rfl) ?_ ?_
           rotate_left
           focus (intro w hSw; go_simp <;> rfl))
      simp only [Act.put, List.setIfInBounds_toArray, List.set_cons_zero, List.set_cons_succ]
    all_goals
      first
        | (refine Calm.skip ?_ ?_; focus rfl)
        | (refine Calm.pure (v := ?_) (by rfl) ?_ ?_
           rotate_left
           focus (intro w hSw; go_simp <;> rfl))
      simp only [Act.put, List.setIfInBounds_toArray, List.set_cons_zero, List.set_cons_succ]
    all_goals
      first
        | (refine Calm.skip ?_ ?_; focus rfl)
        | (refine Calm.pure (v := ?_) (by rfl) ?_ ?_
           rotate_left
           focus (intro w hSw; go_simp <;> rfl))
      simp only [Act.put, List.setIfInBounds_toArray, List.set_cons_zero, List.set_cons_succ]
    all_goals
      refine Calm.pure (v := ?_) (by rfl) ?_ ?_
      rotate_left
      focus (intro w hSw; go_simp <;> rfl)
      simp only [Act.put, List.setIfInBounds_toArray, List.set_cons_zero, List.set_cons_succ]
    all_goals
      rintro w9 ⟨hC9, ho9, hbel9⟩
    have c9 := hC9.l
    have hb9 := below_on hbel hbel9
    have R9 := hC9.m
    clear hC9 hbel9 hC hown
    go_wp2_with (first | refine load_r 44 _ rfl rfl _ rfl R9 Try.underlying44 rfl size44 ?_)
    have hbA := bel_alloc (Below.refl w9.heap.size w9) (.cells #[.int .i64 x.p, .int .i64 x.s, .int .i64 x.i] 44)
    have hb10 := below_on hb9 hbA
    refine (insert_any B _ l k w9.heap.size x _ (own_later ho9 hbA) hk (by omega) (Nat.le_trans hB hb10.size) (rw_new w9 44 _) (fun q hq => by have := HLO.out q hq; have := hb9.size; omega)).mono ?_
    rintro e w2 ⟨u, rfl, hou, hkp, hnu, hb2⟩
    rw [HI.out] at hou
    have HE : Hid (insF x l = z) := by
      have e := HZ.out
      unfold wth at e
      rw [HH.out] at e
      exact e
    have HF : Hid (WiPost B (.slice p l.length c) z w (.returned u) w2) := by
      refine ⟨u, rfl, ?_, ?_, ?_, (hb10.mono hB).trans hb2⟩
      · rw [← HE.out, insF_length]
        exact hou
      · exact fun b h1 h2 => (hkp b (Nat.lt_of_lt_of_le h1 hb10.size) h2).trans (hb10.block b h1)
      · exact fun q hq => (hnu q hq).elim .inl (fun h => .inr (Nat.le_trans hb10.size h))
    obtain ⟨pu, cu, rfl⟩ := own_sl hou
    clear hou hkp hnu hb2 ho9 hb10 hbA
    go_wp2_with fail
    go_ret
    exact HF.out
end Go.Proofs.Ytdnppcbdifckcaa
