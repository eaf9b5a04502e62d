import Derived.Test.YtdnppcbdifckcaaP12
import Derived.Test.YtdnppcbdifckcaaP10
/- slices.DeleteFunc over a row of marks of the call's own. -/
namespace Go.Proofs.Ytdnppcbdifckcaa
open Go.RowKit

set_option maxHeartbeats 4000000 in
set_option maxRecDepth 100000 in
theorem deleteF_any (B : Nat) (v0 : Value) (l : List M) (bt : Nat) (v : List Int) (w : World) (hv : v.length = 13) (hown : w.ownsRow B 44 3 v0 l.length (rows M.cells l)) (hl : l.length ≤ 100) (hbt : bt < B) (hBw : B ≤ w.heap.size) (hX : Bxc w bt v) :
    Calls Try.prog 40 #[v0, .func (.func 41) #[] #[.pointer (some ⟨bt, 0, none⟩)]] w (DlPost B v0 (l.filter (fun y => !hs v y.p y.s)) w) := by
  obtain ⟨f, hf⟩ : ∃ f : M → Bool, f = fun y => hs v y.p y.s := ⟨_, rfl⟩
  have C : ∀ (y : M) (w' : World), Bxc w' bt v → Calls Try.prog 41 #[MV y.p y.s y.i, .pointer (some ⟨bt, 0, none⟩)] w' (Tells (.bool (f y)) w') := fun y w' h => by rw [hf]; exact fold1_any y bt v w' hv h
  rw [show (fun y : M => !hs v y.p y.s) = fun y => !f y by rw [hf]]
  clear hf
  obtain ⟨p, c, rfl⟩ := own_sl hown
  have CI := indexF_any _ l f bt w (own_sh hown) hl (fun y w' hb => C y w' (hX.later hb))
  have HX : Hid (Bxc w bt v) := hX
  have HO : Hid (w.ownsRow B 44 3 (.slice p l.length c) l.length (rows M.cells l)) := hown
  clear hown hX
  go_enter Try.func40, Try.ntmps40
  go_wp2_with fail
  refine CI.mono ?_
  clear CI
  rintro e w1 (⟨rfl, hall, hb1⟩ | ⟨k, hk, rfl, hfk, hbf, hb1⟩)
  · have HE : Hid (l.filter (fun y => !f y) = l) := by
      show _ = _
      rw [List.filter_eq_self]
      intro y hy
      rw [hall y hy]
      rfl
    clear hall C
    go_wp2_with fail
    go_ret
    refine ⟨_, rfl, ?_, fun b h _ => hb1.block b h, .inr rfl, hb1.mono hBw⟩
    rw [HE.out]
    exact own_later HO.out hb1
  · obtain ⟨g, rfl, hg⟩ := own_some HO.out (by omega)
    have ho := own_later HO.out hb1
    obtain ⟨hxl, ⟨h0, _⟩ | ⟨g', cap, cur, h0, hBg, hgc, hnc, hcm, hcs, htake⟩⟩ := ho
    · simp at h0
    simp only [Value.slice.injEq, Option.some.injEq, Addr.mk.injEq, and_true, true_and] at h0
    obtain ⟨rfl, rfl⟩ := h0
    have HD : Hid (DI l f k (k + 1) cur) := DI.start hk hfk hbf htake
    have HB : Hid (Bxc w1 bt v) := HX.out.later hb1
    have HR : Hid (Rw w1 g 44 cur) := hgc
    have hbel := hb1.mono hBw
    have HK : Hid (Kp (some g) w w1) := fun b h _ => hb1.block b h
    have hsw : w.heap.size ≤ w1.heap.size := hb1.size
    clear HX HO hfk hbf htake hxl hgc hb1
    have hkb : ((k : Int) == -1) = false := by
      rw [beq_eq_false_iff_ne]
      omega
    go_wp2_with fail
    go_loopw [5, 6] (fun vi vj wr => ∃ a j : Nat, ∃ cr : Array Value, vi = .int .i64 a ∧ vj = .int .i64 j ∧ j ≤ l.length ∧ a < j ∧ Hid (DI l f a j cr) ∧ cr.size = c * 3 ∧ Hid (Rw wr g 44 cr) ∧ Hid (Bxc wr bt v) ∧ Hid (Kp (some g) w wr) ∧ w.heap.size ≤ wr.heap.size ∧ Below B w wr) (fun _ vj _ => l.length - (intOf vj).toNat)
    case atStart => exact ⟨k, k + 1, cur, rfl, by simp, by omega, by omega, HD, hcs, HR, HB, HK, hsw, hbel⟩
    case round =>
      clear HD hcs HR HB HK hsw hbel
      obtain ⟨a, j, cr, rfl, rfl, hj, haj, HD, hcs, HR, HB, HK, hsw, hbel⟩ := hrel
      by_cases hlt : j < l.length
      · have hlt' : (j : Int) < (l.length : Int) := by omega
        have hgl := HR.out.lt
        have d := DI.elem HD.out hlt HR.out
        obtain ⟨x, HXX⟩ := hid_ex l[j]
        rw [HXX.out] at d
        have zm : (Try.prog.info? 44).map (·.size) = some x.cells.length := size44
        have hbA := bel_alloc (Below.refl wr.heap.size wr) (.cells #[.int .i64 x.p, .int .i64 x.s, .int .i64 x.i] 44)
        have R := rw_new wr 44 #[.int .i64 x.p, .int .i64 x.s, .int .i64 x.i]
        have Cx := C x _ (HB.out.later hbA)
        obtain ⟨y, HY⟩ := hid_ex (f x)
        rw [HY.out] at Cx
        have HF : Hid (f l[j] = y) := by show _ = _; rw [HXX.out, HY.out]
        clear C HY
        have hBr := Nat.le_trans hBw hbel.size
        go_wp2_with (refine load_m 44 _ rfl rfl _ _ rfl d Try.underlying44 rfl zm ?_)
        refine Cx.mono ?_
        clear Cx d
        rintro e w2 ⟨rfl, hb2⟩
        have hbC := below_on hbA hb2
        replace R := R.later hb2
        replace HR : Hid (Rw w2 g 44 cr) := HR.out.later hbC
        replace HB : Hid (Bxc w2 bt v) := HB.out.later hbC
        replace hbel := hbel.trans (hbC.mono hBr)
        replace HK : Hid (Kp (some g) w w2) := HK.out.on hsw hbC
        replace hsw := Nat.le_trans hsw hbC.size
        clear hbA hb2 hbC
        cases y
        · have HD2 : Hid (DI l f (a + 1) (j + 1) (cr.toList.take (a * 3) ++ x.cells ++ cr.toList.drop (a * 3 + 3)).toArray) := by
            have := DI.keep HD.out hlt haj (by omega) HF.out
            rw [HXX.out] at this
            exact this
          have hal' : (a : Int) < (l.length : Int) := by omega
          have ha0 : (0 : Int) ≤ (a : Int) := by omega
          have RR := HR.out
          clear HXX HF
          go_wp2_with (first | refine load_r 44 _ rfl rfl _ rfl R Try.underlying44 rfl size44 ?_ | refine store_mr rfl 44 _ _ rfl _ _ #[.int .i64 x.p, .int .i64 x.s, .int .i64 x.i] rfl rfl RR size44 ?hfit (by simp [Value.oneCell']) ?_)
          case hfit => simp; omega
          go_roundw
          case rel =>
            refine ⟨a + 1, j + 1, _, by simp, by simp, by omega, by omega, ?_, ?_, RR.row _, HB.out.row (by omega) _, HK.out.row _, (by simpa [World.setRow] using hsw), below_setRow hbel hBg _⟩
            · have := HD2.out
              simp only [List.append_assoc, List.cons_append, List.nil_append] at this
              exact this
            · simp
              omega
          case measure => simp [intOf]; omega
        · have HD2 : Hid (DI l f a (j + 1) cr) := DI.skip HD.out hlt HF.out
          clear HF HXX R
          go_wp2_with fail
          go_roundw
          case rel => exact ⟨a, j + 1, cr, rfl, by simp, by omega, by omega, HD2, hcs, HR, HB, HK, hsw, hbel⟩
          case measure => simp [intOf]; omega
      · obtain rfl : j = l.length := by omega
        have hlt' : ¬ (l.length : Int) < (l.length : Int) := by omega
        have hal' : (a : Int) < (l.length : Int) := by omega
        have hale : (a : Int) ≤ (l.length : Int) := by omega
        have hca : ¬ (c = a) := by omega
        have hac : (a : Int) ≤ (c : Int) := by omega
        have han : a ≤ l.length := by omega
        have ha0 : (0 : Int) ≤ (a : Int) := by omega
        have RR := HR.out
        have hcl : ∀ ty cc, (Builtin.clear_ #[39] ty #[.slice (some ⟨g, a * 3, none⟩) (l.length - a) cc]).run Try.prog wr = .ok (.tuple #[]) (wr.setRow g (cr.toList.take (a * 3) ++ (Builtin.zeroCells (MV 0 0 0).cells (l.length - a)).toList ++ cr.toList.drop (a * 3 + (l.length - a) * 3)).toArray) := fun ty cc => run_clear_rowS wr 39 44 ty _ 3 Try.underlying39 zero44 rfl (by decide) (by intro u hu; simp [Value.cells] at hu; rcases hu with rfl | rfl <;> rfl) g (a * 3) _ cc (by omega) 44 cr RR (by omega)
        obtain ⟨cr2, HC2⟩ := hid_ex (cr.toList.take (a * 3) ++ (Builtin.zeroCells (MV 0 0 0).cells (l.length - a)).toList ++ cr.toList.drop (a * 3 + (l.length - a) * 3)).toArray
        rw [HC2.out] at hcl
        have hs2 : cr2.size = c * 3 := by
          rw [← HC2.out]
          simp [Builtin.zeroCells, Value.cells]
          omega
        have ht2 : cr2.toList.take (a * 3) = rows M.cells (l.filter (fun y => !f y)) := by
          have := HD.out.t
          rw [List.take_length] at this
          rw [← HC2.out, ← this, List.toList_toArray, List.append_assoc, List.take_left' (by rw [List.length_take, Array.length_toList]; omega)]
        have hn2 : a = (l.filter (fun y => !f y)).length := by
          have := HD.out.n
          rwa [List.take_length] at this
        have HP : Hid (a = (l.filter (fun y => !f y)).length ∧ cr2.toList.take (a * 3) = rows M.cells (l.filter (fun y => !f y))) := ⟨hn2, ht2⟩
        clear ht2 hn2 HC2 C HD HB HR
        go_wp2_with (first | (at_builtin; refine clear_run rfl _ 39 rfl _ rfl (hcl _ _) ?_))
        go_ret
        refine ⟨_, rfl, ?_, HK.out.row _, .inr rfl, below_setRow hbel hBg _⟩
        obtain ⟨h1, h2⟩ := HP.out
        rw [← h1, ← h2]
        refine ⟨?_, .inr ⟨g, c, cr2, rfl, hBg, RR.row cr2, by omega, hcm, hs2, rfl⟩⟩
        rw [List.length_take, Array.length_toList]
        omega
end Go.Proofs.Ytdnppcbdifckcaa
/- What becomes of a set; members whose marks lie in rows of the call's own, beside a map of them. Nothing of one function. -/
namespace Go.Proofs.Ytdnppcbdifckcaa
open Go.RowKit Go.Sort Go.Maps Go.WideMaps

def addX (x : X) (m : M) (s : ByteArray) : X := if (ck x && (im m.i && decide (s.size ≤ 64))) = true then { x with mb := addL x.mb s m } else x
def woX (x : X) (i : Int) (G : Mb → Bool) (p : M → Bool) : X := if (ck x && im i) = true then { x with mb := wo G p x.mb } else x
abbrev bfP (q u : Int) (v : List Int) (idx : Int) : M → Bool := fun y => bf y.p y.s y.i q u v idx
abbrev hsP (v : List Int) : M → Bool := fun y => hs v y.p y.s
def delX (x : X) (q u : Int) (v : List Int) (idx : Int) (s : ByteArray) : X := woX x idx (fun y => decide (tx y = bs s)) (bfP q u v idx)
def clX (x : X) (q u : Int) (v : List Int) (idx : Int) : X := woX x idx (fun _ => true) (bfP q u v idx)
def fdX (x : X) (v : List Int) : X := if ck x = true then { x with mb := fdL (hsP v) x.mb } else x
theorem ck_x4 {x : X} (h : ck x = true) (l : List Mb) : { x with mb := l } = x4 l := by
  obtain ⟨h1, h2, h3, h4, h5, _⟩ := ck_parts h
  obtain ⟨k, b, am, wr, mb, el⟩ := x
  simp only at *
  subst h1
  subst h2
  obtain rfl := List.eq_nil_of_length_eq_zero h3
  obtain rfl := List.eq_nil_of_length_eq_zero h4
  obtain rfl := List.eq_nil_of_length_eq_zero h5
  rfl
theorem bs_inj {a b : ByteArray} (h : bs a = bs b) : a = b := by
  obtain ⟨⟨a⟩⟩ := a
  obtain ⟨⟨b⟩⟩ := b
  simp only [bs] at h
  rw [h]
section
variable {B : Nat} {w w' : World} {A C : List (Mb × Value)} {y z : Mb × Value}
theorem own_kp {e S n : Nat} {v : Value} {xs : List Value} (h : w.ownsRow B e S v n xs) {o : Option Nat} (hk : Kp o w w') (hne : ∀ k, v.ownBlock = some k → o ≠ some k) : w'.ownsRow B e S v n xs := by
  obtain ⟨h1, ⟨rfl, h0⟩ | ⟨g, cap, cur, rfl, hbg, hg', h2⟩⟩ := h
  · exact ⟨h1, .inl ⟨rfl, h0⟩⟩
  · exact ⟨h1, .inr ⟨g, cap, cur, rfl, hbg, (hk g (Array.getElem?_eq_some_iff.1 hg').1 (hne g rfl)).trans hg', h2⟩⟩
theorem below_kp (hb : Below B w w') (hk : Kp none w w') : Below w.heap.size w w' := ⟨hb.os, hb.tape, hb.output, hb.size, fun b h => hk b h (by simp)⟩
theorem OwnB.apart (h : OwnB B w (A ++ y :: C)) : ∀ a ∈ A ++ C, ∀ k, a.2.ownBlock = some k → y.2.ownBlock ≠ some k := by
  have hd := h.d
  rw [List.pairwise_append, List.pairwise_cons] at hd
  intro a ha k hk hy
  rcases List.mem_append.1 ha with h1 | h1
  · exact hd.2.2 a h1 y (by simp) k hk hy
  · exact hd.2.1.1 a h1 k hy hk
/-- One of them is written over: the others stay. -/
theorem OwnB.others (h : OwnB B w (A ++ y :: C)) (hk : Kp y.2.ownBlock w w') : OwnB B w' (A ++ C) := by
  refine ⟨fun a ha => ?_, ?_⟩
  · have hm : a ∈ A ++ y :: C := by
      rcases List.mem_append.1 ha with h1 | h1
      · exact List.mem_append.2 (.inl h1)
      · exact List.mem_append.2 (.inr (List.mem_cons_of_mem _ h1))
    exact own_kp (h.o a hm) hk (h.apart a ha)
  · have hd := h.d
    rw [List.pairwise_append, List.pairwise_cons] at hd
    rw [List.pairwise_append]
    exact ⟨hd.1, hd.2.1.2, fun a ha b hb => hd.2.2 a ha b (List.mem_cons_of_mem _ hb)⟩
theorem OwnB.mid (h : OwnB B w (A ++ C)) (hz : w.ownsRow B 44 3 z.2 z.1.ms.length (rows M.cells z.1.ms)) (hn : ∀ k, z.2.ownBlock = some k → ∀ a ∈ A ++ C, a.2.ownBlock ≠ some k) : OwnB B w (A ++ z :: C) := by
  have hd := h.d
  rw [List.pairwise_append] at hd
  refine ⟨fun a ha => ?_, ?_⟩
  · rcases List.mem_append.1 ha with h1 | h1
    · exact h.o a (List.mem_append.2 (.inl h1))
    · rcases List.mem_cons.1 h1 with rfl | h1
      · exact hz
      · exact h.o a (List.mem_append.2 (.inr h1))
  · rw [List.pairwise_append, List.pairwise_cons]
    refine ⟨hd.1, ⟨fun a ha k hk => hn k hk a (List.mem_append.2 (.inr ha)), hd.2.1⟩, fun a ha b hb k hk => ?_⟩
    rcases List.mem_cons.1 hb with rfl | hb
    · exact fun h2 => hn k h2 a (List.mem_append.2 (.inl ha)) hk
    · exact hd.2.2 a ha b hb k hk
theorem map_ne {b n e S m : Nat} {D : DataW Value} {v : Value} {xs : List Value} (hown : w.ownsMap Try.prog 9 vE b n D) (h : w.ownsRow B e S v m xs) : ∀ k, v.ownBlock = some k → b ≠ k := by
  intro k hk e
  subst e
  obtain ⟨es, clock, hb, _⟩ := hown
  obtain ⟨_, ⟨rfl, _⟩ | ⟨g, cap, cur, rfl, _, hg, _⟩⟩ := h
  · cases hk
  · have e1 := Option.some.inj hk
    simp only at e1
    subst e1
    rw [hg] at hb
    cases hb
theorem OwnB.turned {b n : Nat} {D : DataW Value} {ms : List (Mb × Value)} (h : OwnB B w ms) (hown : w.ownsMap Try.prog 9 vE b n D) (hg : w.grownBy w' (some b)) : OwnB B w' ms :=
  ⟨fun a ha => own_grown (h.o a ha) hg (fun k hk e => map_ne hown (h.o a ha) k hk (Option.some.inj e)), h.d⟩
theorem map_kp {b n : Nat} {D : DataW Value} (hown : w.ownsMap Try.prog 9 vE b n D) {o : Option Nat} (hk : Kp o w w') (hne : o ≠ some b) : w'.ownsMap Try.prog 9 vE b n D := by
  obtain ⟨es, clock, hb, F, hs, hE⟩ := hown
  exact ⟨es, clock, (hk b (Array.getElem?_eq_some_iff.1 hb).1 hne).trans hb, F, hs, hE⟩
theorem map_later {b n : Nat} {D : DataW Value} (hown : w.ownsMap Try.prog 9 vE b n D) (hb : Below w.heap.size w w') : w'.ownsMap Try.prog 9 vE b n D := map_kp hown (o := none) (fun b h _ => hb.block b h) (by simp)
theorem Rw.turned {b n p : Nat} {D : DataW Value} {t : TypeId} {cs : Array Value} (R : Rw w p t cs) (hown : w.ownsMap Try.prog 9 vE b n D) (hg : w.grownBy w' (some b)) : Rw w' p t cs := by
  refine (hg.block p R.lt (fun e => ?_)).trans R
  obtain rfl := Option.some.inj e
  obtain ⟨es, clock, hb, _⟩ := hown
  rw [show w.heap[p]? = _ from R] at hb
  cases hb
end
theorem upB_split {ms : List (Mb × Value)} (h : upB ms) (s : Bs) : (∀ y ∈ ms, tx y.1 ≠ s) ∨ ∃ A y C, ms = A ++ y :: C ∧ tx y.1 = s ∧ (∀ a ∈ A, tx a.1 < s) ∧ ∀ c ∈ C, s < tx c.1 := by
  by_cases hs : ∃ y ∈ ms, tx y.1 = s
  · obtain ⟨y, hy, e⟩ := hs
    obtain ⟨A, C, rfl⟩ := List.append_of_mem hy
    right
    unfold upB at h
    rw [List.pairwise_append, List.pairwise_cons] at h
    exact ⟨A, y, C, rfl, e, fun a ha => by rw [← e]; exact h.2.2 a ha y (by simp), fun c hc => by rw [← e]; exact h.2.1.1 c hc⟩
  · left
    exact fun y hy e => hs ⟨y, hy, e⟩
theorem putV_mid {A C : List (Mb × Value)} {y z : Mb × Value} (e : tx y.1 = tx z.1) (h1 : ∀ a ∈ A, tx a.1 < tx z.1) (h2 : ∀ c ∈ C, tx z.1 < tx c.1) : putV z (A ++ y :: C) = A ++ z :: C := by
  unfold putV
  have e1 : A.filter (fun a => decide (tx a.1 < tx z.1)) = A := List.filter_eq_self.2 (fun a ha => decide_eq_true (h1 a ha))
  have e2 : A.filter (fun a => decide (tx z.1 < tx a.1)) = [] := List.filter_eq_nil_iff.2 (fun a ha => by simpa using Bs.le_of (h1 a ha))
  have e3 : C.filter (fun a => decide (tx a.1 < tx z.1)) = [] := List.filter_eq_nil_iff.2 (fun a ha => by simpa using Bs.le_of (h2 a ha))
  have e4 : C.filter (fun a => decide (tx z.1 < tx a.1)) = C := List.filter_eq_self.2 (fun a ha => decide_eq_true (h2 a ha))
  have n1 : ¬ tx y.1 < tx z.1 := by rw [e]; exact Bs.irr _
  have n2 : ¬ tx z.1 < tx y.1 := by rw [e]; exact Bs.irr _
  rw [List.filter_append, List.filter_append, List.filter_cons_of_neg (by simpa using n1), List.filter_cons_of_neg (by simpa using n2), e1, e2, e3, e4]
  simp
theorem delV_mid {A C : List (Mb × Value)} {y : Mb × Value} {s : Bs} (e : tx y.1 = s) (h1 : ∀ a ∈ A, tx a.1 < s) (h2 : ∀ c ∈ C, s < tx c.1) : delV s (A ++ y :: C) = A ++ C := by
  unfold delV
  rw [List.filter_append, List.filter_cons_of_neg (by simpa using e), List.filter_eq_self.2 (fun a ha => ?_), List.filter_eq_self.2 (fun a ha => ?_)]
  · refine decide_eq_true (fun e => ?_)
    have := h2 a ha
    rw [e] at this
    exact Bs.irr _ this
  · refine decide_eq_true (fun e => ?_)
    have := h1 a ha
    rw [e] at this
    exact Bs.irr _ this
theorem delV_none {ms : List (Mb × Value)} {s : Bs} (h : ∀ y ∈ ms, tx y.1 ≠ s) : delV s ms = ms := List.filter_eq_self.2 (fun a ha => decide_eq_true (h a ha))
theorem wo_mid {A C : List Mb} {y : Mb} {s : Bs} (p : M → Bool) (e : tx y = s) (h1 : ∀ a ∈ A, tx a < s) (h2 : ∀ c ∈ C, s < tx c) : wo (fun y => decide (tx y = s)) p (A ++ y :: C) = A ++ (dm p y).toList ++ C := by
  rw [wo_append, wo_none p (fun a ha => decide_eq_false (fun e => ?_)), show y :: C = [y] ++ C from rfl, wo_append, wo_none (l := C) p (fun a ha => decide_eq_false (fun e => ?_))]
  · have : wo (fun y => decide (tx y = s)) p [y] = (dm p y).toList := by
      simp only [wo, List.filterMap_cons, List.filterMap_nil, e, decide_true, if_true]
      cases dm p y <;> rfl
    rw [this, List.append_assoc]
  · have := h2 a ha
    rw [e] at this
    exact Bs.irr _ this
  · have := h1 a ha
    rw [e] at this
    exact Bs.irr _ this
end Go.Proofs.Ytdnppcbdifckcaa
