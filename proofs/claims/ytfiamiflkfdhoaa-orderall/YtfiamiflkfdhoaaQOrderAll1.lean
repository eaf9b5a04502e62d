import Derived.Test.YtfiamiflkfdhoaaP8
import Derived.Test.YtfiamiflkfdhoaaP6
import Derived.Test.YtfiamiflkfdhoaaP14
import Derived.Deep.CutRange
/- What OrderAll says. -/
namespace Go.Proofs.Ytfiamiflkfdhoaa
open Go.RowKit

/-- Those that were offered so far. -/
def ofs (l : List T) (f k : Nat) : List T := (List.range k).filterMap fun j => l[(j + f) % l.length]?
theorem ofs_succ {l : List T} (h : 0 < l.length) (f k : Nat) : ofs l f (k + 1) = ofs l f k ++ [l[(k + f) % l.length]'(Nat.mod_lt _ h)] := by
  unfold ofs
  rw [List.range_succ, List.filterMap_append]
  congr 1
  simp [List.getElem?_eq_getElem (Nat.mod_lt (k + f) h)]
theorem ofs_len (l : List T) (f k : Nat) : (ofs l f k).length ≤ k := by
  unfold ofs
  have := List.length_filterMap_le (fun j => l[(j + f) % l.length]?) (List.range k)
  simpa using this
theorem ofs_mem {l : List T} {f k : Nat} {x : T} : x ∈ ofs l f k ↔ ∃ j, j < k ∧ l[(j + f) % l.length]? = some x := by
  unfold ofs
  simp
theorem ofs_ne {l : List T} (hc : clb zeros l = true) {f k : Nat} (hk : k < l.length) (h0 : (k + f) % l.length < l.length) : ∀ y ∈ ofs l f k, sd y (l[(k + f) % l.length]'h0) = false := fun y hy => by
  obtain ⟨j, hj, e⟩ := ofs_mem.1 hy
  obtain ⟨hjl, rfl⟩ := List.getElem?_eq_some_iff.1 e
  exact clb_ne rfl hc hjl h0 (turn_ne hk hj)
theorem ofs_all {l : List T} (f : Nat) : (∀ x ∈ l, x ∈ ofs l f l.length) ∧ ∀ x ∈ ofs l f l.length, x ∈ l := by
  constructor
  · intro x hx
    obtain ⟨k, hk, rfl⟩ := List.getElem_of_mem hx
    obtain ⟨j, hj, e⟩ := turn_at (f := f) hk
    exact ofs_mem.2 ⟨j, hj, by rw [e]; exact List.getElem?_eq_getElem hk⟩
  · intro x hx
    obtain ⟨j, hj, e⟩ := ofs_mem.1 hx
    exact List.mem_of_getElem? e
/-- What holds at each round. -/
structure Rn2 (w wr : World) (b3 : Nat) (vw : Value) (l all : List T) (f : Nat) (zs : List (T × Value)) (v : List Int) (k : Nat) : Prop where
  x : XAt wr vw zs (fun b => b = b3)
  m : At wr b3 v
  c : Al (ofs l f k) all (zs.map (·.1)) v
  b : Below w.heap.size w wr
  l : w.heap.size ≤ b3
  o : ∀ y ∈ zs, y.1.ok = true
theorem Rn2.later {w wr w' : World} {b3 : Nat} {vw : Value} {l all : List T} {f : Nat} {zs : List (T × Value)} {v : List Int} {k : Nat} (h : Rn2 w wr b3 vw l all f zs v k) (hb : Below wr.heap.size wr w') : Rn2 w w' b3 vw l all f zs v k :=
  ⟨h.x.later hb, h.m.later hb, h.c, below_on h.b hb, h.l, h.o⟩
set_option maxHeartbeats 8000000 in
set_option maxRecDepth 100000 in
theorem all_law (K : Prg) (l : List T) (sv : Value) (from_ : Int) (w : World) (h : XHas w sv l) (hlo : -9223372036854775808 ≤ from_) (hhi : from_ ≤ 9223372036854775807) : Calls Try.prog 4 #[sv, .int .i64 from_] w (Tells (.bool true) w) := by
  obtain ⟨q, c, rfl⟩ := h.slice
  have hml := maxLen_lt h.max
  go_enter Try.func4, Try.ntmps4
  go_wp2_with fail
  refine (few_any _ l _ h).mono ?_
  rintro e w1 ⟨b, rfl, hb, hb1⟩
  have HW : ∀ w', Below w.heap.size w w' → Calls Try.prog 6 #[] w' (Tells (.bool true) w') := fun w' _ => K.heads w'
  cases b
  · go_wp2_with fail
    refine (K.heads _).mono ?_
    rintro e w2 ⟨rfl, hb2⟩
    go_wp2_with fail
    go_ret
    exact ⟨rfl, below_on hb1 hb2⟩
  · have h40 := hb rfl
    clear hb
    by_cases h32 : l.length ≤ 32
    case neg =>
      have h32' : (32 : Int) < (l.length : Int) := by omega
      go_wp2_with fail
      refine (K.heads _).mono ?_
      rintro e w2 ⟨rfl, hb2⟩
      go_wp2_with fail
      go_ret
      exact ⟨rfl, below_on hb1 hb2⟩
    have h32' : ¬ (32 : Int) < (l.length : Int) := by omega
    by_cases hl0 : l.length = 0
    · have hl0' : (l.length : Int) = 0 := by omega
      go_wp2_with fail
      refine (K.heads _).mono ?_
      rintro e w2 ⟨rfl, hb2⟩
      go_wp2_with fail
      go_ret
      exact ⟨rfl, below_on hb1 hb2⟩
    have hl0' : ¬ (l.length : Int) = 0 := by omega
    by_cases hf0 : from_ < 0
    · go_wp2_with fail
      refine (K.heads _).mono ?_
      rintro e w2 ⟨rfl, hb2⟩
      go_wp2_with fail
      go_ret
      exact ⟨rfl, below_on hb1 hb2⟩
    go_wp2_with fail
    refine (refClosed_any l _ _ (h.later hb1)).mono ?_
    obtain ⟨z, HZ⟩ := hid_ex (clb zeros l)
    rw [HZ.out]
    rintro e w2 ⟨rfl, hb2⟩
    replace hb1 := below_on hb1 hb2
    clear hb2
    have g1 : decide ((32 : Int) < (l.length : Int)) = false := decide_eq_false (by omega)
    have g2 : ((l.length : Int) == 0) = false := by rw [beq_eq_false_iff_ne]; omega
    have g3 : decide (from_ < 0) = false := decide_eq_false (by omega)
    simp only [g1, g2, g3, Bool.or_self]
    clear g1 g2 g3
    cases z
    · go_wp2_with fail
      refine (K.heads _).mono ?_
      rintro e w2 ⟨rfl, hb2⟩
      go_wp2_with fail
      go_ret
      exact ⟨rfl, below_on hb1 hb2⟩
    · obtain ⟨F, rfl⟩ : ∃ F : Nat, from_ = (F : Int) := ⟨from_.toNat, by omega⟩
      obtain ⟨f, Hf⟩ := hid_ex (F % 1000)
      have hf1000 : f < 1000 := by rw [← Hf.out]; exact Nat.mod_lt _ (by omega)
      have ef : Int.tmod (F : Int) 1000 = (f : Int) := by rw [← Hf.out]; exact (Int.ofNat_tmod F 1000).symm
      have A3 : At (w2.alloc (.cells #[.int .i64 0, .int .i64 0, .int .i64 0, .int .i64 0, .int .i64 0, .int .i64 0, .int .i64 0, .int .i64 0, .int .i64 0, .int .i64 0, .int .i64 0, .int .i64 0, .int .i64 0] 26)) w2.heap.size zeros := at_new w2 zeros rfl
      have hR : Rn2 w (w2.alloc (.cells #[.int .i64 0, .int .i64 0, .int .i64 0, .int .i64 0, .int .i64 0, .int .i64 0, .int .i64 0, .int .i64 0, .int .i64 0, .int .i64 0, .int .i64 0, .int .i64 0, .int .i64 0] 26)) w2.heap.size (.slice none 0 0) l [] f [] zeros 0 := ⟨⟨SHas.nil _ _, (fun _ h => by cases h), fun _ _ => ⟨(fun _ _ _ e => by simp at e), fun _ h => by cases h⟩⟩, A3, Al.zero, bel_alloc hb1 _, hb1.size, (fun _ h => by cases h)⟩
      go_wp2_with fail
      generalize w2.alloc (.cells #[.int .i64 0, .int .i64 0, .int .i64 0, .int .i64 0, .int .i64 0, .int .i64 0, .int .i64 0, .int .i64 0, .int .i64 0, .int .i64 0, .int .i64 0, .int .i64 0, .int .i64 0] 26) = w3 at hR ⊢
      generalize w2.heap.size = b3 at hR ⊢
      clear A3 hb1
      go_loopw [6, 7, 8] (fun vw vn vi wr => ∃ (k : Nat) (all : List T) (zs : List (T × Value)) (v : List Int), vi = .int .i64 k ∧ vn = .int .i64 all.length ∧ k ≤ l.length ∧ Rn2 w wr b3 vw l all f zs v k) (fun _ _ vi _ => l.length - (intOf vi).toNat)
      case atStart => exact ⟨0, [], [], zeros, rfl, rfl, by omega, hR⟩
      case round =>
        clear hR
        obtain ⟨k, all, zs, v, rfl, rfl, hk, hR⟩ := hrel
        by_cases hlt : k < l.length
        · have hlt' : (k : Int) < (l.length : Int) := by omega
          have hm0 : (k + f) % l.length < l.length := Nat.mod_lt _ (by omega)
          obtain ⟨m, HM⟩ := hid_ex ((k + f) % l.length)
          have hm : m < l.length := by rw [← HM.out]; exact hm0
          have hm' : (m : Int) < (l.length : Int) := by omega
          have e1 : IntKind.i64.wrap ((k : Int) + (f : Int)) = (k : Int) + (f : Int) := by rw [IntKind.wrap_i64]; omega
          have e2 : Int.tmod ((k : Int) + (f : Int)) (l.length : Int) = (m : Int) := by rw [← HM.out, ← Int.natCast_add]; exact (Int.ofNat_tmod (k + f) l.length).symm
          have hnew := hR.c.new (clb_ok l zeros HZ.out _ (List.getElem_mem hm0)) (ofs_ne HZ.out hlt hm0) (by have := ofs_len l f k; omega)
          have hstep := hR.c.step (l[(k + f) % l.length]'hm0)
          rw [← ofs_succ (by omega)] at hstep
          have hxm : l[(k + f) % l.length]'hm0 = l[m] := by simp only [HM.out]
          rw [hxm] at hnew hstep
          obtain ⟨g, o, s1, rfl, d0, a0⟩ := h.at m hm
          have d1 := range_later d0 hR.b
          have a1 := a0.later hR.b
          have hof : ∀ b, b = b3 → Off b s1 := fun b e a n c e1 hn => by
            have h1 := a0.block e1 hn
            have h2 := hR.l
            omega
          obtain ⟨x, HX⟩ := hid_ex l[m]
          rw [HX.out] at d1 a1 hnew hstep
          clear d0 a0 hxm
          have hv := hR.m.1
          have z1 := tx_size x s1
          have zv := info_vals hv
          have hzk : zs.length ≤ k := by have q := hR.c.l; have q2 := ofs_len l f k; rw [List.length_map] at q; omega
          have hS : wr.rangeAt b3 0 (vals v) ∧ wr.rangeAt g (o + m * 17) (txc x.p x.s x.v x.t s1) := ⟨hR.m.range0, d1⟩
          have hRd := hR.later (Below.refl wr.heap.size wr).drew
          go_upto_region 9 with fail
          refine Held.region (fun w' => w'.rangeAt b3 0 (vals v) ∧ w'.rangeAt g (o + m * 17) (txc x.p x.s x.v x.t s1)) (by kernel_rfl) ?_
          refine Held.lm zv (fun _ h => h.1) Try.underlying26 hS ?_
          iterate 10 (refine Held.pu hS ?_)
          refine Held.lm z1 (fun _ h => h.2) Try.underlying34 hS ?_
          refine Held.kn (K.offer (fun b => b = b3) v zs u6 x s1 _ hv (fun b e => e ▸ hRd.m.lt) hRd.x a1 hof (by omega) (fun y hy => by have := ok_ops (hR.o y hy); omega)) ?_
          rintro e w4 ⟨u, ms, rfl, hms, hm2, hb4⟩
          have hb4' : Below wr.heap.size wr w4 := below_on (Below.refl _ _).drew hb4
          have hR4 := hR.later hb4'
          have hS4 : w4.rangeAt b3 0 (vals v) ∧ w4.rangeAt g (o + m * 17) (txc x.p x.s x.v x.t s1) := ⟨range_later hS.1 hb4', range_later hS.2 hb4'⟩
          rw [hnew]
          refine ⟨_, rfl, hS4, ?_⟩
          iterate 5 (refine Held.pu hS4 ?_)
          refine Held.dn ?_
          clear hS hS4 hb4 hb4' hR hRd z1 d1 a1 e1 e2
          replace hms := hms hnew
          rw [ofL, if_pos hnew] at hms
          have hmo : ∀ y ∈ ms, y.1.ok = true := fun y hy => by
            have h1 : y.1 ∈ ms.map (·.1) := List.mem_map_of_mem hy
            rw [hms, insT_mem] at h1
            rcases h1 with h1 | h1
            · rw [h1]
              exact (ofE_ok hnew).1
            · obtain ⟨a, ha, h2⟩ := List.mem_map.1 h1
              rw [← h2]
              exact hR4.o a ha
          have hml2 : ms.length = zs.length + 1 := by
            have e := congrArg List.length hms
            rw [List.length_map, insT_length, List.length_map] at e
            exact e
          rw [← hms] at hstep
          obtain ⟨L, HL⟩ := hid_ex (ms.map (·.1))
          have hv13 : (drV v L).length = 13 := drV_length hv
          have hdl := dr_len (v := v) (l := L) hv
          have C := K.drain (fun b => b = b3) v ms u w4 hv (fun b e => e ▸ hR4.m.lt) hm2 (by omega) (fun y hy => by have := ok_ops (hmo y hy); omega)
          rw [HL.out] at C hstep
          have hLl : L.length = ms.length := by rw [← HL.out, List.length_map]
          obtain ⟨G, HG⟩ := hid_ex (drG v L)
          obtain ⟨D, HD⟩ := hid_ex (drL v L)
          obtain ⟨v', HV'⟩ := hid_ex (drV v L)
          rw [HV'.out] at hstep hv13
          rw [HG.out, HD.out] at hstep hdl
          have A3 := hR4.m
          go_wp2_with (first | refine load_at rfl _ rfl _ rfl A3 ?_)
          refine C.mono ?_
          rintro e w5 ⟨n1, n2, y1, y2, rfl, e1, e2, x1, x2, hb5⟩
          rw [HV'.out] at *
          rw [HG.out] at e1
          rw [HD.out] at e2
          have hR5 := hR4.later hb5
          obtain ⟨pn, cn, rfl⟩ := x1.s.slice
          have hy1 : y1.length = G.length := by have q := congrArg List.length e1; rw [List.length_map] at q; exact q
          have A11 : At (w5.alloc (.cells #[.int .i64 0, .int .i64 0, .int .i64 0, .int .i64 0, .int .i64 0, .int .i64 0, .int .i64 0, .int .i64 0, .int .i64 0, .int .i64 0, .int .i64 0, .int .i64 0, .int .i64 0] 26)) w5.heap.size zeros := at_new w5 zeros rfl
          have hbA := bel_alloc (Below.refl w5.heap.size w5) (.cells #[.int .i64 0, .int .i64 0, .int .i64 0, .int .i64 0, .int .i64 0, .int .i64 0, .int .i64 0, .int .i64 0, .int .i64 0, .int .i64 0, .int .i64 0, .int .i64 0, .int .i64 0] 26)
          generalize hW6 : w5.alloc (.cells #[.int .i64 0, .int .i64 0, .int .i64 0, .int .i64 0, .int .i64 0, .int .i64 0, .int .i64 0, .int .i64 0, .int .i64 0, .int .i64 0, .int .i64 0, .int .i64 0, .int .i64 0] 26) = w6 at A11 hbA
          have hb6 : Below w5.heap.size w5 (w6.setRow w5.heap.size (vals v').toArray) := hbA.grown (grown_row w6 _ _) hbA.size (fun k hk => by simp only [Option.some.injEq] at hk; omega)
          have A6 := A11.row (l := v') hv13
          have hR6 := hR5.later hb6
          have x3 := x2.later hb6
          have A7 := hR6.m
          generalize hW7 : w6.setRow w5.heap.size (vals v').toArray = w7 at A6 hR6 x3 hb6 A7
          have hall : all.length + y1.length ≤ 41 := by have q := hstep.l; have q2 := ofs_len l f (k + 1); rw [List.length_append] at q; omega
          have e5 : IntKind.i64.wrap ((all.length : Int) + (y1.length : Int)) = (all.length : Int) + (y1.length : Int) := by rw [IntKind.wrap_i64]; omega
          go_wp2_with (first | rw [hW6] | (refine store_at rfl _ _ rfl w5.heap.size v' rfl rfl A11 hv13 ?_; rw [hW7]) | refine load_at rfl _ rfl _ rfl A6 ?_ | refine store_at rfl _ _ rfl b3 v' rfl rfl A7 hv13 ?_)
          have hgr := grown_row w7 b3 (vals v').toArray
          go_roundw
          case rel =>
            refine ⟨k + 1, all ++ G, y2, v', by simp, by rw [List.length_append, ← hy1]; simp, by omega, x3.grown hgr (fun b e => by simpa using e.symm), A7.row hv13, ?_, below_setRow hR6.b hR6.l _, hR6.l, fun y hy => ?_⟩
            · rw [e2]
              exact hstep
            · have p1 : y.1 ∈ y2.map (·.1) := List.mem_map_of_mem hy
              rw [e2, ← HD.out] at p1
              have p2 := (drL_mem.1 p1).1
              rw [← HL.out] at p2
              obtain ⟨a, ha, p3⟩ := List.mem_map.1 p2
              rw [← p3]
              exact hmo a ha
          case measure => simp [intOf]; omega
        · have hlt' : ¬ (k : Int) < (l.length : Int) := by omega
          obtain rfl : k = l.length := by omega
          obtain ⟨h1, h2⟩ := hR.c.all HZ.out (ofs_all f).1 (ofs_all f).2
          have hz : zs = [] := by simpa using h1
          subst hz
          obtain ⟨pw, cw, rfl⟩ := hR.x.s.slice
          have hbel := hR.b
          have h2' : (all.length : Int) = (l.length : Int) := by omega
          clear hR h1
          go_wp2_with fail
          refine (K.heads _).mono ?_
          rintro e w2 ⟨rfl, hb2⟩
          go_wp2_with fail
          go_ret
          exact ⟨rfl, below_on hbel hb2⟩
end Go.Proofs.Ytfiamiflkfdhoaa
