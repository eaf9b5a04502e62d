import Derived.Test.YtfiamiflkfdhoaaP8
import Derived.Test.YtfiamiflkfdhoaaP14
import Derived.Deep.CutRange
import Derived.Test.YtfiamiflkfdhoaaP7
import Derived.Laws.CopyOwn
/- What OrderClosed says. -/
namespace Go.Proofs.Ytfiamiflkfdhoaa
open Go.RowKit

/-- What holds at each round of the first loop. -/
structure Rnd (w wr : World) (b3 : Nat) (va vw : Value) (ys zs : List (T × Value)) (v : List Int) (k : Nat) : Prop where
  a : OwnX wr (b3 + 1) va ys (fun b => b = b3)
  x : XAt wr vw zs (fun b => va.ownBlock = some b ∨ b = b3)
  m : At wr b3 v
  c : Cd (ys.map (·.1)) (zs.map (·.1)) v
  n : ys.length + zs.length ≤ k
  b : Below w.heap.size w wr
  l : w.heap.size ≤ b3
  o : ∀ y ∈ zs, y.1.ok = true
theorem Rnd.lt {w wr : World} {b3 : Nat} {va vw : Value} {ys zs : List (T × Value)} {v : List Int} {k : Nat} (h : Rnd w wr b3 va vw ys zs v k) : ∀ b, (va.ownBlock = some b ∨ b = b3) → b < wr.heap.size := fun b e => by
  rcases e with e | rfl
  · exact (h.a.block e).2
  · exact h.m.lt
theorem Rnd.later {w wr w' : World} {b3 : Nat} {va vw : Value} {ys zs : List (T × Value)} {v : List Int} {k : Nat} (h : Rnd w wr b3 va vw ys zs v k) (hb : Below wr.heap.size wr w') : Rnd w w' b3 va vw ys zs v k :=
  ⟨h.a.later hb, h.x.later hb, h.m.later hb, h.c, h.n, below_on h.b hb, h.l, h.o⟩
set_option maxHeartbeats 8000000 in
set_option maxRecDepth 100000 in
theorem closed_law (K : Prg) (l : List T) (sv : Value) (w : World) (h : XHas w sv l) : Calls Try.prog 3 #[sv] w (Tells (.bool true) w) := by
  obtain ⟨q, c, rfl⟩ := h.slice
  have hml := maxLen_lt h.max
  go_enter Try.func3, Try.ntmps3
  go_wp2_with fail
  refine (few_any _ l _ h).mono ?_
  rintro e w1 ⟨b, rfl, hb, hb1⟩
  cases b
  · go_wp2_with fail
    refine (K.heads _).mono ?_
    rintro e w2 ⟨rfl, hb2⟩
    go_wp2_with fail
    go_ret
    exact ⟨rfl, below_on hb1 hb2⟩
  · have h40 := hb rfl
    clear hb
    have A3 := at_new w1 zeros rfl
    have hbel := bel_alloc hb1 (.cells (vals zeros).toArray 26)
    have hsz : w.heap.size ≤ w1.heap.size := hb1.size
    have hR : Rnd w (w1.alloc (.cells (vals zeros).toArray 26)) w1.heap.size (.slice none 0 0) (.slice none 0 0) [] [] zeros 0 := ⟨OwnX.nil _ _ _, ⟨SHas.nil _ _, (fun _ h => by cases h), fun _ _ => ⟨(fun _ _ _ e => by simp at e), fun _ h => by cases h⟩⟩, A3, Cd.zero, Nat.le_refl _, hbel, hsz, (fun _ h => by cases h)⟩
    go_wp2_with fail
    clear A3 hbel hsz hb1
    change Rnd w (w1.alloc (.cells #[.int .i64 0, .int .i64 0, .int .i64 0, .int .i64 0, .int .i64 0, .int .i64 0, .int .i64 0, .int .i64 0, .int .i64 0, .int .i64 0, .int .i64 0, .int .i64 0, .int .i64 0] 26)) w1.heap.size (.slice none 0 0) (.slice none 0 0) [] [] zeros 0 at hR
    generalize w1.alloc (.cells #[.int .i64 0, .int .i64 0, .int .i64 0, .int .i64 0, .int .i64 0, .int .i64 0, .int .i64 0, .int .i64 0, .int .i64 0, .int .i64 0, .int .i64 0, .int .i64 0, .int .i64 0] 26) = w2 at hR ⊢
    generalize w1.heap.size = b3 at hR ⊢
    go_loopw [4, 5, 6] (fun va vw vi wr => ∃ (k : Nat) (ys zs : List (T × Value)) (v : List Int), vi = .int .i64 k ∧ k ≤ l.length ∧ Rnd w wr b3 va vw ys zs v k) (fun _ _ vi _ => l.length - (intOf vi).toNat)
    case atStart => exact ⟨0, [], [], zeros, rfl, by omega, hR⟩
    case round =>
      clear hR
      obtain ⟨k, ys, zs, v, rfl, hk, hR⟩ := hrel
      by_cases hlt : k < l.length
      · have hlt' : (k : Int) < (l.length : Int) := by omega
        obtain ⟨g, o, s1, rfl, d0, a0⟩ := h.at k hlt
        have d1 := range_later d0 hR.b
        have a1 := a0.later hR.b
        have hof : ∀ b, (u4.ownBlock = some b ∨ b = b3) → Off b s1 := fun b e a n c e1 hn => by
          have h1 := a0.block e1 hn
          have h2 := hR.l
          rcases e with e | e
          · have := (hR.a.block e).1
            omega
          · omega
        obtain ⟨x, HX⟩ := hid_ex l[k]
        rw [HX.out] at d1 a1
        clear d0 a0
        have hv := hR.m.1
        have z1 := tx_size x s1
        have zv := info26 hv
        have hz40 : zs.length ≤ 41 := by have := hR.n; omega
        have hS : wr.rangeAt b3 0 (vals v) ∧ wr.rangeAt g (o + k * 17) (txc x.p x.s x.v x.t s1) := ⟨hR.m.range0, d1⟩
        have hRd := hR.later (Below.refl wr.heap.size wr).drew
        go_upto_region 8 with fail
        refine Held.region (fun w' => w'.rangeAt b3 0 (vals v) ∧ w'.rangeAt g (o + k * 17) (txc x.p x.s x.v x.t s1)) (by kernel_rfl) ?_
        refine Held.lm zv (fun _ h => h.1) Try.underlying26 hS ?_
        refine Held.pu hS ?_
        refine Held.pu hS ?_
        refine Held.pu hS ?_
        refine Held.pu hS ?_
        refine Held.lm z1 (fun _ h => h.2) Try.underlying34 hS ?_
        refine Held.kn (K.offer (fun b => u4.ownBlock = some b ∨ b = b3) v zs u5 x s1 _ hv hRd.lt hRd.x a1 hof hz40 (fun y hy => by have := ok_ops (hR.o y hy); omega)) ?_
        rintro e w3 ⟨u, ms, rfl, hms, hm, hb3⟩
        have hb3' : Below wr.heap.size wr w3 := below_on (Below.refl _ _).drew hb3
        have hR3 := hR.later hb3'
        have hS3 : w3.rangeAt b3 0 (vals v) ∧ w3.rangeAt g (o + k * 17) (txc x.p x.s x.v x.t s1) := ⟨range_later hS.1 hb3', range_later hS.2 hb3'⟩
        refine ⟨_, rfl, hS3, ?_⟩
        refine Held.pu hS3 ?_
        refine Held.pu hS3 ?_
        refine Held.pu hS3 ?_
        refine Held.pu hS3 ?_
        refine Held.pu hS3 ?_
        refine Held.dn ?_
        clear hS hS3 hb3 hb3' hR hRd z1 d1 a1
        obtain ⟨er, HE⟩ := hid_ex (ofE v (zs.map (·.1)) x)
        rw [HE.out]
        go_upto_if 36 with fail
        go_cut [5] from 19 to 49 (fun vw' wx => wx = w3 ∧ ∃ zs', XAt w3 vw' zs' (fun b => u4.ownBlock = some b ∨ b = b3) ∧ zs'.map (·.1) = ofL v (zs.map (·.1)) x ∧ ∀ y ∈ zs', y.1.ok = true)
        case first =>
          by_cases hz : er = 0
          · subst hz
            go_wp2_with fail
            go_meet
            case rel =>
              have hms' := hms HE.out
              refine ⟨rfl, ms, hm, hms', fun y hy => ?_⟩
              have h1 : y.1 ∈ ms.map (·.1) := List.mem_map_of_mem hy
              rw [hms', ofL, if_pos (show ofE v (zs.map (·.1)) x = 0 from HE.out), insT_mem] at h1
              rcases h1 with h1 | h1
              · rw [h1]
                exact (ofE_ok HE.out).1
              · obtain ⟨a, ha, h2⟩ := List.mem_map.1 h1
                rw [← h2]
                exact hR3.o a ha
          · go_wp2_with fail
            go_meet
            case rel => exact ⟨rfl, zs, hR3.x, by rw [ofL, if_neg (by rw [show ofE v (zs.map (·.1)) x = er from HE.out]; exact hz)], hR3.o⟩
        case rest =>
          clear hm hms ms
          obtain ⟨rfl, ms, hm, hms, hmo⟩ := hcut
          have hml2 : ms.length ≤ zs.length + 1 := by
            have e := congrArg List.length hms
            rw [List.length_map] at e
            rw [e]
            unfold ofL
            split
            · rw [insT_length, List.length_map]; omega
            · rw [List.length_map]; omega
          have hm41 : ms.length ≤ 41 := by have := hR3.n; omega
          obtain ⟨L, HL⟩ := hid_ex (ms.map (·.1))
          have hv13 : (drV v L).length = 13 := drV_length hv
          have hcd := hR3.c.step L
          have hdl := dr_len (v := v) (l := L) hv
          have C := K.drain (fun b => u4.ownBlock = some b ∨ b = b3) v ms u5 wc hv hR3.lt hm hm41 (fun y hy => by have := ok_ops (hmo y hy); omega)
          rw [HL.out] at C
          have hLl : L.length = ms.length := by rw [← HL.out, List.length_map]
          generalize hG : drG v L = G at hcd hdl
          generalize hD : drL v L = D at hcd hdl
          obtain ⟨v', HV'⟩ := hid_ex (drV v L)
          rw [HV'.out] at hcd hv13
          have A3 := hR3.m
          go_wp2_with (first | refine load_at rfl _ rfl _ rfl A3 ?_)
          refine C.mono ?_
          rintro e w4 ⟨n1, n2, y1, y2, rfl, e1, e2, x1, x2, hb4⟩
          rw [HV'.out, hG] at *
          rw [hD] at e2
          have hR4 := hR3.later hb4
          have A11 : At (w4.alloc (.cells #[.int .i64 0, .int .i64 0, .int .i64 0, .int .i64 0, .int .i64 0, .int .i64 0, .int .i64 0, .int .i64 0, .int .i64 0, .int .i64 0, .int .i64 0, .int .i64 0, .int .i64 0] 26)) w4.heap.size zeros := at_new w4 zeros rfl
          have hbA := bel_alloc (Below.refl w4.heap.size w4) (.cells #[.int .i64 0, .int .i64 0, .int .i64 0, .int .i64 0, .int .i64 0, .int .i64 0, .int .i64 0, .int .i64 0, .int .i64 0, .int .i64 0, .int .i64 0, .int .i64 0, .int .i64 0] 26)
          generalize hW5 : w4.alloc (.cells #[.int .i64 0, .int .i64 0, .int .i64 0, .int .i64 0, .int .i64 0, .int .i64 0, .int .i64 0, .int .i64 0, .int .i64 0, .int .i64 0, .int .i64 0, .int .i64 0, .int .i64 0] 26) = w5 at A11 hbA
          go_upto_region 12 with (first | rw [hW5] | refine store_at rfl _ _ rfl w4.heap.size v' rfl rfl A11 hv13 ?_)
          have hb6 : Below w4.heap.size w4 (w5.setRow w4.heap.size (vals v').toArray) := hbA.grown (grown_row w5 _ _) hbA.size (fun k hk => by simp only [Option.some.injEq] at hk; omega)
          have A6 := A11.row (l := v') hv13
          have hR6 := hR4.later hb6
          replace x1 := x1.later hb6
          replace x2 := (x2.later hb6).more
          have hne6 : u4.ownBlock ≠ some w4.heap.size := fun e => by have := (hR4.a.block e).2; omega
          have hne3 : u4.ownBlock ≠ some b3 := fun e => by have := (hR4.a.block e).1; omega
          have hlt6 : b3 + 1 ≤ (w5.setRow w4.heap.size (vals v').toArray).heap.size := by have := hR6.m.lt; omega
          have hlen6 : ys.length + y1.length ≤ 100000 := by
            have q1 := congrArg List.length e1
            rw [List.length_map] at q1
            have := hR6.n
            omega
          generalize w5.setRow w4.heap.size (vals v').toArray = w6 at *
          clear hW5 A11 hbA hb6 hR4 hR3
          go_wp2_with (at_builtin; refine append_txs rfl _ _ rfl rfl rfl hR6.a x1 hlen6 hlt6 ?_)
          intro v7 w7 hO hg hb7
          have h3lt := hR6.m.lt
          have A7 : At w7 b3 v := ⟨hv, (hg.block b3 h3lt (fun e => hne3 e.symm)).trans hR6.m.2⟩
          have A8 : At w7 w4.heap.size v' := ⟨hv13, (hg.block _ A6.lt (fun e => hne6 e.symm)).trans A6.2⟩
          have hbel7 : Below w.heap.size w w7 := hR6.b.grown hg hR6.b.size (fun k hk => by have := (hR6.a.block hk).1; have := hR6.l; omega)
          have hne7 : v7.ownBlock ≠ some b3 := fun e => by
            rcases hb7 with h | h
            · exact hne3 (h ▸ e)
            · rw [h] at e
              simp only [Option.some.injEq] at e
              omega
          have x3 : XAt w7 n2 y2 (fun b => v7.ownBlock = some b ∨ b = b3) := (x2.grown hg (fun b e => .inl (.inl e))).sub fun b e => by
            rcases e with e | e
            · rcases hb7 with h | h
              · exact .inl (.inl (h ▸ e))
              · rw [h] at e
                simp only [Option.some.injEq] at e
                exact .inr (by omega)
            · exact .inl (.inr e)
          have hl3 := hR6.l
          have hn6 := hR6.n
          clear hR6 x1 x2 hg hb7 A6
          go_wp2_with (first | refine load_at rfl _ rfl _ rfl A8 ?_ | refine store_at rfl _ _ rfl b3 v' rfl rfl A7 hv13 ?_)
          have hgr := grown_row w7 b3 (vals v').toArray
          go_roundw
          case rel =>
            refine ⟨k + 1, ys ++ y1, y2, v', by simp, by omega, hO.grown hgr rfl hne7, x3.grown hgr (fun b e => .inr (by simpa using e.symm)), A7.row hv13, ?_, ?_, below_setRow hbel7 hl3 _, hl3, fun y hy => ?_⟩
            · rw [List.map_append, e1, e2]
              exact hcd
            · have q1 := congrArg List.length e1
              have q2 := congrArg List.length e2
              rw [List.length_map] at q1 q2
              rw [List.length_append]
              omega
            · have p1 : y.1 ∈ y2.map (·.1) := List.mem_map_of_mem hy
              rw [e2, ← hD] at p1
              have p2 := (drL_mem.1 p1).1
              rw [← HL.out] at p2
              obtain ⟨a, ha, p3⟩ := List.mem_map.1 p2
              rw [← p3]
              exact hmo a ha
          case measure => simp [intOf]; omega
      · have hlt' : ¬ (k : Int) < (l.length : Int) := by omega
        have hv := hR.m.1
        have hx1 : XAt wr u4 ys (fun b => b = wr.heap.size) := (hR.a.xat.more).sub fun b e => .inr (by omega)
        have hx2 : XAt wr u5 zs (fun b => b = wr.heap.size) := (hR.x.more).sub fun b e => .inr (by omega)
        have h3 := hR.m
        have hcd := hR.c
        have hbel := hR.b
        have hn := hR.n
        have h3lt := hR.m.lt
        have hR0 := hR.b
        clear hR h
        obtain ⟨pa, ca, rfl⟩ := hx1.s.slice
        obtain ⟨pw, cw, rfl⟩ := hx2.s.slice
        obtain ⟨b12, HB⟩ := hid_ex wr.heap.size
        have A12 : At (wr.alloc (.cells #[.int .i64 0, .int .i64 0, .int .i64 0, .int .i64 0, .int .i64 0, .int .i64 0, .int .i64 0, .int .i64 0, .int .i64 0, .int .i64 0, .int .i64 0, .int .i64 0, .int .i64 0] 26)) wr.heap.size zeros := at_new wr zeros rfl
        have hbA := bel_alloc (Below.refl wr.heap.size wr) (.cells #[.int .i64 0, .int .i64 0, .int .i64 0, .int .i64 0, .int .i64 0, .int .i64 0, .int .i64 0, .int .i64 0, .int .i64 0, .int .i64 0, .int .i64 0, .int .i64 0, .int .i64 0] 26)
        replace hx1 := hx1.later hbA
        replace hx2 := hx2.later hbA
        replace h3 := h3.later hbA
        replace hbel := below_on hbel hbA
        have hne : b3 ≠ wr.heap.size := by omega
        have h12 : w.heap.size ≤ wr.heap.size := by have := hR0.size; omega
        obtain ⟨all, HAL⟩ := hid_ex (ys.map (·.1))
        have hall : all.length = ys.length := by rw [← HAL.out, List.length_map]
        have HLA : Hid (all.length = ys.length) := hall
        rw [HAL.out] at hcd
        clear hall
        go_wp2_with fail
        generalize wr.alloc (.cells #[.int .i64 0, .int .i64 0, .int .i64 0, .int .i64 0, .int .i64 0, .int .i64 0, .int .i64 0, .int .i64 0, .int .i64 0, .int .i64 0, .int .i64 0, .int .i64 0, .int .i64 0] 26) = w5 at A12 hbA hx1 hx2 h3 hbel ⊢
        generalize wr.heap.size = b12 at A12 hbA hx1 hx2 hne h12 ⊢
        clear hbA hR0 h3lt HB
        go_loopw [13] (fun vi wr => ∃ (k : Nat), vi = .int .i64 k ∧ k ≤ ys.length ∧ XAt wr (.slice pa ys.length ca) ys (fun b => b = b12) ∧ XAt wr (.slice pw zs.length cw) zs (fun b => b = b12) ∧ At wr b3 v ∧ At wr b12 (run zeros (all.take k)) ∧ Below w.heap.size w wr) (fun vi _ => ys.length - (intOf vi).toNat)
        case atStart => exact ⟨0, rfl, by omega, hx1, hx2, h3, A12, hbel⟩
        case round =>
          clear hx1 hx2 h3 A12 hbel
          obtain ⟨j, rfl, hj, hx1, hx2, h3, A12, hbel⟩ := hrel
          by_cases hjlt : j < ys.length
          · have hjlt' : (j : Int) < (ys.length : Int) := by omega
            have hja : j < all.length := by have := HLA.out; omega
            obtain ⟨g2, o2, rfl, hd0⟩ := hx1.s.at (by omega)
            have d := T.elem hd0 j hjlt
            have ao := hx1.o ys[j] (List.getElem_mem _)
            have hyx : all[j] = ys[j].1 := by simp only [← HAL.out, List.getElem_map]
            have hrd := clb_at all zeros hcd.c j hja
            have hrun := run_take all zeros j hja
            rw [hyx] at hrd hrun
            obtain ⟨⟨x, s1⟩, HX⟩ := hid_ex ys[j]
            rw [HX.out] at d ao hrd hrun
            replace d : wr.rangeAt g2 (o2 + j * 17) (txc x.p x.s x.v x.t s1) := d
            replace ao : OHas wr s1 x.ops := ao
            replace hrd : rdy (run zeros (all.take j)) x = true := hrd
            replace hrun : run zeros (all.take (j + 1)) = stp (run zeros (all.take j)) x := hrun
            have hown := A12.1
            generalize run zeros (all.take j) = own at A12 hrd hrun hown
            have hok := rdy_ok hrd
            have hp := T.ok_p hok
            have hs := T.ok_s hok
            have C1 := fun (w' : World) (hb : Below wr.heap.size wr w') => refCheckTx_any x.p x.s x.v x.t s1 x.ops w' x.hv (ao.later hb)
            rw [show ct x.p x.s x.v x.t x.ops = true from hok] at C1
            have C2 := fun w' => refNext_any own x.p x.s w' hown hp hs
            rw [show nxt own x.p x.s = true from decide_eq_true (rdy_s hrd)] at C2
            have C3 := fun w' => refLeq_any x.v own w' x.hv hown
            rw [rdy_lq hrd] at C3
            have z1 := tx_size x s1
            have z2 := zd x.p x.s
            have z3 := info26 x.hv
            have z4 := info26 hown
            have ST : Calm.Stays (fun w' : World => w'.rangeAt g2 (o2 + j * 17) (txc x.p x.s x.v x.t s1) ∧ w'.rangeAt b12 0 (vals own) ∧ Below wr.heap.size wr w') := fun a b h hb => ⟨range_later h.1 hb, range_later h.2.1 hb, below_on h.2.2 hb⟩
            go_wp2_with fail
            refine Calm.region (by kernel_rfl) (by kernel_rfl) (fun w' : World => w'.rangeAt g2 (o2 + j * 17) (txc x.p x.s x.v x.t s1) ∧ w'.rangeAt b12 0 (vals own) ∧ Below wr.heap.size wr w') ⟨d, A12.range0, (Below.refl _ _).drew⟩ ?_
            iterate 3 (refine Calm.pu ?_)
            refine Calm.lm z1 (fun _ h => h.1) Try.underlying34 ?_
            refine Calm.k1 ST (fun w' h => C1 w' h.2.2) ?_
            iterate 2 (refine Calm.pu ?_)
            refine Calm.lm z4 (fun _ h => h.2.1) Try.underlying26 ?_
            iterate 4 (refine Calm.pu ?_)
            refine Calm.lm z2 (fun _ h => at_dot h.1) Try.underlying31 ?_
            refine Calm.k2 ST (fun w' _ => C2 w') ?_
            iterate 7 (refine Calm.pu ?_)
            refine Calm.lm z3 (fun _ h => at_vec h.1) Try.underlying26 ?_
            refine Calm.lm z4 (fun _ h => h.2.1) Try.underlying26 ?_
            refine Calm.k2 ST (fun w' _ => C3 w') ?_
            iterate 2 (refine Calm.pu ?_)
            intro w6 hS6
            have hb6 := hS6.2.2
            clear hS6 ST C1 C2 C3 z1 z2 z3 z4
            go_wp2_with fail
            obtain ⟨n, en⟩ : ∃ n : Nat, x.p = (n : Int) := ⟨x.p.toNat, by omega⟩
            have hn13 : n < 13 := by omega
            have hn13' : (n : Int) < 13 := by omega
            have hg12 : g2 ≠ b12 := (hx1.f b12 rfl).1 _ _ _ rfl (by omega)
            have hb7 : Below wr.heap.size wr w6.drew := below_on hb6 (Below.refl _ _).drew
            refine Held.region (fun w' => w'.cell? ⟨g2, o2 + j * 17, none⟩ = some (.int .i64 n) ∧ w'.cell? ⟨g2, o2 + j * 17 + 1, none⟩ = some (.int .i64 x.s)) (by kernel_rfl) ?_
            generalize w6.drew = w7 at hb7 ⊢
            replace d := range_later d hb7
            have cp := at_p d
            rw [en] at cp
            have cs := at_s d
            replace A12 := A12.later hb7
            have c1 := A12.cell hn13
            have f1 := A12.frozen n
            generalize own.getD n 0 = y0 at c1
            have hS : w7.cell? ⟨g2, o2 + j * 17, none⟩ = some (.int .i64 n) ∧ w7.cell? ⟨g2, o2 + j * 17 + 1, none⟩ = some (.int .i64 x.s) := ⟨cp, cs⟩
            have hgr := grown_cell w7 b12 n (.int .i64 x.s)
            have hst : stp own x = own.set n x.s := by unfold stp; rw [en]; simp
            iterate 5 (refine Held.pu hS ?_)
            refine Held.ce (fun _ h => h.1) hS ?_
            iterate 5 (refine Held.pu hS ?_)
            refine Held.ce (fun _ h => h.2) hS ?_
            refine Held.pu hS ?_
            refine Held.st (w1 := w7.setCell ⟨b12, n, none⟩ (.int .i64 x.s)) (by go_simp) ?_ ?_
            · have e : (w7.setCell ⟨b12, n, none⟩ (.int .i64 x.s)).heap[g2]? = w7.heap[g2]? := Below.heap_setCell w7 _ _ g2 hg12
              exact ⟨(World.cell?_of_block e).trans cp, (World.cell?_of_block e).trans cs⟩
            refine Held.dn ?_
            go_wp2_with fail
            go_roundw
            case rel => exact ⟨j + 1, by simp, by omega, (hx1.later hb7).grown hgr (fun b e => by simpa using e.symm), (hx2.later hb7).grown hgr (fun b e => by simpa using e.symm), (h3.later hb7).setOther hne _, by rw [hrun, hst]; exact A12.set _, (below_on hbel hb7).setCell h12 _⟩
            case measure => simp [intOf]; omega
          · have hjlt' : ¬ (j : Int) < (ys.length : Int) := by omega
            have hown : run zeros (all.take j) = v := by
              rw [List.take_of_length_le (by have := HLA.out; omega)]
              exact hcd.r.symm
            rw [hown] at A12
            have HCL : Hid (clb zeros all = true) := hcd.c
            have HN : Hid (∀ x ∈ zs.map (·.1), hsT v x = false ∧ rdy v x = false) := hcd.n
            have X1 : XHas wr (.slice pa ys.length ca) all := by rw [← HAL.out]; exact hx1.has
            clear hcd hown hj hjlt hx1
            go_wp2_with fail
            go_loopw [14] (fun vi wr => ∃ (k : Nat), vi = .int .i64 k ∧ k ≤ zs.length ∧ XHas wr (.slice pa ys.length ca) all ∧ XAt wr (.slice pw zs.length cw) zs (fun b => b = b12) ∧ At wr b3 v ∧ At wr b12 v ∧ Below w.heap.size w wr) (fun vi _ => zs.length - (intOf vi).toNat)
            case atStart => exact ⟨0, rfl, by omega, X1, hx2, h3, A12, hbel⟩
            case round =>
              clear X1 hx2 h3 A12 hbel
              obtain ⟨i, rfl, hi, X1, hx2, h3, A12, hbel⟩ := hrel
              by_cases hilt : i < zs.length
              · have hilt' : (i : Int) < (zs.length : Int) := by omega
                obtain ⟨g2, o2, rfl, hd0⟩ := hx2.s.at (by omega)
                have d := T.elem hd0 i hilt
                have ao := hx2.o zs[i] (List.getElem_mem _)
                obtain ⟨hh1, hh2⟩ := HN.out zs[i].1 (List.mem_map.2 ⟨zs[i], List.getElem_mem _, rfl⟩)
                obtain ⟨⟨x, s1⟩, HX⟩ := hid_ex zs[i]
                rw [HX.out] at d ao hh1 hh2
                replace d : wr.rangeAt g2 (o2 + i * 17) (txc x.p x.s x.v x.t s1) := d
                replace ao : OHas wr s1 x.ops := ao
                have C1 := fun w' => refHas_any v x.p x.s w' hv
                rw [show hs v x.p x.s = false from hh1] at C1
                have C2 := fun (w' : World) (hb : Below wr.heap.size wr w') => K.ready v x s1 w' hv (ao.later hb)
                rw [show rdy v x = false from hh2] at C2
                have z1 := tx_size x s1
                have z2 := zd x.p x.s
                have z3 := info26 hv
                have ST : Calm.Stays (fun w' : World => w'.rangeAt g2 (o2 + i * 17) (txc x.p x.s x.v x.t s1) ∧ w'.rangeAt b3 0 (vals v) ∧ Below wr.heap.size wr w') := fun a b h hb => ⟨range_later h.1 hb, range_later h.2.1 hb, below_on h.2.2 hb⟩
                go_wp2_with fail
                refine Calm.region (by kernel_rfl) (by kernel_rfl) (fun w' : World => w'.rangeAt g2 (o2 + i * 17) (txc x.p x.s x.v x.t s1) ∧ w'.rangeAt b3 0 (vals v) ∧ Below wr.heap.size wr w') ⟨d, h3.range0, (Below.refl _ _).drew⟩ ?_
                refine Calm.lm z3 (fun _ h => h.2.1) Try.underlying26 ?_
                iterate 4 (refine Calm.pu ?_)
                refine Calm.lm z2 (fun _ h => at_dot h.1) Try.underlying31 ?_
                refine Calm.k2 ST (fun w' _ => C1 w') ?_
                refine Calm.pu ?_
                refine Calm.lm z3 (fun _ h => h.2.1) Try.underlying26 ?_
                iterate 3 (refine Calm.pu ?_)
                refine Calm.lm z1 (fun _ h => h.1) Try.underlying34 ?_
                refine Calm.k2 ST (fun w' h => C2 w' h.2.2) ?_
                refine Calm.pu ?_
                intro w6 hS6
                have hb6 := hS6.2.2
                go_wp2_with fail
                go_roundw
                case rel => exact ⟨i + 1, by simp, by omega, X1.later hb6, hx2.later hb6, h3.later hb6, A12.later hb6, below_on hbel hb6⟩
                case measure => simp [intOf]; omega
              · have hilt' : ¬ (i : Int) < (zs.length : Int) := by omega
                have E := fun w' => eq_arrays w' v v hv hv
                simp only [BEq.rfl] at E
                have hal : all.length ≤ 41 := by have := HLA.out; omega
                clear hx2 HN
                go_wp2_with (first | refine load_at rfl _ rfl _ rfl A12 ?_ | refine load_at rfl _ rfl _ rfl h3 ?_)
                refine (K.closed all _ _ X1 (by omega)).mono ?_
                rw [HCL.out]
                rintro e w8 ⟨rfl, hb8⟩
                go_wp2_with fail
                refine (K.heads _).mono ?_
                rintro e w9 ⟨rfl, hb9⟩
                go_wp2_with fail
                go_ret
                exact ⟨rfl, below_on (below_on hbel hb8) hb9⟩
end Go.Proofs.Ytfiamiflkfdhoaa
