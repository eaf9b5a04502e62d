/- with of package roster. -/
import Derived.Test.YtefpdcpcjfjblaaCrl
import Derived.Test.YtefpdcpcjfjblaaTxs
namespace Go.Proofs.Ytefpdcpcjfjblaa
open Go.RowKit Go.Sort Go.Maps Go.WideMaps

set_option maxHeartbeats 2000000 in
set_option maxRecDepth 100000 in
theorem with_any (l : List Int) (sv : Value) (p s : Int) (v : List Int) (t : Int) (sl : Value) (ops : List O) (act : Int) (w : World) (h : IHas w sv l) (hv : v.length = 13) (ho : OHas w sl ops) (hu : Up l) (hx : ∀ x ∈ l, I64 x) (hl : l.length ≤ 100) (hn : ops.length ≤ 100) (hxo : ∀ o ∈ ops, o.k = 7 → I64 o.n) :
    Calls Try.prog 24 #[sv, TxV p s v t sl, .int .i64 act] w (IPost (upL l (nms act ops)) w) := by
  obtain ⟨q, c, rfl, hm, hr⟩ := ho
  have HR : Hid (0 < ops.length → ∃ g o, q = some ⟨g, o, none⟩ ∧ ∀ i (h : i < ops.length), w.rangeAt g (o + i * 10) ops[i].cells) := hr
  have HU : Hid (Up l) := hu
  have HXO : Hid (∀ o ∈ ops, o.k = 7 → I64 o.n) := hxo
  have R0 := rw_new w 34 (txc p s v t (.slice q ops.length c)).toArray
  have hbel : Below w.heap.size w (w.alloc (.cells (txc p s v t (.slice q ops.length c)).toArray 34)) := bel_alloc (Below.refl _ _) _
  generalize hW : w.alloc (.cells (txc p s v t (.slice q ops.length c)).toArray 34) = w0 at R0 hbel
  have C1 := crowdOf_any l sv w0 (SHas.later h hbel) hx hl
  clear h hr hu hxo hx
  go_enter Try.func24, Try.ntmps24
  go_wp2_with (rw [hW])
  clear hW
  refine C1.mono ?_
  rintro e w1 ⟨b, rfl, hb, ⟨D, hown, hS⟩, hb1⟩
  have hbw : w.heap.size ≤ b := Nat.le_trans hbel.size hb
  have c16 := tx_ops (R0.later hb1) hv
  replace hbel := below_on hbel hb1
  clear R0 C1 hb1 hb
  have HS0 : Hid (∀ x, Maps.has D (.int .i64 x) = true ↔ x ∈ l ++ nms act (ops.take 0)) := by
    intro x
    rw [hS, List.take_zero, nms_nil, List.append_nil]
  clear hS
  go_wp2_with fail
  go_loopw [15] (fun vi wr => ∃ (k n : Nat), vi = .int .i64 k ∧ k ≤ ops.length ∧ n ≤ l.length + k ∧ Crowd wr b n (l ++ nms act (ops.take k)) ∧ Below w.heap.size w wr) (fun vi _ => ops.length - (intOf vi).toNat)
  case atStart => exact ⟨0, l.length, rfl, by omega, by omega, ⟨D, hown, HS0.out⟩, hbel⟩
  case round =>
    clear hbel hown HS0 c16
    obtain ⟨k, n, rfl, hk, hnk, ⟨D, hown, hS⟩, hbel⟩ := hrel
    by_cases hlt : k < ops.length
    · have hlt' : (k : Int) < (ops.length : Int) := by omega
      obtain ⟨g, o, rfl, hd⟩ := HR.out (by omega)
      have d := range_later (hd k hlt) hbel
      have hx := HXO.out ops[k] (List.getElem_mem _)
      have hE := nms_snoc act (ops.take k) ops[k]
      rw [← List.take_succ_eq_append_getElem hlt] at hE
      clear HR hd HXO
      generalize ops[k] = x at d hx hE
      obtain ⟨xk, xkey, xfield, xinner, xact, xn, xtext, xp, xs, xi⟩ := x
      simp only at hx hE d
      have z35 : (Try.prog.info? 46).map (·.size) = some (O.cells ⟨xk, xkey, xfield, xinner, xact, xn, xtext, xp, xs, xi⟩).length := size46
      have hb2 : Below w.heap.size w (wr.alloc (.cells (O.cells ⟨xk, xkey, xfield, xinner, xact, xn, xtext, xp, xs, xi⟩).toArray 46)) := bel_alloc hbel _
      have hown2 := hown.alloc (.cells (O.cells ⟨xk, xkey, xfield, xinner, xact, xn, xtext, xp, xs, xi⟩).toArray 46)
      have R5 := rw_new wr 46 (O.cells ⟨xk, xkey, xfield, xinner, xact, xn, xtext, xp, xs, xi⟩).toArray
      have HS : Hid (∀ x, Maps.has D (.int .i64 x) = true ↔ x ∈ l ++ nms act (ops.take k)) := hS
      have HE : Hid (nms act (ops.take (k + 1)) = if xk = 7 ∧ xact = act then nms act (ops.take k) ++ [xn] else nms act (ops.take k)) := hE
      have HX : Hid (xk = 7 → I64 xn) := hx
      clear hS hE hx hown hbel
      by_cases h1 : xk = 7
      · by_cases h2 : xact = act
        · have hkey : keyOf Try.prog 3 (.int .i64 xn) = some (.int .i64 xn) := keyOf_int_mk Try.underlying3 (HX.out h1)
          have HS2 : Hid (∀ y, Maps.has (D.put (.int .i64 xn) (.agg [])) (.int .i64 y) = true ↔ y ∈ l ++ nms act (ops.take (k + 1))) := by
            rw [HE.out, if_pos ⟨h1, h2⟩, ← List.append_assoc]
            exact Crowd.put hown2.isMap HS.out xn
          clear HS HE HX
          subst h1
          subst h2
          go_wp2_with (first
            | refine load_m 46 _ rfl rfl _ _ rfl d Try.underlying46 rfl z35 ?_
            | (at_mapUpdate; refine wpList_mapUpdate_own _ rfl _ _ _ 48 rfl 3 54 law3 Try.underlying48 (unitElem (H := Unit)) b n _ rfl hown2 (by unfold maxLen; omega) _ _ _ rfl rfl hkey _ [] unitElem_mk ?_; intro w2 hown3 hgrow2))
          go_roundw
          case rel => exact ⟨k + 1, n + 1, by simp, by omega, by omega, ⟨_, hown3, HS2.out⟩, hb2.grown hgrow2 hb2.size (fun j hj => by cases hj; exact hbw)⟩
          case measure => simp [intOf]; omega
        · have HS2 : Hid (∀ y, Maps.has D (.int .i64 y) = true ↔ y ∈ l ++ nms act (ops.take (k + 1))) := by
            rw [HE.out, if_neg fun h => h2 h.2]
            exact HS.out
          clear HS HE HX
          subst h1
          go_wp2_with (refine load_m 46 _ rfl rfl _ _ rfl d Try.underlying46 rfl z35 ?_)
          go_roundw
          case rel => exact ⟨k + 1, n, by simp, by omega, by omega, ⟨_, hown2, HS2.out⟩, hb2⟩
          case measure => simp [intOf]; omega
      · have HS2 : Hid (∀ y, Maps.has D (.int .i64 y) = true ↔ y ∈ l ++ nms act (ops.take (k + 1))) := by
          rw [HE.out, if_neg fun h => h1 h.1]
          exact HS.out
        clear HS HE HX
        go_wp2_with (refine load_m 46 _ rfl rfl _ _ rfl d Try.underlying46 rfl z35 ?_)
        go_roundw
        case rel => exact ⟨k + 1, n, by simp, by omega, by omega, ⟨_, hown2, HS2.out⟩, hb2⟩
        case measure => simp [intOf]; omega
    · have hlt' : ¬ (k : Int) < (ops.length : Int) := by omega
      obtain rfl : k = ops.length := by omega
      rw [List.take_length] at hS
      have CL := list_any b n _ (upL l (nms act ops)) wr ⟨D, hown, hS⟩ (by omega) (up_upL _ _ HU.out) (fun x => by rw [mem_upL, List.mem_append])
      clear HR HXO HU hS
      go_wp2_with fail
      refine CL.mono ?_
      rintro e w2 ⟨u, rfl, hI, hb2⟩
      have hbb := below_on hbel hb2
      obtain ⟨qq, cc, rfl⟩ := SHas.slice hI
      go_wp2_with fail
      go_ret
      exact ⟨_, rfl, hI, hbb⟩
end Go.Proofs.Ytefpdcpcjfjblaa
