/- Live, Epoch and Apply of package roster; slices.Clone of numbers. -/
import Derived.Test.YtefpdcpcjfjblaaWit
import Derived.Test.YtefpdcpcjfjblaaHeldI
namespace Go.Proofs.Ytefpdcpcjfjblaa
open Go.RowKit Go.Sort Go.Maps Go.WideMaps

/-- Who is there. -/
def lvL (a b : List Int) : List Int := if ckI a && ckI b then lv a b else []
theorem ck_i64 {l : List Int} (h : ckI l = true) : ∀ x ∈ l, I64 x := fun x hx => by
  have := ((ckI_up l).1 h).2 x hx
  exact i64_of (by omega) (by omega)
theorem filter_ne (S b : List Int) (k : Nat) (h : k < b.length) : (S.filter fun x => !(b.take k).contains x).filter (fun z => decide (z ≠ b[k])) = S.filter fun x => !(b.take (k + 1)).contains x := by
  rw [List.filter_filter]
  refine List.filter_congr fun x _ => ?_
  rw [List.take_succ_eq_append_getElem h]
  generalize b.take k = T
  by_cases e : x = b[k]
  · subst e
    simp
  · simp [e]
set_option maxHeartbeats 2000000 in
set_option maxRecDepth 100000 in
theorem live_any (a b : List Int) (va vb : Value) (w : World) (ha : IHas w va a) (hb : IHas w vb b) : Calls Try.prog 8 #[va, vb] w (IPost (lvL a b) w) := by
  have C0 := checkBoth_any a b va vb w ha hb
  unfold lvL
  cases hc : ckI a && ckI b
  · rw [hc] at C0
    clear hc ha hb
    go_enter Try.func8, Try.ntmps8
    go_wp2_with fail
    refine C0.mono ?_
    rintro e w1 ⟨rfl, hb1⟩
    go_wp2_with fail
    go_ret
    exact ⟨_, rfl, SHas.nil _ _, hb1⟩
  · rw [hc] at C0
    obtain ⟨h1, h2⟩ := Bool.and_eq_true_iff.1 hc
    have HU : Hid (Up a) := ((ckI_up a).1 h1).1
    have hla := ck_len h1
    have hlb := ck_len h2
    have HX : Hid (∀ x ∈ b, I64 x) := ck_i64 h2
    have C1 := fun (w1 : World) (hb1 : Below w.heap.size w w1) => crowdOf_any a va w1 (SHas.later ha hb1) (ck_i64 h1) (by omega)
    obtain ⟨q, c, rfl⟩ := SHas.slice hb
    have H : Hid (IHas w (.slice q b.length c) b) := hb
    simp only [if_true]
    clear hc ha hb h1 h2
    go_enter Try.func8, Try.ntmps8
    go_wp2_with fail
    refine C0.mono ?_
    rintro e w1 ⟨rfl, hb1⟩
    go_wp2_with fail
    refine (C1 w1 hb1).mono ?_
    rintro e w2 ⟨m, rfl, hm, ⟨D, hown, hS⟩, hb2⟩
    have hmw : w.heap.size ≤ m := Nat.le_trans hb1.size hm
    have hbel := below_on hb1 hb2
    have HS0 : Hid (∀ x, Maps.has D (.int .i64 x) = true ↔ x ∈ a.filter fun x => !(b.take 0).contains x) := fun x => by
      rw [hS]
      simp
    clear C0 C1 hb1 hb2 hS hm
    go_wp2_with fail
    go_loopw [16] (fun vi wr => ∃ (k n : Nat), vi = .int .i64 k ∧ k ≤ b.length ∧ n ≤ a.length ∧ Crowd wr m n (a.filter fun x => !(b.take k).contains x) ∧ Below w.heap.size w wr) (fun vi _ => b.length - (intOf vi).toNat)
    case atStart => exact ⟨0, a.length, rfl, by omega, by omega, ⟨D, hown, HS0.out⟩, hbel⟩
    case round =>
      clear hbel hown HS0
      obtain ⟨k, n, rfl, hk, hnk, ⟨D, hown, hS⟩, hbel⟩ := hrel
      by_cases hlt : k < b.length
      · have hlt' : (k : Int) < (b.length : Int) := by omega
        obtain ⟨g, o, rfl, hd0⟩ := H.out.at k hlt
        have c1 := cell_later hbel (hd0 k hlt)
        have hx := HX.out b[k] (List.getElem_mem _)
        have HS := Crowd.del hS b[k]
        rw [filter_ne _ _ _ hlt] at HS
        clear hd0 H HX hS
        generalize b[k] = x at c1 hx HS
        have HS' : Hid (∀ z, Maps.has (D.del (.int .i64 x)) (.int .i64 z) = true ↔ z ∈ a.filter fun x => !(b.take (k + 1)).contains x) := HS
        have hkey : keyOf Try.prog 3 (.int .i64 x) = some (.int .i64 x) := keyOf_int_mk Try.underlying3 hx
        clear HS
        go_wp2_with (first
          | (at_delete; refine wpList_delete_own _ rfl _ _ 48 3 rfl 54 law3 Try.underlying48 (unitElem (H := Unit)) m n _ rfl hown _ _ rfl hkey ?_; intro w2 hown2 hturn2))
        go_roundw
        case rel => exact ⟨k + 1, n, by simp, by omega, by omega, ⟨_, hown2, HS'.out⟩, hbel.grown hturn2.grown hbel.size (fun j hj => by cases hj; exact hmw)⟩
        case measure => simp [intOf]; omega
      · have hlt' : ¬ (k : Int) < (b.length : Int) := by omega
        obtain rfl : k = b.length := by omega
        rw [List.take_length] at hS
        have CL := list_any m n _ (lv a b) wr ⟨D, hown, hS⟩ (by omega) (up_lv HU.out) (fun x => Iff.rfl)
        clear H HX HU hS
        go_wp2_with fail
        refine CL.mono ?_
        rintro e w2 ⟨u, rfl, hI, hb2⟩
        have hbb := below_on hbel hb2
        obtain ⟨qq, cc, rfl⟩ := SHas.slice hI
        go_wp2_with fail
        go_ret
        exact ⟨_, rfl, hI, hbb⟩
/-- How many changes there were. -/
def ep (a b : List Int) : Int := if ckI a && ckI b then (a.length : Int) + (b.length : Int) else 0
set_option maxHeartbeats 2000000 in
set_option maxRecDepth 100000 in
theorem epoch_any (a b : List Int) (va vb : Value) (w : World) (ha : IHas w va a) (hb : IHas w vb b) : Calls Try.prog 16 #[va, vb] w (Tells (.int .i64 (ep a b)) w) := by
  have C0 := checkBoth_any a b va vb w ha hb
  unfold ep
  cases hc : ckI a && ckI b
  · rw [hc] at C0
    clear hc ha hb
    go_enter Try.func16, Try.ntmps16
    go_wp2_with fail
    refine C0.mono ?_
    rintro e w1 ⟨rfl, hb1⟩
    go_wp2_with fail
    go_ret
    exact ⟨rfl, hb1⟩
  · rw [hc] at C0
    obtain ⟨h1, h2⟩ := Bool.and_eq_true_iff.1 hc
    have hla := ck_len h1
    have hlb := ck_len h2
    obtain ⟨q, c, rfl⟩ := SHas.slice hb
    obtain ⟨q2, c2, rfl⟩ := SHas.slice ha
    have hs : IntKind.i64.wrap ((a.length : Int) + (b.length : Int)) = (a.length : Int) + (b.length : Int) := by rw [IntKind.wrap_i64]; omega
    clear hc ha hb h1 h2
    go_enter Try.func16, Try.ntmps16
    go_wp2_with fail
    refine C0.mono ?_
    rintro e w1 ⟨rfl, hb1⟩
    go_wp2_with fail
    go_ret
    exact ⟨by simp, hb1⟩
theorem equalIn_nil (w : World) (d : Nat) (t e : TypeId) (a : Option Addr) (l c : Nat) (h : Try.prog.underlying t = some (.slice e)) : (Op.equalIn (d + 1) t (.slice a l c) (.slice none 0 0)).run Try.prog w = .ok a.isNone w := by
  cases a <;> simp [Op.equalIn, run_underlying h]
theorem equal_nil (w : World) (t e : TypeId) (a : Option Addr) (l c : Nat) (h : Try.prog.underlying t = some (.slice e)) : (Op.equal t (.slice a l c) (.slice none 0 0)).run Try.prog w = .ok a.isNone w := equalIn_nil w 9999 t e a l c h
theorem eql_nil (w : World) (t e : TypeId) (a : Option Addr) (l c : Nat) (h : Try.prog.underlying t = some (.slice e)) : (binOp .eql t (.slice a l c) (.slice none 0 0)).run Try.prog w = .ok (.bool a.isNone) w := by
  simp [binOp, equal_nil w t e a l c h]
theorem vals_ones (l : List Int) : ∀ u ∈ vals l, u.oneCell' = true := fun u hu => by
  obtain ⟨a, _, rfl⟩ := List.mem_map.1 hu
  rfl
set_option maxHeartbeats 1000000 in
set_option maxRecDepth 100000 in
theorem clone_any (v : Value) (l : List Int) (w : World) (h : IHas w v l) (hn : l.length ≤ 1000) : Calls Try.prog 23 #[v] w (IPost l w) := by
  obtain ⟨i0, hi, hz0, hz1, hz2⟩ := info_parts info3
  have h1 := vals_ones l
  obtain ⟨hm, hl, ⟨rfl, hl0⟩ | ⟨ad, c, rfl, hc, hd⟩⟩ := h
  · obtain rfl : l = [] := List.eq_nil_of_length_eq_zero hl0
    have E := fun w => eql_nil w 22 _ none 0 0 Try.underlying22
    simp only [Option.isNone_none] at E
    go_enter Try.func23, Try.ntmps23
    go_wp2
    go_ret
    exact ⟨_, rfl, SHas.nil _ _, Below.refl _ _⟩
  · have HD : Hid (∀ (j : Nat) (u : Value), (vals l)[j]? = some u → w.cell? (ad.add j) = some u) := fun j u hu => by
      have hj := (List.getElem?_eq_some_iff.1 hu).1
      have h0 : 0 < l.length := by rw [vals_length] at hj; omega
      obtain ⟨g, o, rfl, hr⟩ := hd h0
      have := hr j u hu
      rwa [Addr.add_mid]
    have hown : (w.alloc (.cells #[] 3)).ownsRow w.heap.size 3 1 (.slice (some ⟨w.heap.size, 0, none⟩) 0 0) 0 [] := World.ownsRow_made w #[] 0 (Nat.le_refl _) (Nat.zero_le _) (by simp)
    have hbel : Below w.heap.size w (w.alloc (.cells #[] 3)) := bel_alloc (Below.refl _ _) _
    have HC : Hid (∀ (j : Nat) (u : Value), (vals l)[j]? = some u → (w.alloc (.cells #[] 3)).cell? (ad.add j) = some u) := fun j u hu => by
      have h2 := HD.out j u hu
      have hlt : (ad.add j).block < w.heap.size := World.block_lt_of_cell? w _ h2
      rw [World.cell?_of_block (w := w) (hbel.block _ hlt)]
      exact h2
    have HL : Hid ((vals l).length = l.length * 1) := hl
    clear hc hd HD hl
    have E := fun w => eql_nil w 22 _ (some ad) l.length c Try.underlying22
    simp only [Option.isNone_some] at E
    go_enter Try.func23, Try.ntmps23
    go_wp2_with (first | (at_builtin; refine wpList_append_own _ rfl _ _ 22 rfl w.heap.size 3 i0 (.int .i64 0) 1 8 Try.underlying22 hi hz0 hz1 hz2 rfl (by decide) _ _ _ rfl hown ad l.length c (vals l) rfl HL.out HC.out h1 ?c3 ?c4 ?c5 ?_))
    case c3 => unfold maxLen; omega
    case c4 => omega
    case c5 => simp
    intro v2 w2 hown2 hg2 _
    go_wp2_with fail
    go_ret
    refine ⟨_, rfl, ?_, hbel.grown hg2 (by simp) (fun q hq => by simp [Value.ownBlock] at hq; omega)⟩
    have := own_sh hown2
    simpa using this
end Go.Proofs.Ytefpdcpcjfjblaa
