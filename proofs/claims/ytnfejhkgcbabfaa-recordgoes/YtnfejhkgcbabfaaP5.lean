import Derived.Test.YtnfejhkgcbabfaaP4
import Derived.Deep.Cut
import Derived.Deep.CutRange
import Derived.OwnWalk
/- The document's answer for layer 25: Size, Lists of equals, Few. -/
namespace Go.Proofs.Ytnfejhkgcbabfaa
open Go.RowKit

set_option maxHeartbeats 2000000 in
set_option maxRecDepth 100000 in
theorem rSize_any (u : Value) (l : List UInt8) (w : World) (h : DB w u l) : Calls Try.prog 17 #[u] w (Tells (.int .i64 (sizR l)) w) := by
  have hml := maxLen_lt h.1
  obtain ⟨p, c, rfl⟩ := SHas.slice h
  clear h
  obtain ⟨z, HZ⟩ := hid_ex (sizR l)
  rw [HZ.out]
  unfold sizR at HZ
  go_enter Try.func17, Try.ntmps17
  by_cases h6 : 60000 < l.length
  · have h6' : (60000 : Int) < (l.length : Int) := by omega
    rw [if_pos h6] at HZ
    obtain rfl := HZ.out
    go_wp2_with fail
    go_ret
    exact ⟨rfl, Below.refl _ _⟩
  · have h6' : ¬ (60000 : Int) < (l.length : Int) := by omega
    rw [if_neg h6] at HZ
    obtain rfl := HZ.out
    go_wp2_with fail
    go_ret
    exact ⟨rfl, Below.refl _ _⟩
set_option maxHeartbeats 2000000 in
set_option maxRecDepth 100000 in
theorem rLists_any (v1 v2 : Value) (l : List (List UInt8)) (w : World) (h1 : BHas w v1 l) (h2 : BHas w v2 l) : Calls Try.prog 11 #[v1, v2] w (Tells (.bool true) w) := by
  have hml := maxLen_lt h1.max
  obtain ⟨p1, c1, rfl⟩ := h1.slice
  obtain ⟨p2, c2, rfl⟩ := h2.slice
  have H1 : Hid (∀ w', Below w.heap.size w w' → BHas w' (.slice p1 l.length c1) l) := fun w' hb => h1.later hb
  have H2 : Hid (∀ w', Below w.heap.size w w' → BHas w' (.slice p2 l.length c2) l) := fun w' hb => h2.later hb
  clear h1 h2
  go_enter Try.func11, Try.ntmps11
  go_wp2
  go_loopw [5] (fun vi wr => ∃ k : Nat, vi = .int .i64 k ∧ k ≤ l.length ∧ Below w.heap.size w wr) (fun vi _ => l.length - (intOf vi).toNat)
  case atStart => exact ⟨0, rfl, by omega, Below.refl _ _⟩
  case round =>
    obtain ⟨k, rfl, hk, hbel⟩ := hrel
    by_cases hlt : k < l.length
    · have hlt' : (k : Int) < (l.length : Int) := by omega
      obtain ⟨g, o, s1, rfl, e1, f1⟩ := (H1.out wr hbel).at k hlt
      obtain ⟨g', o', s2, rfl, e2, f2⟩ := (H2.out wr hbel).at k hlt
      obtain ⟨x, HX⟩ := hid_ex l[k]
      rw [HX.out] at f1 f2
      obtain ⟨p1, d1, rfl⟩ := SHas.slice f1
      obtain ⟨p2, d2, rfl⟩ := SHas.slice f2
      clear HX H1 H2
      go_wp2_with fail
      refine Calm.region (by kernel_rfl) (by kernel_rfl) (fun w' : World => w'.cell? ⟨g, o + k, none⟩ = some (.slice p1 x.length d1) ∧ w'.cell? ⟨g', o' + k, none⟩ = some (.slice p2 x.length d2) ∧ DB w' (.slice p1 x.length d1) x ∧ DB w' (.slice p2 x.length d2) x ∧ Below wr.heap.size wr w') ⟨e1, e2, f1, f2, (Below.refl _ _).drew⟩ ?_
      iterate 3 (refine Calm.pu ?_)
      refine Calm.ce (fun _ h => h.1) ?_
      refine Calm.cl (fun _ h => run_string h.2.2.1) ?_
      iterate 3 (refine Calm.pu ?_)
      refine Calm.ce (fun _ h => h.2.1) ?_
      refine Calm.cl (fun _ h => run_string h.2.2.2.1) ?_
      refine Calm.pu ?_
      intro w6 hS6
      have hb6 := hS6.2.2.2.2
      clear hS6 e1 e2 f1 f2
      go_wp2_with fail
      go_roundw
      case rel => exact ⟨k + 1, by simp, by omega, below_on hbel hb6⟩
      case measure => simp [intOf]; omega
    · have hlt' : ¬ (k : Int) < (l.length : Int) := by omega
      go_wp2_with fail
      go_ret
      exact ⟨rfl, hbel⟩
/-- Are rows few, and short? -/
def fewR (l : List (List UInt8)) : Bool := decide (l.length ≤ 40) && decide (l.flatten.length ≤ 6000)
theorem flat_take {l : List (List UInt8)} {k : Nat} (h : k < l.length) : (l.take (k + 1)).flatten.length = (l.take k).flatten.length + l[k].length := by
  rw [List.take_succ_eq_append_getElem h, List.flatten_append, List.length_append, List.flatten_cons, List.flatten_nil, List.append_nil]
theorem flat_le (l : List (List UInt8)) (k : Nat) : (l.take k).flatten.length ≤ l.flatten.length := by
  conv => rhs; rw [← List.take_append_drop k l, List.flatten_append, List.length_append]
  omega
set_option maxHeartbeats 4000000 in
set_option maxRecDepth 100000 in
theorem rFew23_any (v : Value) (l : List (List UInt8)) (w : World) (h : BHas w v l) : Calls Try.prog 7 #[v] w (Tells (.bool (fewR l)) w) := by
  obtain ⟨q, c, rfl⟩ := h.slice
  have hml := maxLen_lt h.max
  obtain ⟨z, HZ⟩ := hid_ex (fewR l)
  rw [HZ.out]
  unfold fewR at HZ
  have H : Hid (BHas w (.slice q l.length c) l) := h
  clear h
  go_enter Try.func7, Try.ntmps7
  go_wp2
  by_cases h40 : l.length ≤ 40
  · have g40 : (l.length : Int) ≤ 40 := by omega
    rw [decide_eq_true h40, Bool.true_and] at HZ
    go_loopw [3, 4] (fun vn vi wr => ∃ k : Nat, vi = .int .i64 k ∧ vn = .int .i64 ((l.take k).flatten.length : Nat) ∧ k ≤ l.length ∧ (l.take k).flatten.length ≤ 6000 ∧ Below w.heap.size w wr) (fun _ vi _ => l.length - (intOf vi).toNat)
    case atStart => exact ⟨0, rfl, rfl, by omega, by simp, Below.refl _ _⟩
    case round =>
      obtain ⟨k, rfl, rfl, hk, hs, hbel⟩ := hrel
      by_cases hlt : k < l.length
      · have hlt' : (k : Int) < (l.length : Int) := by omega
        obtain ⟨g, o, s1, rfl, e1, f1⟩ := (H.out.later hbel).at k hlt
        have hf := flat_take hlt
        have hle := flat_le l (k + 1)
        have hm1 := maxLen_lt f1.1
        obtain ⟨x, HX⟩ := hid_ex l[k]
        rw [HX.out] at f1 hf hm1
        obtain ⟨p1, d1, rfl⟩ := SHas.slice f1
        obtain ⟨t, HT⟩ := hid_ex (l.take k).flatten.length
        rw [HT.out] at hs hf ⊢
        obtain ⟨tt, HTT⟩ := hid_ex l.flatten.length
        rw [HTT.out] at HZ hle
        have HT2 : Hid ((l.take (k + 1)).flatten.length = t + x.length) := hf
        rw [hf] at hle
        have ew : IntKind.i64.wrap (6000 - (t : Int)) = 6000 - (t : Int) := by rw [IntKind.wrap_i64]; omega
        clear hf f1 HX HT HTT
        by_cases h1 : 6000 - (t : Int) < (x.length : Int)
        · obtain rfl : false = z := by
            rw [← HZ.out]
            exact (decide_eq_false (by omega)).symm
          clear HZ HT2
          go_wp2_with fail
          go_ret
          exact ⟨rfl, hbel⟩
        · clear HZ
          go_wp2_with fail
          go_roundw
          case rel => exact ⟨k + 1, by simp, by rw [HT2.out]; simp, by omega, by rw [HT2.out]; omega, hbel⟩
          case measure => simp [intOf]; omega
      · have hlt' : ¬ (k : Int) < (l.length : Int) := by omega
        obtain rfl : k = l.length := by omega
        rw [List.take_length] at hs
        obtain rfl : true = z := by
          rw [← HZ.out]
          exact (decide_eq_true hs).symm
        clear HZ hs
        go_wp2_with fail
        go_ret
        exact ⟨rfl, hbel⟩
  · have g40 : ¬ (l.length : Int) ≤ 40 := by omega
    rw [decide_eq_false h40, Bool.false_and] at HZ
    obtain rfl := HZ.out
    go_loopw [3, 4] (fun vn vi wr => vi = .int .i64 0 ∧ vn = .int .i64 0 ∧ Below w.heap.size w wr) (fun _ _ _ => 0)
    case atStart => exact ⟨rfl, rfl, Below.refl _ _⟩
    case round =>
      obtain ⟨rfl, rfl, hbel⟩ := hrel
      have hp : (0 : Int) < (l.length : Int) := by omega
      go_wp2_with fail
      go_ret
      exact ⟨rfl, hbel⟩
end Go.Proofs.Ytnfejhkgcbabfaa
/- The document's answer for layer 25: Put. -/
namespace Go.Proofs.Ytnfejhkgcbabfaa
open Go.RowKit

/-- Bytes and a number. -/
def PuPost (r : List UInt8 × Int) (w : World) (e : Ending) (w' : World) : Prop := ∃ u, e = .returned (.tuple #[u, .int .i64 r.2]) ∧ DB w' u r.1 ∧ Below w.heap.size w w'
set_option maxHeartbeats 4000000 in
set_option maxRecDepth 100000 in
theorem rPut23_any (u v : Value) (b l : List UInt8) (w : World) (hu : DB w u b) (hv : DB w v l) (hb : b.length ≤ 1000000) : Calls Try.prog 13 #[u, v] w (PuPost (putR b l) w) := by
  have hml := maxLen_lt hv.1
  obtain ⟨pu, cu, rfl⟩ := SHas.slice hu
  obtain ⟨p, c, rfl⟩ := SHas.slice hv
  obtain ⟨z, HZ⟩ := hid_ex (putR b l)
  rw [HZ.out]
  unfold putR at HZ
  go_enter Try.func13, Try.ntmps13
  by_cases h6 : 60000 < l.length
  · have h6' : (60000 : Int) < (l.length : Int) := by omega
    rw [if_pos h6] at HZ
    obtain rfl := HZ.out
    clear hu hv
    go_wp2_with fail
    go_ret2
    exact ⟨_, rfl, DB.nil _, Below.refl _ _⟩
  · have h6' : ¬ (60000 : Int) < (l.length : Int) := by omega
    rw [if_neg h6] at HZ
    obtain rfl := HZ.out
    have HU : Hid (∀ w', Below w.heap.size w w' → DB w' (.slice pu b.length cu) b) := fun w' hb => SHas.later hu hb
    have HV : Hid (∀ w', Below w.heap.size w w' → DB w' (.slice p l.length c) l) := fun w' hb => SHas.later hv hb
    clear hu hv HZ
    have hba := bel_alloc (Below.refl w.heap.size w) (.cells #[] 5)
    have OE := own_empty w w.heap.size (Nat.le_refl _)
    have ae := HU.out _ hba
    go_wp2_with (at_builtin; refine append_db (l := []) rfl _ _ rfl rfl rfl OE ae (by show 0 + _ ≤ _; omega) hba.size ?_)
    intro v1 w1 O1 hg1
    have hb1 : Below w.heap.size w w1 := hba.grown hg1 hba.size (fun k' hk' => own_block OE k' hk')
    clear OE ae hg1 hba
    obtain ⟨p1, c1, rfl⟩ := own_sl O1
    replace O1 : w1.ownsRow w.heap.size 5 1 (.slice p1 b.length c1) b.length (cel b) := O1
    have n1 : IntKind.u8.wrap ((l.length : Int) / 16777216) = ((l.length / 16777216).toUInt8.toNat : Int) := by rw [IntKind.wrap_u8]; simp
    have n2 : IntKind.u8.wrap ((l.length : Int) / 65536 % 256) = ((l.length / 65536).toUInt8.toNat : Int) := by rw [IntKind.wrap_u8]; simp
    have n3 : IntKind.u8.wrap ((l.length : Int) / 256 % 256) = ((l.length / 256).toUInt8.toNat : Int) := by rw [IntKind.wrap_u8]; simp
    have n4 : IntKind.u8.wrap ((l.length : Int) % 256) = (l.length.toUInt8.toNat : Int) := by rw [IntKind.wrap_u8]; simp
    obtain ⟨x1, Xn1⟩ := hid_ex (l.length / 16777216).toUInt8
    obtain ⟨x2, Xn2⟩ := hid_ex (l.length / 65536).toUInt8
    obtain ⟨x3, Xn3⟩ := hid_ex (l.length / 256).toUInt8
    obtain ⟨x4, Xn4⟩ := hid_ex l.length.toUInt8
    rw [Xn1.out] at n1
    rw [Xn2.out] at n2
    rw [Xn3.out] at n3
    rw [Xn4.out] at n4
    have hba2 := bel_alloc (Below.refl w1.heap.size w1) (.cells #[.int .u8 x1.toNat, .int .u8 x2.toNat, .int .u8 x3.toNat, .int .u8 x4.toNat] 5)
    have D4 : DB (w1.alloc (.cells #[.int .u8 x1.toNat, .int .u8 x2.toNat, .int .u8 x3.toNat, .int .u8 x4.toNat] 5)) (.slice (some ⟨w1.heap.size, 0, none⟩) 4 4) [x1, x2, x3, x4] := ⟨(show 4 ≤ maxLen by decide), rfl, .inr ⟨_, 4, rfl, ⟨Nat.le_refl _, by decide⟩, fun _ => ⟨_, 0, rfl, (rw_new w1 5 _).range 0 _ fun j u hu => by simpa [cel] using hu⟩⟩⟩
    have O2 := own_later O1 hba2
    have hs2 := below_on hb1 hba2
    clear O1
    go_wp2_with (at_builtin; refine append_db rfl _ _ rfl rfl rfl O2 D4 (by show b.length + 4 ≤ _; omega) hs2.size ?_)
    intro v3 w3 O3 hg3
    replace O3 : w3.ownsRow w.heap.size 5 1 v3 (b ++ [x1, x2, x3, x4]).length (cel (b ++ [x1, x2, x3, x4])) := by rw [List.length_append]; exact O3
    have hb3 : Below w.heap.size w w3 := hs2.grown hg3 hs2.size (fun k' hk' => own_block O2 k' hk')
    clear O2 D4 hba2 hs2 hg3 n1 n2 n3 n4 hb1
    have C6 := Cr.refseal_has _ l w3 (HV.out w3 hb3).has (by omega)
    have hsl : (l ++ Crc.le4 (Crc.sm l)).length ≤ 60004 := by rw [List.length_append, Crc.le4_length]; omega
    have HX : Hid (recB l = [x1, x2, x3, x4] ++ (l ++ Crc.le4 (Crc.sm l))) := by
      show _ = _
      rw [← Xn1.out, ← Xn2.out, ← Xn3.out, ← Xn4.out]
      rfl
    obtain ⟨m, HM⟩ := hid_ex (l ++ Crc.le4 (Crc.sm l))
    rw [HM.out] at C6 HX hsl
    have hy : (b ++ [x1, x2, x3, x4]).length ≤ 1000004 := by rw [List.length_append]; show b.length + 4 ≤ _; omega
    have HX2 : Hid (b ++ recB l = (b ++ [x1, x2, x3, x4]) ++ m) := by
      show _ = _
      rw [HX.out, List.append_assoc]
    obtain ⟨y, HY⟩ := hid_ex (b ++ [x1, x2, x3, x4])
    rw [HY.out] at O3 HX2 hy
    clear HM Xn1 Xn2 Xn3 Xn4 HU HV HX HY
    obtain ⟨p3, c3, rfl⟩ := own_sl O3
    go_wp2_with fail
    refine C6.mono ?_
    rintro e w4 ⟨v4, rfl, hv4, hb4⟩
    have O4 := own_later O3 hb4
    have hd4 := has_db hv4
    have hbe := below_on hb3 hb4
    clear C6 O3 hv4 hb3 hb4
    go_wp2_with (at_builtin; refine append_db rfl _ _ rfl rfl rfl O4 hd4 (by omega) hbe.size ?_)
    intro v5 w5 O5 hg5
    have hb5 : Below w.heap.size w w5 := hbe.grown hg5 hbe.size (fun k' hk' => own_block O4 k' hk')
    clear O4 hd4 hbe hg5
    go_wp2_with fail
    go_ret2
    exact ⟨_, rfl, by rw [HX2.out]; exact own_db (by rw [List.length_append]; exact O5), hb5⟩
end Go.Proofs.Ytnfejhkgcbabfaa
/- The document's answer for layer 25: Scan. -/
namespace Go.Proofs.Ytnfejhkgcbabfaa
open Go.RowKit

theorem fold_lt : ∀ (l : List UInt8) (x : Nat), l.foldl (fun x c => 256 * x + c.toNat) x < (x + 1) * 256 ^ l.length
  | [], x => by simp
  | c :: l, x => by
    have h1 := fold_lt l (256 * x + c.toNat)
    have h2 := c.toNat_lt
    rw [List.foldl_cons, List.length_cons, Nat.pow_succ, Nat.mul_comm (256 ^ l.length) 256, ← Nat.mul_assoc]
    refine Nat.lt_of_lt_of_le h1 (Nat.mul_le_mul_right _ (by omega))
theorem val4_lt (l : List UInt8) : val4 l < 256 ^ l.length := by
  have := fold_lt l 0
  simpa [val4] using this
theorem val4_next {b : List UInt8} {a k : Nat} (h : a + k < b.length) : val4 ((b.drop a).take (k + 1)) = 256 * val4 ((b.drop a).take k) + b[a + k].toNat := by
  rw [List.take_succ_eq_append_getElem (by rw [List.length_drop]; omega), val4_snoc, List.getElem_drop]
theorem val4_take_lt {b : List UInt8} {a k : Nat} (h : k ≤ 4) : val4 ((b.drop a).take k) < 4294967296 := by
  refine Nat.lt_of_lt_of_le (val4_lt _) ?_
  have : ((b.drop a).take k).length ≤ 4 := by rw [List.length_take]; omega
  exact Nat.pow_le_pow_right (n := 256) (by decide) this
theorem one_end {b : List UInt8} {a : Nat} (h : b.length < a + 8) : oneR (b.drop a) = none := by
  unfold oneR
  rw [List.length_drop, if_pos (by omega)]
theorem one_big {b : List UInt8} {a n : Nat} (hn : val4 ((b.drop a).take 4) = n) (h : 60000 < n ∨ b.length < a + n + 8) : oneR (b.drop a) = none := by
  unfold oneR
  rw [List.length_drop, hn]
  split
  · rfl
  · rw [if_pos (by omega)]
theorem one_is {b : List UInt8} {a n : Nat} (hn : val4 ((b.drop a).take 4) = n) (h1 : n ≤ 60000) (h2 : a + n + 8 ≤ b.length) : oneR (b.drop a) = if Crc.sealed ((b.drop (a + 4)).take (n + 4)) = true then some ((b.drop (a + 4)).take n) else none := by
  unfold oneR
  rw [List.length_drop, hn, if_neg (by omega), if_neg (by omega), List.drop_drop]
/-- A part of bytes. -/
theorem DB.part {w : World} {g o c : Nat} {l : List UInt8} (h : DB w (.slice (some ⟨g, o, none⟩) l.length c) l) {m n d : Nat} (hn : m + n ≤ l.length) (hd : n ≤ d) (hd2 : d ≤ maxLen) : DB w (.slice (some ⟨g, o + m, none⟩) n d) ((l.drop m).take n) := by
  have hln : ((l.drop m).take n).length = n := by rw [List.length_take, List.length_drop]; omega
  refine ⟨by omega, by rw [cel_length, Nat.mul_one], .inr ⟨_, d, by rw [hln], ⟨by omega, hd2⟩, fun h0 => ?_⟩⟩
  obtain ⟨g', o', e, hr⟩ := SHas.at h (by omega)
  simp only [Option.some.injEq, Addr.mk.injEq] at e
  obtain ⟨rfl, rfl, _⟩ := e
  refine ⟨_, _, rfl, fun j u hu => ?_⟩
  rw [Nat.add_assoc]
  refine hr (m + j) u ?_
  have hj := (List.getElem?_eq_some_iff.1 hu).1
  rw [cel_length, hln] at hj
  rw [← hu]
  simp only [cel, List.getElem?_map]
  rw [List.getElem?_take_of_lt hj, List.getElem?_drop]
/-- Rows of bytes and a number. -/
def ScPost (r : List (List UInt8) × Nat) (w : World) (e : Ending) (w' : World) : Prop := ∃ u, e = .returned (.tuple #[u, .int .i64 r.2]) ∧ BHas w' u r.1 ∧ Below w.heap.size w w'
set_option maxHeartbeats 8000000 in
set_option maxRecDepth 100000 in
theorem rScan_any (u : Value) (b : List UInt8) (w : World) (hu : DB w u b) (hb : b.length ≤ 700000) : Calls Try.prog 14 #[u] w (ScPost (scanR b) w) := by
  obtain ⟨p, c, rfl⟩ := SHas.slice hu
  have hcp := SHas.cap hu
  have hml : (c : Int) ≤ 9223372036854775807 := maxLen_lt hcp.2
  have H : Hid (∀ w', Below w.heap.size w w' → DB w' (.slice p b.length c) b) := fun w' hb => SHas.later hu hb
  have HPB : Hid (∀ g o, p = some ⟨g, o, none⟩ → 0 < b.length → g < w.heap.size) := fun g o e hn => by subst e; exact SHas.block (by decide) hu rfl hn
  clear hu
  go_enter Try.func14, Try.ntmps14
  go_wp2
  go_loopw [4, 5, 6, 7, 8, 9] (fun vo va vn vi vb vk wr => ∃ (a : Nat) (ys : List (List UInt8 × Value)), va = .int .i64 a ∧ a ≤ b.length ∧ OwnB wr w.heap.size vo ys (fun _ => False) ∧ ys.length * 8 ≤ a ∧ Hid (scanR b = (ys.map (·.1) ++ (scanR (b.drop a)).1, a + (scanR (b.drop a)).2)) ∧ Below w.heap.size w wr) (fun _ va _ _ _ _ _ => b.length - (intOf va).toNat)
  case atStart => exact ⟨0, [], rfl, by omega, OwnB.nil _ _ _, (by simp), (show scanR b = _ by simp), Below.refl _ _⟩
  case round =>
    obtain ⟨a, ys, rfl, ha, hO, hyl, HS, hbel⟩ := hrel
    have e8 : IntKind.i64.wrap ((b.length : Int) - 8) = (b.length : Int) - 8 := by rw [IntKind.wrap_i64]; omega
    by_cases hend : b.length < a + 8
    · have h1 : ¬ (a : Int) ≤ (b.length : Int) - 8 := by omega
      have HE : Hid (scanR b = (ys.map (·.1), a)) := by
        show _ = _
        rw [HS.out, scan_none (one_end hend)]
        simp
      have hB := hO.fat.has
      clear hO HS
      go_wp2_with fail
      go_ret2
      exact ⟨_, by rw [HE.out]; rfl, by rw [HE.out]; exact hB, hbel⟩
    · have h1 : (a : Int) ≤ (b.length : Int) - 8 := by omega
      have HB := H.out wr hbel
      obtain ⟨g, o, rfl, hd⟩ := SHas.at HB (by omega)
      have hgw := HPB.out g o rfl (by omega)
      go_wp2_with fail
      go_loopw [6, 7] (fun vn vi wq => ∃ k : Nat, vi = .int .i64 k ∧ vn = .int .i64 (val4 ((b.drop a).take k) : Nat) ∧ k ≤ 4 ∧ wq = wr) (fun _ vi _ => 4 - (intOf vi).toNat)
      case atStart => exact ⟨0, rfl, by simp [val4], by omega, rfl⟩
      case round =>
        obtain ⟨k, rfl, rfl, hk, rfl⟩ := hrel
        by_cases h4 : k < 4
        · have h4' : (k : Int) < 4 := by omega
          have hc : wr.cell? ⟨g, o + (a + k), none⟩ = some (.int .u8 (b[a + k]'(by omega)).toNat) := hd (a + k) _ (by simp [cel, show a + k < b.length by omega])
          have hv := val4_next (b := b) (a := a) (k := k) (by omega)
          have hlt := val4_take_lt (b := b) (a := a) (k := k) (by omega)
          have hlt2 := val4_take_lt (b := b) (a := a) (k := k + 1) (by omega)
          obtain ⟨x, HX⟩ := hid_ex (b[a + k]'(by omega))
          rw [HX.out] at hc hv
          have hx := x.toNat_lt
          have HV : Hid (val4 ((b.drop a).take (k + 1)) = 256 * val4 ((b.drop a).take k) + x.toNat) := hv
          clear hv hlt2
          generalize val4 ((b.drop a).take k) = t at hlt HV ⊢
          have ek : IntKind.i64.wrap ((a : Int) + (k : Int)) = ((a + k : Nat) : Int) := by rw [IntKind.wrap_i64]; omega
          go_wp2_with fail
          go_roundw
          case rel => exact ⟨k + 1, by simp, by rw [HV.out]; simp, by omega, by trivial⟩
          case measure => simp [intOf]; omega
        · obtain rfl : k = 4 := by omega
          clear hd
          have hN := val4_take_lt (b := b) (a := a) (k := 4) (by omega)
          obtain ⟨n, HN⟩ := hid_ex (val4 ((b.drop a).take 4))
          rw [HN.out] at hN ⊢
          have e1 : IntKind.i64.wrap ((b.length : Int) - (a : Int)) = ((b.length - a : Nat) : Int) := by rw [IntKind.wrap_i64]; omega
          have e2 : IntKind.i64.wrap (((b.length - a : Nat) : Int) - 8) = ((b.length - a - 8 : Nat) : Int) := by rw [IntKind.wrap_i64]; omega
          by_cases hbig : 60000 < n ∨ b.length < a + n + 8
          · have HE : Hid (scanR b = (ys.map (·.1), a)) := by
              show _ = _
              rw [HS.out, scan_none (one_big HN.out hbig)]
              simp
            have hB := hO.fat.has
            clear hO HS
            by_cases hg : 60000 < n
            · have hg' : (60000 : Int) < (n : Int) := by omega
              go_wp2_with fail
              go_ret2
              exact ⟨_, by rw [HE.out]; rfl, by rw [HE.out]; exact hB, hbel⟩
            · have hg' : ¬ (60000 : Int) < (n : Int) := by omega
              have hg2 : ((b.length - a - 8 : Nat) : Int) < (n : Int) := by omega
              generalize b.length - a - 8 = q2 at e2 hg2
              go_wp2_with fail
              go_ret2
              exact ⟨_, by rw [HE.out]; rfl, by rw [HE.out]; exact hB, hbel⟩
          · have hg' : ¬ (60000 : Int) < (n : Int) := by omega
            have hg2 : ¬ ((b.length - a - 8 : Nat) : Int) < (n : Int) := by omega
            have f1 : IntKind.i64.wrap ((a : Int) + 4) = ((a + 4 : Nat) : Int) := by rw [IntKind.wrap_i64]; omega
            have f2 : IntKind.i64.wrap ((a : Int) + 8) = ((a + 8 : Nat) : Int) := by rw [IntKind.wrap_i64]; omega
            have f3 : IntKind.i64.wrap (((a + 8 : Nat) : Int) + (n : Int)) = ((a + 8 + n : Nat) : Int) := by rw [IntKind.wrap_i64]; omega
            have hle : a + 8 + n ≤ c := by omega
            go_upto_region 10 with fail
            clear e1 e2 hg' hg2 e8 h1
            have hL : ((b.drop (a + 4)).take (n + 4)).length = n + 4 := by rw [List.length_take, List.length_drop]; omega
            have hD := (DB.part HB (m := a + 4) (n := n + 4) (d := c - (a + 4)) (by omega) (by omega) (by omega)).has
            have hDx := DB.part HB (m := a + 4) (n := n) (d := c - (a + 4)) (by omega) (by omega) (by omega)
            have ho := one_is HN.out (by omega) (by omega)
            have hax : Hid (a + 8 + n - (a + 4) = n + 4) := (show a + 8 + n - (a + 4) = n + 4 by omega)
            obtain ⟨L, HL⟩ := hid_ex ((b.drop (a + 4)).take (n + 4))
            obtain ⟨x, HX⟩ := hid_ex ((b.drop (a + 4)).take n)
            have hxl : Hid (x.length = n) := (show x.length = n by rw [← HX.out, List.length_take, List.length_drop]; omega)
            rw [HL.out] at hL hD ho
            rw [HX.out] at hDx ho
            have hsx : n + 4 = L.length := hL.symm
            by_cases hs : Crc.sealed L = true
            · rw [if_pos hs] at ho
              have hn2 := scan_some ho
              rw [hxl.out, List.drop_drop] at hn2
              have HS2 : Hid (scanR b = ((ys ++ [((x, Value.slice (some ⟨g, o + (a + 4), none⟩) n (c - (a + 4))) : List UInt8 × Value)]).map (·.1) ++ (scanR (b.drop (a + (n + 8)))).1, a + (n + 8) + (scanR (b.drop (a + (n + 8)))).2)) := by
                show _ = _
                rw [HS.out, hn2]
                simp only [List.map_append, List.map_cons, List.map_nil, List.append_assoc, List.cons_append, List.nil_append]
                rw [Nat.add_assoc a]
              have C : Calls Try.prog 23 #[.slice (some ⟨g, o + (a + 4), none⟩) (a + 8 + n - (a + 4)) (c - (a + 4))] wr (fun e w' => e = .returned (.tuple #[.slice (some ⟨g, o + (a + 4), none⟩) n (c - (a + 4)), .bool true]) ∧ Below wr.heap.size wr w') := by
                rw [hsx] at hD
                have := Cr.refopen_yes _ (c - (a + 4)) L wr hD (by omega) (by omega) hs
                rw [hL, Nat.add_sub_cancel] at this
                rw [hax.out]
                exact this
              clear hn2 HS ho hs hD HL HX HN hL hsx
              go_wp2_with fail
              refine C.mono ?_
              rintro e w5 ⟨rfl, hb5⟩
              clear C
              have hO5 := hO.later hb5
              have hbel5 := below_on hbel hb5
              have hDx5 := SHas.later hDx hb5
              clear hO hDx HB
              go_upto_region 12 with fail
              have XO : BAt (w5.alloc (.cells #[.slice (some ⟨g, o + (a + 4), none⟩) n (c - (a + 4))] 23)) (.slice (some ⟨w5.heap.size, 0, none⟩) 1 1) [(x, .slice (some ⟨g, o + (a + 4), none⟩) n (c - (a + 4)))] (fun q => u4.ownBlock = some q ∨ False) := one_by x _ _ rfl (by have h9 := hDx5; rw [← hxl.out] at h9; rw [← hxl.out]; exact h9) (fun q hq => by
                rcases hq with hq | hq
                · have h1 := hO5.block hq
                  refine ⟨fun a' n' c' e hn' => ?_, by omega⟩
                  simp only [Value.slice.injEq, Option.some.injEq] at e
                  rw [← e.1]
                  show g ≠ q
                  omega
                · exact hq.elim)
              have hba5 := bel_alloc (Below.refl w5.heap.size w5) (.cells #[.slice (some ⟨g, o + (a + 4), none⟩) n (c - (a + 4))] 23)
              have hO6 := hO5.later hba5
              have hbel6 := below_on hbel5 hba5
              have hlen6 : ys.length + 1 ≤ 100000 := by omega
              clear hDx5 hba5 hO5
              go_wp2_with (at_builtin; refine append_bs rfl _ _ rfl rfl rfl hO6 XO hlen6 hbel6.size ?_)
              intro v7 w7 O7 g7 _
              have hb7 := hbel6.grown g7 hbel6.size (fun q hq => (hO6.block hq).1)
              have f4 : IntKind.i64.wrap (((a + 8 : Nat) : Int) + (n : Int)) = ((a + 8 + n : Nat) : Int) := by rw [IntKind.wrap_i64]; omega
              clear hO6 XO g7 hbel6 hbel5
              go_wp2_with fail
              go_roundw
              case rel => exact ⟨a + (n + 8), _, by simp; omega, by omega, O7, by rw [List.length_append]; simp; omega, HS2, hb7⟩
              case measure => simp [intOf]; omega
            · rw [if_neg hs] at ho
              have HE : Hid (scanR b = (ys.map (·.1), a)) := by
                show _ = _
                rw [HS.out, scan_none ho]
                simp
              have C : Calls Try.prog 23 #[.slice (some ⟨g, o + (a + 4), none⟩) (a + 8 + n - (a + 4)) (c - (a + 4))] wr (fun e w' => e = .returned (.tuple #[.slice none 0 0, .bool false]) ∧ Below wr.heap.size wr w') := by
                rw [hsx] at hD
                have := Cr.refopen_no _ (c - (a + 4)) L wr hD (by omega) (by omega) (by simpa using hs)
                rw [hL] at this
                rw [hax.out]
                exact this
              have hB := hO.fat.has
              clear HS ho hs hD HL HX HN hL hsx hO
              go_wp2_with fail
              refine C.mono ?_
              rintro e w5 ⟨rfl, hb5⟩
              have hB5 := hB.later hb5
              have hbel5 := below_on hbel hb5
              clear C hb5 hB hbel hDx HB
              go_wp2_with fail
              go_ret2
              exact ⟨_, by rw [HE.out]; rfl, by rw [HE.out]; exact hB5, hbel5⟩
end Go.Proofs.Ytnfejhkgcbabfaa
/- The program's calls of layer 25 as premises; RecordTells' law over them. -/
namespace Go.Proofs.Ytnfejhkgcbabfaa
open Go.RowKit

/-- Bytes and a number; the bytes lie in no older block that those given do not lie in. -/
def PuPostO (r : List UInt8 × Int) (a : Value) (w : World) (e : Ending) (w' : World) : Prop := ∃ u, e = .returned (.tuple #[u, .int .i64 r.2]) ∧ DB w' u r.1 ∧ (∀ q, q < w.heap.size → Off q a → Off q u) ∧ Below w.heap.size w w'
structure Prr : Prop where
  put : ∀ (b l : List UInt8) (u v : Value) (w : World), DB w u b → DB w v l → b.length ≤ 100000 → l.length ≤ 100000 → Calls Try.prog 12 #[u, v] w (PuPostO (putR b l) u w)
  scan : ∀ (b : List UInt8) (u : Value) (w : World), DB w u b → b.length ≤ 100000 → Calls Try.prog 10 #[u] w (ScPost (scanR b) w)
  size : ∀ (l : List UInt8) (v : Value) (w : World), DB w v l → l.length ≤ 100000 → Calls Try.prog 16 #[v] w (Tells (.int .i64 (sizR l)) w)
set_option maxHeartbeats 8000000 in
set_option maxRecDepth 100000 in
theorem rtells_law (K : Prr) (KH : ∀ w : World, Calls Try.prog 8 #[] w (Tells (.bool true) w)) (b l : List UInt8) (u v : Value) (w : World) (hu : DB w u b) (hv : DB w v l) : Calls Try.prog 4 #[u, v] w (Tells (.bool true) w) := by
  have hm1 := maxLen_lt hu.1
  have hm2 := maxLen_lt hv.1
  obtain ⟨p, c, rfl⟩ := SHas.slice hu
  obtain ⟨q, d, rfl⟩ := SHas.slice hv
  have HU : Hid (∀ w', Below w.heap.size w w' → DB w' (.slice p b.length c) b) := fun w' hb => SHas.later hu hb
  have HV : Hid (∀ w', Below w.heap.size w w' → DB w' (.slice q l.length d) l) := fun w' hb => SHas.later hv hb
  clear hu hv
  go_enter Try.func4, Try.ntmps4
  by_cases h1 : 6000 < b.length
  · have h1' : (6000 : Int) < (b.length : Int) := by omega
    go_wp2_with fail
    refine (KH w).mono ?_
    rintro e w1 ⟨rfl, hb⟩
    go_wp2_with fail
    go_ret
    exact ⟨rfl, hb⟩
  have h1' : ¬ (6000 : Int) < (b.length : Int) := by omega
  by_cases h2 : 6000 < l.length
  · have h2' : (6000 : Int) < (l.length : Int) := by omega
    go_wp2_with fail
    refine (KH w).mono ?_
    rintro e w1 ⟨rfl, hb⟩
    go_wp2_with fail
    go_ret
    exact ⟨rfl, hb⟩
  have h2' : ¬ (6000 : Int) < (l.length : Int) := by omega
  obtain ⟨⟨P, ep⟩, HP⟩ := hid_ex (putR b l)
  obtain ⟨⟨S, es⟩, HS⟩ := hid_ex (scanR b)
  obtain ⟨z, HZ⟩ := hid_ex (sizR l)
  have C1 : ∀ w', Below w.heap.size w w' → Calls Try.prog 12 #[.slice p b.length c, .slice q l.length d] w' (PuPost (P, ep) w') := fun w' hb => by
    have := K.put b l _ _ w' (HU.out _ hb) (HV.out _ hb) (by omega) (by omega)
    rw [HP.out] at this
    exact this.mono fun e w2 ⟨u2, h1, h2, _, h4⟩ => ⟨u2, h1, h2, h4⟩
  have C2 : ∀ w', Below w.heap.size w w' → Calls Try.prog 13 #[.slice p b.length c, .slice q l.length d] w' (PuPost (P, ep) w') := fun w' hb => by
    have := rPut23_any _ _ b l w' (HU.out _ hb) (HV.out _ hb) (by omega)
    rwa [HP.out] at this
  have C3 : ∀ w', Below w.heap.size w w' → Calls Try.prog 10 #[.slice p b.length c] w' (ScPost (S, es) w') := fun w' hb => by
    have := K.scan b _ w' (HU.out _ hb) (by omega)
    rwa [HS.out] at this
  have C4 : ∀ w', Below w.heap.size w w' → Calls Try.prog 14 #[.slice p b.length c] w' (ScPost (S, es) w') := fun w' hb => by
    have := rScan_any _ b w' (HU.out _ hb) (by omega)
    rwa [HS.out] at this
  have C5 : ∀ w', Below w.heap.size w w' → Calls Try.prog 16 #[.slice q l.length d] w' (Tells (.int .i64 z) w') := fun w' hb => by
    have := K.size l _ w' (HV.out _ hb) (by omega)
    rwa [HZ.out] at this
  have C6 : ∀ w', Below w.heap.size w w' → Calls Try.prog 17 #[.slice q l.length d] w' (Tells (.int .i64 z) w') := fun w' hb => by
    have := rSize_any _ l w' (HV.out _ hb)
    rwa [HZ.out] at this
  clear HP HS HZ HU HV
  go_wp2_with fail
  refine (C1 _ (Below.refl _ _)).mono ?_
  rintro e w1 ⟨u1, rfl, d1, hb1⟩
  clear C1
  go_wp2_with fail
  refine (C2 _ hb1).mono ?_
  rintro e w2 ⟨u2, rfl, d2, hb2⟩
  replace d1 := SHas.later d1 hb2
  replace hb2 := below_on hb1 hb2
  clear C2 hb1
  go_wp2_with fail
  refine (C3 _ hb2).mono ?_
  rintro e w3 ⟨u3, rfl, d3, hb3⟩
  replace d1 := SHas.later d1 hb3
  replace d2 := SHas.later d2 hb3
  replace hb3 := below_on hb2 hb3
  clear C3 hb2
  go_wp2_with fail
  refine (C4 _ hb3).mono ?_
  rintro e w4 ⟨u4, rfl, d4, hb4⟩
  replace d1 := SHas.later d1 hb4
  replace d2 := SHas.later d2 hb4
  replace d3 := d3.later hb4
  replace hb4 := below_on hb3 hb4
  clear C4 hb3
  go_wp2_with fail
  refine (rBytes_any _ _ _ w4 d1 d2).mono ?_
  rintro e w5 ⟨rfl, hb5⟩
  replace d3 := d3.later hb5
  replace d4 := d4.later hb5
  replace hb5 := below_on hb4 hb5
  clear d1 d2 hb4
  go_wp2_with fail
  refine (rLists_any _ _ _ w5 d3 d4).mono ?_
  rintro e w6 ⟨rfl, hb6⟩
  replace hb6 := below_on hb5 hb6
  clear d3 d4 hb5
  go_wp2_with fail
  refine (C5 _ hb6).mono ?_
  rintro e w7 ⟨rfl, hb7⟩
  replace hb7 := below_on hb6 hb7
  clear C5 hb6
  go_wp2_with fail
  refine (C6 _ hb7).mono ?_
  rintro e w8 ⟨rfl, hb8⟩
  replace hb8 := below_on hb7 hb8
  clear C6 hb7
  go_wp2_with fail
  refine (KH w8).mono ?_
  rintro e w9 ⟨rfl, hb9⟩
  replace hb9 := below_on hb8 hb9
  clear hb8
  go_wp2_with fail
  go_ret
  exact ⟨rfl, hb9⟩
end Go.Proofs.Ytnfejhkgcbabfaa
/- Layer 25's helper laid: records one behind the other, and where each ends. -/
namespace Go.Proofs.Ytnfejhkgcbabfaa
open Go.RowKit

theorem info3 : (Try.prog.info? 3).map (fun i => (i.zero, i.size, i.bytes)) = some (some (.int .i64 0), 1, 8) := by kernel_rfl
/-- Where each record ends. -/
def ends (l : List (List UInt8)) : List Int := (List.range l.length).map fun k => ((recs (l.take (k + 1))).length : Int)
theorem ends_length (l : List (List UInt8)) : (ends l).length = l.length := by simp [ends]
theorem ends_next {l : List (List UInt8)} {k : Nat} (h : k < l.length) : ends (l.take (k + 1)) = ends (l.take k) ++ [((recs (l.take (k + 1))).length : Int)] := by
  have h1 : (l.take (k + 1)).length = k + 1 := by rw [List.length_take]; omega
  have h2 : (l.take k).length = k := by rw [List.length_take]; omega
  unfold ends
  rw [h1, h2, List.range_succ, List.map_append, List.map_cons, List.map_nil, List.take_take, Nat.min_self]
  congr 1
  apply List.map_congr_left
  intro j hj
  have := List.mem_range.1 hj
  rw [List.take_take, List.take_take, Nat.min_eq_left (by omega), Nat.min_eq_left (by omega)]
theorem ends_at {l : List (List UInt8)} {k : Nat} (h : k < l.length) : (ends l)[k]? = some ((recs (l.take (k + 1))).length : Int) := by simp [ends, h]
theorem recs_length (l : List (List UInt8)) : (recs l).length = l.flatten.length + l.length * 8 := by
  induction l with
  | nil => rfl
  | cons x l ih =>
    rw [recs_cons, List.length_append, ih, recB_length, List.flatten_cons, List.length_append, List.length_cons]
    omega
theorem fewR_iff (l : List (List UInt8)) : fewR l = true ↔ l.length ≤ 40 ∧ l.flatten.length ≤ 6000 := by simp [fewR]
theorem few_each {l : List (List UInt8)} (h : fewR l = true) : ∀ x ∈ l, x.length ≤ 6000 := fun x hx => by
  have h2 := ((fewR_iff l).1 h).2
  have : x.length ≤ l.flatten.length := by
    obtain ⟨a, c, rfl⟩ := List.append_of_mem hx
    simp only [List.flatten_append, List.flatten_cons, List.length_append]
    omega
  omega
theorem few_recs {l : List (List UInt8)} (h : fewR l = true) (k : Nat) : (recs (l.take k)).length ≤ 6320 := by
  obtain ⟨h1, h2⟩ := (fewR_iff l).1 h
  have h3 := flat_le l k
  have h4 : (l.take k).length ≤ 40 := by rw [List.length_take]; omega
  rw [recs_length]
  omega
/-- Bytes, numbers, and that it went. -/
def LaPost (l : List (List UInt8)) (w : World) (e : Ending) (w' : World) : Prop := ∃ u v, e = .returned (.tuple #[u, v, .bool true]) ∧ DB w' u (recs l) ∧ SHas 1 w' v l.length (vals (ends l)) ∧ Below w.heap.size w w'
set_option maxHeartbeats 8000000 in
set_option maxRecDepth 100000 in
theorem laid_any (K : Prr) (l : List (List UInt8)) (u : Value) (w : World) (h : BHas w u l) (hf : fewR l = true) : Calls Try.prog 9 #[u] w (LaPost l w) := by
  obtain ⟨i0, hi, hz0, hz1, hz2⟩ := info_split info3
  have hm1 := maxLen_lt h.max
  obtain ⟨p, c, rfl⟩ := h.slice
  have H : Hid (∀ w', Below w.heap.size w w' → BHas w' (.slice p l.length c) l) := fun w' hb => h.later hb
  have HF : Hid (fewR l = true) := hf
  have hl40 := ((fewR_iff l).1 hf).1
  clear h hf
  go_enter Try.func9, Try.ntmps9
  go_wp2
  go_loopw [5, 6, 7, 8, 9] (fun vb ve vi _ _ wr => ∃ k : Nat, vi = .int .i64 k ∧ k ≤ l.length ∧ DB wr vb (recs (l.take k)) ∧ wr.ownsRow w.heap.size 3 1 ve k (vals (ends (l.take k))) ∧ Hid (∀ q, ve.ownBlock = some q → Off q vb) ∧ Below w.heap.size w wr) (fun _ _ vi _ _ _ => l.length - (intOf vi).toNat)
  case atStart => exact ⟨0, rfl, by omega, DB.nil _, ⟨rfl, .inl ⟨rfl, rfl⟩⟩, (show ∀ q, _ → Off q _ from fun q _ a n c e => by cases e), Below.refl _ _⟩
  case round =>
    obtain ⟨k, rfl, hk, hd, hO, HOF, hbel⟩ := hrel
    by_cases hlt : k < l.length
    · have hlt' : (k : Int) < (l.length : Int) := by omega
      obtain ⟨g, o, s1, rfl, e1, f1⟩ := (H.out wr hbel).at k hlt
      have hx6 := few_each HF.out _ (List.getElem_mem hlt)
      have hr1 := few_recs HF.out k
      have hr2 := few_recs HF.out (k + 1)
      have HE : Hid (vals (ends (l.take (k + 1))) = vals (ends (l.take k)) ++ [.int .i64 ((recs (l.take (k + 1))).length : Int)]) := by
        show _ = _
        rw [ends_next hlt]
        simp [vals]
      have HR : Hid (recs (l.take (k + 1)) = recs (l.take k) ++ recB l[k]) := by
        show _ = _
        rw [List.take_succ_eq_append_getElem hlt, recs_append]
        simp [recs]
      obtain ⟨x, HX⟩ := hid_ex l[k]
      rw [HX.out] at f1 hx6 HR
      obtain ⟨p1, d1, rfl⟩ := SHas.slice f1
      obtain ⟨R2, HR2⟩ := hid_ex (recs (l.take (k + 1)))
      obtain ⟨R1, HR1⟩ := hid_ex (recs (l.take k))
      obtain ⟨E1, HE1⟩ := hid_ex (vals (ends (l.take k)))
      rw [HR1.out] at hr1 hd HR
      rw [HR2.out] at hr2 HE HR
      rw [HE1.out] at HE hO
      have hlr : R2.length = R1.length + (x.length + 8) := by rw [HR.out, List.length_append, recB_length]
      have CP := K.put R1 x _ _ wr hd f1 (by omega) (by omega)
      have hpe : putR R1 x = (R2, 0) := by unfold putR; rw [if_neg (by omega), HR.out]
      have hse : sizR x = ((x.length + 8 : Nat) : Int) := by unfold sizR; rw [if_neg (by omega)]; simp
      rw [hpe] at CP
      obtain ⟨pr, cr, rfl⟩ := SHas.slice hd
      obtain ⟨pe, ce, rfl⟩ := own_sl hO
      have HLR : Hid (R2.length = R1.length + (x.length + 8)) := hlr
      clear hpe HX hlr
      go_upto_region 6 with fail
      go_wp2_with fail
      refine CP.mono ?_
      rintro e w1 ⟨u2, rfl, d2, of2, hb1⟩
      have HOF2 : Hid (∀ q, (Value.slice pe k ce).ownBlock = some q → Off q u2) := fun q hq => of2 q (World.ownsRow.lt hO q hq).2 (HOF.out q hq)
      clear CP hd of2 HOF
      have e1' := cell_later hb1 e1
      have CS := K.size x _ w1 (SHas.later f1 hb1) (by omega)
      rw [hse] at CS
      replace hO := own_later hO hb1
      replace hbel := below_on hbel hb1
      obtain ⟨p2, c2, rfl⟩ := SHas.slice d2
      clear hse f1 e1 hb1
      go_wp2_with fail
      refine CS.mono ?_
      rintro e w2 ⟨rfl, hb2⟩
      replace hO := own_later hO hb2
      replace d2 := SHas.later d2 hb2
      replace hbel := below_on hbel hb2
      clear CS e1' hb2
      have ew : IntKind.i64.wrap ((R1.length : Int) + ((x.length + 8 : Nat) : Int)) = (R2.length : Int) := by rw [HLR.out, IntKind.wrap_i64]; omega
      have hne : ((R2.length : Int) != (R1.length : Int) + ((x.length : Int) + 8)) = false := by rw [HLR.out]; simp
      clear ew
      go_upto_region 10 with fail
      go_wp2_with (first | (at_builtin; refine Go.wpList_append_own_at _ rfl _ _ 26 rfl w.heap.size 3 i0 (.int .i64 0) 1 8 Try.underlying26 hi hz0 hz1 hz2 rfl (by decide) _ _ _ rfl (hO.alloc _) ⟨w2.heap.size, 0, none⟩ 1 1 [.int .i64 (R2.length : Int)] rfl rfl (cell_one_new _ _ _) (by simp [Value.oneCell']) (by unfold maxLen; omega) (by omega) (by have := hbel.size; simp; omega) ?_; intro v2 w3 o_v2 g_v2 _ b_v2))
      have hlt2 := fun j hj => (World.ownsRow.lt hO j hj).1
      have hba := bel_alloc hbel (.cells #[.int .i64 (R2.length : Int)] 3)
      have hb3 := hba.grown g_v2 hba.size (fun j hj => hlt2 j hj)
      have hba2 := bel_alloc (Below.refl w2.heap.size w2) (.cells #[.int .i64 (R2.length : Int)] 3)
      have d2' := SHas.later d2 hba2
      have d3 : DB w3 (.slice p2 R2.length c2) R2 := d2'.grown (by decide) g_v2 (fun q hq => HOF2.out q hq)
      have HOF3 : Hid (∀ q, v2.ownBlock = some q → Off q (.slice p2 R2.length c2)) := fun q hq => by
        rcases b_v2 with hb | hb
        · exact HOF2.out q (hb ▸ hq)
        · rw [hb] at hq
          simp only [Option.some.injEq] at hq
          intro a' n' c' e hn'
          have := d2'.block (by decide) e hn'
          omega
      rw [← HE.out] at o_v2
      clear hO g_v2 d2 d2' hba2 b_v2 HOF2 hba hbel hne HE HLR HR hlt2
      go_wp2_with fail
      go_roundw
      case rel => exact ⟨k + 1, by simp, by omega, by rw [HR2.out]; exact d3, o_v2, HOF3, hb3⟩
      case measure => simp [intOf]; omega
    · have hlt' : ¬ (k : Int) < (l.length : Int) := by omega
      obtain rfl : k = l.length := by omega
      rw [List.take_length] at hd hO
      have hI := own_sh hO
      obtain ⟨pr, cr, rfl⟩ := SHas.slice hd
      clear hO HOF
      go_wp2_with fail
      go_ret3
      exact ⟨_, _, rfl, hd, hI, hbel⟩
end Go.Proofs.Ytnfejhkgcbabfaa
