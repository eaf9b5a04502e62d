/- Rise of the document's answer. -/
import Derived.Test.YtknpnjhedfdggaaVal
namespace Go.Proofs.Ytknpnjhedfdggaa
open Go.RowKit Go.Sort

theorem info9 : (Try.prog.info? 9).map (fun i => (i.zero, i.size, i.bytes)) = some (some (.string noS), 1, 16) := by kernel_rfl
theorem one_str (y : ByteArray) : ∀ u ∈ [Value.string y], u.oneCell' = true := by
  intro u hu
  rw [List.mem_singleton.1 hu]
  rfl
theorem less_bytes : ∀ (x y : Bs), Op.bytesLess x y = decide (x < y)
  | [], [] => by simp [Op.bytesLess]
  | _ :: _, [] => by simp [Op.bytesLess]
  | [], _ :: _ => by simp [Op.bytesLess]
  | a :: x, b :: y => by
    rw [Op.bytesLess, less_bytes x y]
    simp only [List.cons_lt_cons_iff]
    by_cases h1 : a < b <;> by_cases h2 : a = b <;> by_cases h3 : x < y <;> simp [h1, h2, h3]
theorem less_str (a b : ByteArray) : Op.bytesLess a.toList b.toList = decide (bs a < bs b) := by rw [ByteArray.toList_eq, ByteArray.toList_eq, less_bytes]
theorem eq_str (a b : ByteArray) : (a.toList == b.toList) = decide (bs a = bs b) := by
  rw [ByteArray.toList_eq, ByteArray.toList_eq]
  by_cases h : bs a = bs b
  · rw [decide_eq_true h]
    simpa using h
  · rw [decide_eq_false h]
    simpa using h
theorem insT_all {s : Bs} {l : List Bs} (h : ∀ y ∈ l, y < s) : insT l s = l ++ [s] := by
  unfold insT
  rw [List.filter_eq_self.2 (fun y hy => decide_eq_true (h y hy)), List.filter_eq_nil_iff.2 (fun y hy => by rw [decide_eq_true (h y hy)]; simp)]
theorem insT_snoc {s y : Bs} (h : ¬ y < s) (l : List Bs) : insT (l ++ [y]) s = insT l s ++ [y] := by
  unfold insT
  rw [List.filter_append, List.filter_append, List.filter_cons_of_neg (by simpa using h), List.filter_cons_of_pos (by simpa using h), List.filter_nil, List.filter_nil, List.append_nil, List.append_assoc, List.cons_append]
/-- What stands so far. -/
def RInv (s : Bs) (l : List Bs) (k : Nat) (d : Bool) (m : List Bs) : Prop := (d = true → m = insT (l.take k) s ∧ ∃ j, ∃ h : j < l.length, j < k ∧ s < l[j]) ∧ (d = false → m = l.take k ∧ ∀ y ∈ l.take k, y < s)
theorem up_at {l : List Bs} (h : up l) (i j : Nat) (hj : j < l.length) (hij : i < j) : (l[i]'(by omega)) < l[j] := (List.pairwise_iff_getElem.1 h) i j (by omega) hj hij
set_option maxHeartbeats 4000000 in
set_option maxRecDepth 100000 in
theorem rise_any (v : Value) (l : List Bs) (s : ByteArray) (w : World) (h : THas w v l) (hl : l.length ≤ 200) (hup : up l) : Calls Try.prog 37 #[v, .string s] w (TtPost (rise l (bs s)) w) := by
  obtain ⟨i0, hi, hz0, hz1, hz2⟩ := info_parts info9
  obtain ⟨p, c, rfl⟩ := h.slice
  have HA : Hid (THas w (.slice p l.length c) l) := h
  have HU : Hid (up l) := hup
  clear h hup
  obtain ⟨z, HZ⟩ := hid_ex (rise l (bs s))
  rw [HZ.out]
  go_enter Try.func37, Try.ntmps37
  go_wp2
  go_loopw [5, 6, 7] (fun vn vd vi wr => ∃ (k : Nat) (d : Bool) (m : List Bs), vi = .int .i64 k ∧ k ≤ l.length ∧ vd = .bool d ∧ m.length ≤ k + 1 ∧ wr.ownsRow w.heap.size 9 1 vn m.length (m.map encStr) ∧ RInv (bs s) l k d m ∧ Hid (∀ j (h : j < l.length), j < k → l[j] ≠ bs s) ∧ Below w.heap.size w wr) (fun _ _ vi _ => l.length - (intOf vi).toNat)
  case atStart => exact ⟨0, false, [], rfl, by omega, rfl, by simp, World.ownsRow_nil _ _ _ _, ⟨(fun h => by cases h), fun _ => ⟨by simp, fun y hy => by simp at hy⟩⟩, (show ∀ j (_ : j < l.length), j < 0 → _ from fun j _ h => by omega), Below.refl _ _⟩
  case round =>
    obtain ⟨k, d, m, rfl, hk, rfl, hm, hown, HM, HV, hbel⟩ := hrel
    obtain ⟨P, cc, rfl⟩ := own_sl hown
    by_cases hlt : k < l.length
    · have hlt' : (k : Int) < (l.length : Int) := by omega
      have hk0 : (0 : Int) ≤ (k : Int) := by omega
      obtain ⟨g, o, rfl, hd0⟩ := HA.out.at (by omega)
      obtain ⟨Y, HY⟩ := hid_ex (⟨l[k].toArray⟩ : ByteArray)
      have c1 := THas.elem (range_later hd0 hbel) k hlt
      rw [show encStr l[k] = .string Y by rw [← HY.out]] at c1
      have hY : bs Y = l[k] := by rw [← HY.out]
      have HB : Hid (bs Y = l[k]) := hY
      have HTK : Hid (l.take (k + 1) = l.take k ++ [bs Y]) := by
        show _ = _
        rw [List.take_succ_eq_append_getElem hlt, hY]
      clear hd0
      obtain ⟨z1, HZ1⟩ := hid_ex (decide (bs Y = bs s))
      have E1 : (Y.toList == s.toList) = z1 := by rw [eq_str, HZ1.out]
      obtain ⟨z2, HZ2⟩ := hid_ex (decide (bs s < bs Y))
      have E2 : Op.bytesLess s.toList Y.toList = z2 := by rw [less_str, HZ2.out]
      cases z1
      · have hne : bs Y ≠ bs s := by have := HZ1.out; simpa using this
        have HNE : Hid (bs Y ≠ bs s) := hne
        have HV2 : Hid (∀ j (h : j < l.length), j < k + 1 → l[j] ≠ bs s) := fun j h hj => by
          rcases Nat.lt_or_ge j k with h' | h'
          · exact HV.out j h h'
          · obtain rfl : j = k := by omega
            rw [← hY]
            exact hne
        clear hne hY HZ1
        cases d
        · obtain ⟨hm1, hm2⟩ := HM.2 rfl
          cases z2
          · have hly : bs Y < bs s := Bs.tri (by have := HZ2.out; simpa using this) (fun e => HNE.out e.symm)
            have HM2 : RInv (bs s) l (k + 1) false (m ++ [bs Y]) := ⟨(fun h => by cases h), fun _ => ⟨by rw [HTK.out, hm1], fun y' hy' => by
              rw [HTK.out] at hy'
              rcases List.mem_append.1 hy' with h' | h'
              · exact hm2 y' h'
              · rw [List.mem_singleton.1 h']
                exact hly⟩⟩
            clear hm1 hm2 HM hly HZ2 HNE
            go_wp2_with (first | (at_builtin; refine wpList_append_own _ rfl _ _ 43 rfl w.heap.size 9 i0 (.string noS) 1 16 Try.underlying43 hi hz0 hz1 hz2 rfl (by decide) _ _ _ rfl (hown.alloc _) ⟨wr.heap.size, 0, none⟩ 1 1 [.string Y] rfl rfl ?c1 ?c2 ?c3 ?c4 ?c5 ?_))
            case c1 => exact fun q u hq => (cells_next _ (by simp) _ _ _).trans hq
            case c2 => exact one_str Y
            case c3 => unfold maxLen; omega
            case c4 => omega
            case c5 => have := hbel.size; simp; omega
            intro v2 w6 hown6 hg6 _
            have hBg : ∀ q', (Value.slice P m.length cc).ownBlock = some q' → w.heap.size ≤ q' := fun q' hq => (World.ownsRow.lt hown q' hq).1
            go_wp2_with fail
            go_roundw
            case rel =>
              refine ⟨k + 1, _, m ++ [bs Y], by simp, by omega, rfl, by simp; omega, ?_, HM2, HV2, (bel_alloc hbel _).grown hg6 (by have := hbel.size; simp; omega) (fun q' hq => hBg q' hq)⟩
              rw [List.map_append, List.length_append]
              simpa using hown6
            case measure => simp [intOf]; omega
          · have hsy : bs s < bs Y := by have := HZ2.out; simpa using this
            have hly : ¬ bs Y < bs s := Bs.asymm hsy
            have HM2 : RInv (bs s) l (k + 1) true (m ++ [bs s] ++ [bs Y]) := ⟨fun _ => ⟨by
              rw [HTK.out, insT_snoc hly, hm1, insT_all hm2], k, hlt, by omega, by rw [← HB.out]; exact hsy⟩, (fun h => by cases h)⟩
            have hmk : m.length ≤ k := by
              rw [hm1, List.length_take]
              exact Nat.min_le_left _ _
            clear hm1 hm2 HM hly hsy HZ2 HNE
            have hm9 : m.length + 1 + 1 ≤ 202 := Nat.add_le_add_right (Nat.add_le_add_right (Nat.le_trans hmk (Nat.le_trans (Nat.le_of_lt hlt) hl)) 1) 1
            have hc3 : m.length + 1 ≤ maxLen := by unfold maxLen; omega
            have hc4 : (m.length + 1) * 16 ≤ 140737488355328 := by omega
            have hn3 : m.length + 1 + 1 ≤ maxLen := Nat.le_trans hm9 (by unfold maxLen; decide)
            have hn4 : (m.length + 1 + 1) * 16 ≤ 140737488355328 := Nat.le_trans (Nat.mul_le_mul_right 16 hm9) (by decide)
            clear hm9
            have hc1 : ∀ q u, [Value.string s][q]? = some u → (wr.alloc (.cells #[.string s] 9)).cell? ((⟨wr.heap.size, 0, none⟩ : Addr).add q) = some u := fun q u hq => (cells_new wr [.string s] 9 q).trans hq
            have hc5 : w.heap.size ≤ (wr.alloc (.cells #[.string s] 9)).heap.size := by have := hbel.size; simp; omega
            go_wp2_with (first | (at_builtin; refine wpList_append_own _ rfl _ _ 43 rfl w.heap.size 9 i0 (.string noS) 1 16 Try.underlying43 hi hz0 hz1 hz2 rfl (by decide) _ _ _ rfl (hown.alloc _) ⟨wr.heap.size, 0, none⟩ 1 1 [.string s] rfl rfl hc1 (one_str s) hc3 hc4 hc5 ?_))
            intro v2 w6 hown6 hg6 _
            have hBg : ∀ q', (Value.slice P m.length cc).ownBlock = some q' → w.heap.size ≤ q' := fun q' hq => (World.ownsRow.lt hown q' hq).1
            have hbel6 := (bel_alloc hbel (.cells #[.string s] 9)).grown hg6 (by have := hbel.size; simp; omega) (fun q' hq => hBg q' hq)
            replace hown6 : w6.ownsRow w.heap.size 9 1 v2 (m.length + 1) ((m ++ [bs s]).map encStr) := by
              rw [List.map_append]
              simpa using hown6
            obtain ⟨P2, c3_, rfl⟩ := own_sl hown6
            have c6 : w6.cell? ⟨g, o + k, none⟩ = some (.string Y) := by
              obtain ⟨g', o', e', hd'⟩ := HA.out.at (by omega)
              simp only [Option.some.injEq, Addr.mk.injEq, and_true] at e'
              obtain ⟨rfl, rfl⟩ := e'
              have := THas.elem (range_later hd' hbel6) k hlt
              rw [show encStr l[k] = .string Y by rw [← HY.out]] at this
              exact this
            clear hc1 hc3 hc4 hc5 hown hBg hg6 c1
            have hma : (m ++ [bs s]).length = m.length + 1 := by simp
            obtain ⟨m2, HM4⟩ := hid_ex (m ++ [bs s])
            rw [HM4.out] at hown6 hma HM2
            go_wp2_with (first | (at_builtin; refine wpList_append_own _ rfl _ _ 43 rfl w.heap.size 9 i0 (.string noS) 1 16 Try.underlying43 hi hz0 hz1 hz2 rfl (by decide) _ _ _ rfl (hown6.alloc _) ⟨w6.heap.size, 0, none⟩ 1 1 [.string Y] rfl rfl ?e1 ?e2 ?e3 ?e4 ?e5 ?_))
            case e1 => exact fun q u hq => (cells_next _ (by simp) _ _ _).trans hq
            case e2 => exact one_str Y
            case e3 => exact hn3
            case e4 => exact hn4
            case e5 => have := hbel6.size; simp; omega
            intro v4 w7 hown7 hg7 _
            have hBg : ∀ q', (Value.slice P2 (m.length + 1) c3_).ownBlock = some q' → w.heap.size ≤ q' := fun q' hq => (World.ownsRow.lt hown6 q' hq).1
            go_wp2_with fail
            go_roundw
            case rel =>
              refine ⟨k + 1, _, m2 ++ [bs Y], by simp, by omega, rfl, by simp; omega, ?_, HM2, HV2, (bel_alloc hbel6 _).grown hg7 (by have := hbel6.size; simp; omega) (fun q' hq => hBg q' hq)⟩
              rw [List.map_append, List.length_append, hma]
              simpa using hown7
            case measure => simp [intOf]; omega
        · obtain ⟨hm1, j0, hj0, hj1, hj2⟩ := HM.1 rfl
          have hly : ¬ bs Y < bs s := by
            have h1 := up_at HU.out j0 k hlt hj1
            rw [← HB.out] at h1
            exact Bs.asymm (Bs.trans hj2 h1)
          have HM2 : RInv (bs s) l (k + 1) true (m ++ [bs Y]) := ⟨fun _ => ⟨by rw [HTK.out, insT_snoc hly, hm1], j0, hj0, by omega, hj2⟩, (fun h => by cases h)⟩
          clear hm1 hj2 HM hly HZ2 HNE
          go_wp2_with (first | (at_builtin; refine wpList_append_own _ rfl _ _ 43 rfl w.heap.size 9 i0 (.string noS) 1 16 Try.underlying43 hi hz0 hz1 hz2 rfl (by decide) _ _ _ rfl (hown.alloc _) ⟨wr.heap.size, 0, none⟩ 1 1 [.string Y] rfl rfl ?c1 ?c2 ?c3 ?c4 ?c5 ?_))
          case c1 => exact fun q u hq => (cells_next _ (by simp) _ _ _).trans hq
          case c2 => exact one_str Y
          case c3 => unfold maxLen; omega
          case c4 => omega
          case c5 => have := hbel.size; simp; omega
          intro v2 w6 hown6 hg6 _
          have hBg : ∀ q', (Value.slice P m.length cc).ownBlock = some q' → w.heap.size ≤ q' := fun q' hq => (World.ownsRow.lt hown q' hq).1
          go_wp2_with fail
          go_roundw
          case rel =>
            refine ⟨k + 1, _, m ++ [bs Y], by simp, by omega, rfl, by simp; omega, ?_, HM2, HV2, (bel_alloc hbel _).grown hg6 (by have := hbel.size; simp; omega) (fun q' hq => hBg q' hq)⟩
            rw [List.map_append, List.length_append]
            simpa using hown6
          case measure => simp [intOf]; omega
      · have heq : bs Y = bs s := by have := HZ1.out; simpa using this
        have e : z = l := by
          rw [← HZ.out]
          unfold rise
          rw [if_pos (by rw [← heq, hY]; exact List.getElem_mem _)]
        subst e
        clear HZ HM HV hY heq HZ1
        have HA2 := HA.out.later hbel
        clear HA
        go_wp2_with fail
        go_ret
        exact ⟨_, rfl, HA2, hbel⟩
    · obtain rfl : k = l.length := by omega
      have hlt' : ¬ (l.length : Int) < (l.length : Int) := by omega
      have hz : z = insT l (bs s) := by
        rw [← HZ.out]
        unfold rise
        rw [if_neg]
        intro hmem
        obtain ⟨j, hj, e⟩ := List.getElem_of_mem hmem
        exact HV.out j hj hj e
      have h2 := HM
      unfold RInv at h2
      rw [List.take_length] at h2
      have HM3 : Hid ((d = true → m = z) ∧ (d = false → m ++ [bs s] = z)) := ⟨fun h => by rw [hz]; exact (h2.1 h).1, fun h => by rw [hz, (h2.2 h).1, insT_all (h2.2 h).2]⟩
      clear h2 HM HV hz HZ HU HA
      cases d
      · have HM5 : Hid (m ++ [bs s] = z) := HM3.out.2 rfl
        clear HM3
        have hc1 : ∀ q u, [Value.string s][q]? = some u → (wr.alloc (.cells #[.string s] 9)).cell? ((⟨wr.heap.size, 0, none⟩ : Addr).add q) = some u := fun q u hq => (cells_new wr [.string s] 9 q).trans hq
        have hc3 : m.length + 1 ≤ maxLen := by unfold maxLen; omega
        have hc4 : (m.length + 1) * 16 ≤ 140737488355328 := by omega
        have hc5 : w.heap.size ≤ (wr.alloc (.cells #[.string s] 9)).heap.size := by have := hbel.size; simp; omega
        go_wp2_with (first | (at_builtin; refine wpList_append_own _ rfl _ _ 43 rfl w.heap.size 9 i0 (.string noS) 1 16 Try.underlying43 hi hz0 hz1 hz2 rfl (by decide) _ _ _ rfl (hown.alloc _) ⟨wr.heap.size, 0, none⟩ 1 1 [.string s] rfl rfl hc1 (one_str s) hc3 hc4 hc5 ?_))
        intro v2 w6 hown6 hg6 _
        have hBg : ∀ q', (Value.slice P m.length cc).ownBlock = some q' → w.heap.size ≤ q' := fun q' hq => (World.ownsRow.lt hown q' hq).1
        replace hbel := (bel_alloc hbel _).grown hg6 (by have := hbel.size; simp; omega) (fun q' hq => hBg q' hq)
        replace hown6 : w6.ownsRow w.heap.size 9 1 v2 z.length (z.map encStr) := by
          rw [← HM5.out, List.map_append, List.length_append]
          simpa using hown6
        obtain ⟨P2, c3_, rfl⟩ := own_sl hown6
        go_wp2_with fail
        go_ret
        exact ⟨_, rfl, own_sh hown6, hbel⟩
      · have e : m = z := HM3.out.1 rfl
        subst e
        clear HM3
        go_wp2_with fail
        go_ret
        exact ⟨_, rfl, own_sh hown, hbel⟩
end Go.Proofs.Ytknpnjhedfdggaa
