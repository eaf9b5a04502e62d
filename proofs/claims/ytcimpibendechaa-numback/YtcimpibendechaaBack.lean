/- NumBack: whatever the numbers, the text and the bytes are, the call returns true: what is put is got, and unlike numbers have unlike bytes. -/
import Derived.Test.YtcimpibendechaaOne
import Derived.Test.YtcimpibendechaaNumeral
import Derived.Laws.AppendOwnNone
namespace Go.Proofs.Ytcimpibendechaa
open Go.RowKit

theorem enc_inj (n m : Int) (hn0 : -9223372036854775808 ≤ n) (hn1 : n ≤ 9223372036854775807) (hm0 : -9223372036854775808 ≤ m) (hm1 : m ≤ 9223372036854775807) : (Num.enc n == Num.enc m) = (n == m) := by
  by_cases h : n = m
  · subst h; rw [beq_self_eq_true, beq_self_eq_true]
  · rw [beq_eq_false_iff_ne.2 h]
    apply beq_eq_false_iff_ne.2
    intro e
    apply h
    have h1 := Num.rd_enc (Lib.zigzag n) [] (Lib.zigzag_lt hn0 hn1)
    have h2 := Num.rd_enc (Lib.zigzag m) [] (Lib.zigzag_lt hm0 hm1)
    have e' : Lib.uvarint (Lib.zigzag n) = Lib.uvarint (Lib.zigzag m) := e
    rw [e', h2] at h1
    have e3 : Lib.zigzag m = Lib.zigzag n := congrArg Prod.fst h1
    rw [← Num.unz_zigzag n, ← Num.unz_zigzag m, e3]

set_option maxHeartbeats 1000000 in
set_option maxRecDepth 100000 in
theorem back_long1 (n m : Int) (s : ByteArray) (p : Option Addr) (len c : Nat) (w : World) (hs : s.size ≤ maxLen) (hl : 64 < s.size) :
    Calls Try.prog 6 #[.int .i64 n, .int .i64 m, .string s, .slice p len c] w fun e w' => e = .returned (.bool true) ∧ Below w.heap.size w w' := by
  unfold maxLen at hs
  have CH := heads_any w
  go_enter Try.func6, Try.ntmps6
  go_wp2_with fail
  refine CH.mono ?_
  rintro e w2 ⟨rfl, hb2⟩
  clear CH
  go_wp2
  go_ret
  exact ⟨rfl, hb2⟩

set_option maxHeartbeats 1000000 in
set_option maxRecDepth 100000 in
theorem back_long2 (n m : Int) (s : ByteArray) (p : Option Addr) (len c : Nat) (w : World) (hs : s.size ≤ 64) (hl : 1000 < len) (hm : len ≤ maxLen) :
    Calls Try.prog 6 #[.int .i64 n, .int .i64 m, .string s, .slice p len c] w fun e w' => e = .returned (.bool true) ∧ Below w.heap.size w w' := by
  unfold maxLen at hm
  have CH := heads_any w
  go_enter Try.func6, Try.ntmps6
  go_wp2_with fail
  refine CH.mono ?_
  rintro e w2 ⟨rfl, hb2⟩
  clear CH
  go_wp2
  go_ret
  exact ⟨rfl, hb2⟩

theorem str_back (s : ByteArray) : (⟨s.data.toList.toArray⟩ : ByteArray) = s := by
  cases s; simp

theorem own_join {w : World} {B : Nat} {v : Value} {l r : List UInt8} (h : w.ownsRow B 5 1 v (l.length + r.length) (cel l ++ cel r)) : Has w v (l ++ r) := by
  refine own_has (B := B) ?_
  rw [List.length_append, cel_append]
  exact h

theorem own_empty (w : World) (B : Nat) (hB : B ≤ w.heap.size) : (w.alloc (.cells #[] 5)).ownsRow B 5 1 (.slice (some ⟨w.heap.size, 0, none⟩) 0 0) 0 [] :=
  World.ownsRow_made w #[] 0 hB (Nat.zero_le _) rfl

/-- 'append(buf, xs...)', buf the call's own, xs whatever slice: nil or not. -/
theorem wpList_append_any {P : Program} {w : World} {ops : Array Oper} {rest : List Oper} {o : Oper} {a : Act} {Q : Exit → Act → World → Prop} (hgd : o.guard = none) (s x : Operand) (t : TypeId)
    (ho : o.op = .call { callee := .builtin .append, args := #[s, x], argTypes := #[t, t] })
    (base : Nat) (e : TypeId) (i : TypeInfo) (z : Value) (size bytes : Nat) (ht : P.underlying t = some (.slice e)) (hi : P.info? e = some i) (hz : i.zero = some z)
    (hsize : i.size = size) (hby : i.bytes = bytes) (hzs : z.cells.size = size) (hsz : 0 < size)
    (v : Value) (n : Nat) (xs : List Value) (hs : a.eval s = v) (hown : w.ownsRow base e size v n xs)
    (p : Option Addr) (m c : Nat) (news : List Value) (hx : a.eval x = .slice p m c) (hpc : p = none → m = 0 ∧ c = 0) (hl : news.length = m * size) (hnews : ∀ ad, p = some ad → ∀ j u, news[j]? = some u → w.cell? (ad.add j) = some u) (h1 : ∀ u ∈ news, u.oneCell' = true)
    (h63 : n + m ≤ maxLen) (hbytes : (n + m) * bytes ≤ 140737488355328) (hbase : base ≤ w.heap.size)
    (h : ∀ v' w', w'.ownsRow base e size v' (n + m) (xs ++ news) → w.grownBy w' v.ownBlock → wpList P ops Q rest (a.put o.dst v') w') : wpList P ops Q (o :: rest) a w := by
  cases p with
  | some ad => exact wpList_append_own w hgd s x t ho base e i z size bytes ht hi hz hsize hby hzs hsz v n xs hs hown ad m c news hx hl (hnews ad rfl) h1 h63 hbytes hbase fun v' w' h2 h3 _ => h v' w' h2 h3
  | none =>
    obtain ⟨rfl, rfl⟩ := hpc rfl
    have hn : news = [] := List.eq_nil_of_length_eq_zero (by simpa using hl)
    subst hn
    exact wpList_append_own_none hgd s x t ho base e i size ht hi v n xs hs hown hx (h v w (by simpa using hown) (World.grownBy.refl _ _))

set_option maxHeartbeats 2000000 in
set_option maxRecDepth 100000 in
theorem back_ok (n m : Int) (s : ByteArray) (a : Option Addr) (c : Nat) (r : List UInt8) (w : World) (hn0 : -9223372036854775808 ≤ n) (hn1 : n ≤ 9223372036854775807) (hm0 : -9223372036854775808 ≤ m) (hm1 : m ≤ 9223372036854775807)
    (hs : s.size ≤ 64) (hv : Has w (.slice a r.length c) r) (hl : r.length ≤ 1000) :
    Calls Try.prog 6 #[.int .i64 n, .int .i64 m, .string s, .slice a r.length c] w fun e w' => e = .returned (.bool true) ∧ Below w.heap.size w w' := by
  obtain ⟨i0, hi, hz0, hz1, hz2⟩ := info_parts info5
  have HV : Hid (Has w (.slice a r.length c) r) := hv
  clear hv
  have C1 := put_has _ [] n w (nil_has w) (by simp) hn0 hn1
  rw [List.nil_append] at C1
  obtain ⟨hl1, hl2⟩ := enc_len n hn0 hn1
  go_enter Try.func6, Try.ntmps6
  go_wp2_with fail
  refine C1.mono ?_
  rintro e w1 ⟨v1, rfl, hv1, hb1⟩
  clear C1
  have C2 := puttext_has v1 _ s w1 hv1 (by omega) (by omega)
  go_wp2_with fail
  refine C2.mono ?_
  rintro e w2 ⟨v2, rfl, hv2, hb2⟩
  clear C2 hv1
  replace hb2 := below_on hb1 hb2
  clear hb1
  obtain ⟨hl3, hl4⟩ := enc_len s.size (by omega) (by omega)
  have hsl := size_list s
  obtain ⟨p2, c2, rfl, hr2, _, hlc2, hcm2⟩ := hv2
  obtain ⟨b2, o2, rfl, _⟩ := hr2 (by simp only [List.length_append]; omega)
  have HR2 : Hid (Row w2 (some ⟨b2, o2, none⟩) (Num.enc n ++ (Num.enc s.size ++ s.data.toList))) := hr2
  have hlb : (Num.enc n ++ (Num.enc s.size ++ s.data.toList)).length ≤ 200 := by simp only [List.length_append]; omega
  clear hr2 hsl hl3 hl4 hl1 hl2
  generalize hB : Num.enc n ++ (Num.enc s.size ++ s.data.toList) = B at HR2 hlb hlc2 ⊢
  have HB : Hid (Num.enc n ++ (Num.enc s.size ++ s.data.toList) = B) := hB
  clear hB
  go_wp2_with (at_builtin; refine wpList_append_own _ rfl _ _ 22 rfl w.heap.size 5 i0 (.int .u8 0) 1 1 Try.underlying22 hi hz0 hz1 hz2 rfl (by decide) _ _ _ rfl (own_empty w2 _ hb2.size) ⟨b2, o2, none⟩ B.length c2 (cel B) rfl ?c0 ?c1 (cel_one B) ?c3 ?c4 ?c5 ?_)
  case c0 => rw [cel_length, Nat.mul_one]
  case c1 => exact (HR2.out.later ((Below.refl _ _).alloc (Nat.le_refl _) _)).cells _ rfl
  case c3 => unfold maxLen; omega
  case c4 => omega
  case c5 => have := hb2.size; simp; omega
  intro v3 w3 hown3 hg3 _
  have hb3 : Below w.heap.size w w3 := (hb2.alloc hb2.size _).grown hg3 (by have := hb2.size; simp; omega) (fun k hk => by cases hk; exact hb2.size)
  clear hg3 HR2 hb2
  have HV3 : Hid (Has w3 (.slice a r.length c) r) := HV.out.later hb3
  have HPC : Hid (a = none → r.length = 0 ∧ c = 0) := by
    obtain ⟨p', c', e, _, hpc, _, _⟩ := HV3.out
    cases e; exact hpc
  have HCE : Hid (∀ ad, a = some ad → ∀ j u, (cel r)[j]? = some u → w3.cell? (ad.add j) = some u) := by
    obtain ⟨p', c', e, hr, _, _, _⟩ := HV3.out
    cases e; exact hr.cells
  go_wp2_with (at_builtin; refine wpList_append_any rfl _ _ 22 rfl w.heap.size 5 i0 (.int .u8 0) 1 1 Try.underlying22 hi hz0 hz1 hz2 rfl (by decide) _ _ _ rfl hown3 a r.length c (cel r) rfl HPC.out ?c0 HCE.out (cel_one r) ?c3 ?c4 ?c5 ?_)
  case c0 => rw [cel_length, Nat.mul_one]
  case c3 => unfold maxLen; omega
  case c4 => omega
  case c5 => exact hb3.size
  intro v4 w4 hown4 hg4
  have hb4 : Below w.heap.size w w4 := hb3.grown hg4 hb3.size (fun k hk => (hown3.lt k hk).1)
  have hv4 := own_join hown4
  clear hown4 hg4 hown3 HV3 HPC HCE hb3
  have C5 : Calls Try.prog 10 #[v4] w4 fun e w' => ∃ v', e = .returned (.tuple #[.int .i64 n, v', .int .i64 0]) ∧ Has w' v' (Num.enc s.size ++ (s.data.toList ++ r)) ∧ Below w4.heap.size w4 w' := by
    have eB : B ++ r = Num.enc n ++ (Num.enc s.size ++ (s.data.toList ++ r)) := by rw [← HB.out]; simp only [List.append_assoc]
    have h := get_has v4 (B ++ r) (Lib.zigzag n) (Num.enc n).length w4 hv4 (by rw [List.length_append]; omega) (by rw [eB]; exact Num.rd_enc _ _ (Lib.zigzag_lt hn0 hn1))
    rw [Num.unz_zigzag, eB, List.drop_left] at h
    exact h
  clear HB hv4
  go_wp2_with fail
  refine C5.mono ?_
  rintro e w5 ⟨v5, rfl, hv5, hb5⟩
  replace hb5 := below_on hb4 hb5
  clear C5 hb4
  have C6 : Calls Try.prog 12 #[v5] w5 fun e w' => ∃ v', e = .returned (.tuple #[.string s, v', .int .i64 0]) ∧ Has w' v' r ∧ Below w5.heap.size w5 w' := by
    have hsl := size_list s
    obtain ⟨hl3, hl4⟩ := enc_len s.size (by omega) (by omega)
    have h := gettext_has v5 (Num.enc s.size ++ (s.data.toList ++ r)) (Lib.zigzag s.size) (Num.enc s.size).length s.size w5 hv5 (by simp only [List.length_append]; omega) (Num.rd_enc _ _ (Lib.zigzag_lt (by omega) (by omega))) (Num.unz_zigzag _) hs (by rw [List.drop_left, List.length_append]; omega)
    rw [List.drop_left, ← hsl, List.take_left, List.drop_left, str_back] at h
    exact h
  clear hv5
  go_wp2_with fail
  refine C6.mono ?_
  rintro e w6 ⟨v6, rfl, hv6, hb6⟩
  replace hb6 := below_on hb5 hb6
  clear C6 hb5
  have C7 := dec_any n w6 hn0 hn1
  go_wp2_with fail
  refine C7.mono ?_
  rintro e w7 ⟨t, rfl, ht, hb7⟩
  replace hv6 := hv6.later hb7
  replace hb7 := below_on hb6 hb7
  clear C7 hb6
  have C8 := parse_any t w7 (by rw [← size_list, ht]; have := Lib.itoa_length_le n hn0 hn1; unfold maxLen; omega)
  rw [ht, prs_itoa n hn0 hn1] at C8
  clear ht
  go_wp2_with fail
  refine C8.mono ?_
  rintro e w8 ⟨rfl, hb8⟩
  replace hv6 := hv6.later hb8
  replace hb8 := below_on hb7 hb8
  clear C8 hb7
  have C9 := put_new n w8 hn0 hn1 _ rfl
  go_wp2_with fail
  refine C9.mono ?_
  rintro e w9 ⟨v9, rfl, hv9, hb9⟩
  replace hv6 := hv6.later hb9
  replace hb9 := below_on hb8 hb9
  clear C9 hb8
  have C10 := put_new m w9 hm0 hm1 _ rfl
  go_wp2_with fail
  refine C10.mono ?_
  rintro e w10 ⟨v10, rfl, hv10, hb10⟩
  replace hv6 := hv6.later hb10
  replace hv9 := hv9.later hb10
  replace hb10 := below_on hb9 hb10
  clear C10 hb9
  have C11 := bytes_has v9 v10 _ _ w10 hv9 hv10
  rw [enc_inj n m hn0 hn1 hm0 hm1] at C11
  clear hv9 hv10
  go_wp2_with fail
  refine C11.mono ?_
  rintro e w11 ⟨rfl, hw⟩
  rw [hw]
  clear C11 hw
  have C12 := bytes_same v6 _ r w10 hv6 (HV.out.later hb10)
  have CH := heads_any w10
  clear hv6 HV
  have hnn : (n == n) = true := beq_self_eq_true n
  have hss : (s.toList == s.toList) = true := beq_self_eq_true _
  cases hq : (n == m)
  · go_wp2_with fail
    refine C12.mono ?_
    rintro e w12 ⟨rfl, hw⟩
    rw [hw]
    clear C12 hw
    go_wp2_with fail
    refine CH.mono ?_
    rintro e w13 ⟨rfl, hb13⟩
    clear CH
    go_wp2
    go_ret
    exact ⟨rfl, below_on hb10 hb13⟩
  · go_wp2_with fail
    refine C12.mono ?_
    rintro e w12 ⟨rfl, hw⟩
    rw [hw]
    clear C12 hw
    go_wp2_with fail
    refine CH.mono ?_
    rintro e w13 ⟨rfl, hb13⟩
    clear CH
    go_wp2
    go_ret
    exact ⟨rfl, below_on hb10 hb13⟩

theorem back_walk (n m : Int) (s : ByteArray) (a : Option Addr) (c : Nat) (r : List UInt8) (w : World) (hn0 : -9223372036854775808 ≤ n) (hn1 : n ≤ 9223372036854775807) (hm0 : -9223372036854775808 ≤ m) (hm1 : m ≤ 9223372036854775807)
    (hs : s.size ≤ maxLen) (hv : Has w (.slice a r.length c) r) (hl : r.length ≤ maxLen) :
    Calls Try.prog 6 #[.int .i64 n, .int .i64 m, .string s, .slice a r.length c] w fun e w' => e = .returned (.bool true) ∧ Below w.heap.size w w' := by
  rcases Nat.lt_or_ge 64 s.size with h | h
  · exact back_long1 n m s a r.length c w hs h
  · rcases Nat.lt_or_ge 1000 r.length with h2 | h2
    · exact back_long2 n m s a r.length c w h h2 hl
    · exact back_ok n m s a c r w hn0 hn1 hm0 hm1 h hv h2

end Go.Proofs.Ytcimpibendechaa
