/- The function Get of package num: where the bytes begin with a number, the number and what is behind it, in new memory; else the error that the plain function rd tells, and nothing besides. -/
import Derived.Test.YtcimpibendechaaText
import Derived.Deep.RegionHeld3
namespace Go.Proofs.Ytcimpibendechaa
open Go.RowKit

set_option maxHeartbeats 400000 in
set_option maxRecDepth 100000 in
theorem get_bad (p : Option Addr) (c : Nat) (l : List UInt8) (er : Int) (w : World) (hrow : Row w p l) (hl : l.length ≤ 100000) (hrd : Num.rd l = (0, 0, er)) (he : (er != 0) = true) :
    Calls Try.prog 10 #[.slice p l.length c] w fun e w' => e = .returned (.tuple #[.int .i64 0, .slice none 0 0, .int .i64 er]) ∧ w' = w := by
  have HC := read_any p c l w hrow (by omega)
  rw [hrd] at HC
  clear hrow hrd
  go_enter Try.func10, Try.ntmps10
  go_wp2_with fail
  refine HC.mono ?_
  rintro e w1 ⟨rfl, hw⟩
  rw [hw]
  clear HC hw
  unfold rdV
  go_wp2
  go_ret3
  exact ⟨rfl, rfl⟩

/-- 'append(nil, xs...)' as a step of a region that draws. -/
theorem step_append_nil {P : Program} {ops : Array Oper} {o : Oper} {a : Act} {w : World} {K : Act → World → Prop} {Q : Exit → Act → World → Prop} {E : Prop}
    (hg : o.guard = none) (s x : Operand) (t : TypeId) (hop : o.op = Op.call { callee := Callee.builtin Builtin.append, args := #[s, x], argTypes := #[t, t] })
    (B : Nat) (hB : B = w.heap.size) (e : TypeId) (i : TypeInfo) (z : Value) (size bytes : Nat) (h1 : P.underlying t = some (.slice e)) (h2 : P.info? e = some i) (h3 : i.zero = some z) (h4 : i.size = size) (h5 : i.bytes = bytes) (h6 : z.cells.size = size) (h7 : 0 < size)
    (hs : a.eval s = .slice none 0 0)
    (ad : Addr) (m c : Nat) (news : List Value) (hx : a.eval x = .slice (some ad) m c) (hn : news.length = m * size) (hc : ∀ j u, news[j]? = some u → w.cell? (ad.add j) = some u) (h1c : ∀ u ∈ news, u.oneCell' = true)
    (b1 : m ≤ maxLen) (b2 : m * bytes ≤ 140737488355328)
    (hK : ∀ v' w', w'.ownsRow B e size v' m news → w.grownBy w' none → K (a.put o.dst v') w') :
    if Region.wanted o (yielded ops a.tmps) = true then Oper.wp P o a w K Q else E := by
  have hw : Region.wanted o (yielded ops a.tmps) = true := by simp [Region.wanted, hg]
  rw [if_pos hw]
  subst hB
  obtain ⟨v', w', hrun, r1, r2, _⟩ := run_append_own (P := P) w w.heap.size t o.type e i z size bytes h1 h2 h3 h4 h5 h6 h7 (.slice none 0 0) 0 [] (World.ownsRow_nil w _ e size) ad m c news hn hc h1c (by omega) (by rw [Nat.zero_add]; exact b2) (Nat.le_refl _)
  simp only [Nat.zero_add, List.nil_append] at r1
  unfold Oper.wp
  simp [execOp, hop, resolve, invoke, builtin, hs, hx, hrun, Result.andThen]
  exact hK v' w' r1 r2

set_option maxHeartbeats 1000000 in
set_option maxRecDepth 100000 in
theorem get_ok (b o c : Nat) (l : List UInt8) (x z : Nat) (w : World) (hrow : Row w (some ⟨b, o, none⟩) l) (hl : l.length ≤ 100000) (hlc : l.length ≤ c) (hcm0 : c ≤ maxLen) (hrd : Num.rd l = (x, z, 0)) (hx : x < 18446744073709551616) (hz1 : 1 ≤ z) (hz : z ≤ l.length) :
    Calls Try.prog 10 #[.slice (some ⟨b, o, none⟩) l.length c] w fun e w' => ∃ v, e = .returned (.tuple #[.int .i64 (Num.unz x), v, .int .i64 0]) ∧ w'.ownsRow w.heap.size 5 1 v (l.drop z).length (cel (l.drop z)) ∧ Below w.heap.size w w' := by
  obtain ⟨i0, hi, hz0, hi1, hi2⟩ := info_parts info5
  have HC := read_any _ c l w hrow (by omega)
  rw [hrd] at HC
  obtain ⟨A, hA, hnews⟩ : ∃ A, (if c = z then some (⟨b, o, none⟩ : Addr) else some ⟨b, o + z, none⟩) = some A ∧ ∀ j u, (cel (l.drop z))[j]? = some u → w.cell? (A.add j) = some u := by
    by_cases h : c = z
    · refine ⟨⟨b, o, none⟩, by rw [if_pos h], fun j u hj => ?_⟩
      have : l.drop z = [] := List.drop_eq_nil_of_le (by omega)
      rw [this] at hj; simp [cel] at hj
    · refine ⟨⟨b, o + z, none⟩, by rw [if_neg h], fun j u hj => ?_⟩
      have hlt : j < l.length - z := by
        have := (List.getElem?_eq_some_iff.1 hj).1
        simpa [cel] using this
      have := hrow.cells _ rfl (z + j) u (by
        rw [← hj]; simp [cel])
      rw [Addr.add_lit] at this ⊢
      rw [Nat.add_assoc]; exact this
  have HN : Hid (∀ j u, (cel (l.drop z))[j]? = some u → w.drew.cell? (A.add j) = some u) := hnews
  have HL : Hid ((cel (l.drop z)).length = (l.length - z) * 1) := by
    show _ = _
    rw [cel_length, List.length_drop, Nat.mul_one]
  have HL2 : Hid ((l.drop z).length = l.length - z) := List.length_drop
  have HM1 : Hid (l.length - z ≤ maxLen) := by
    show _ ≤ _
    unfold maxLen; omega
  have HM2 : Hid ((l.length - z) * 1 ≤ 140737488355328) := by
    show _ ≤ _
    omega
  have hcm := hcm0
  unfold maxLen at hcm
  clear hcm0
  clear hrow hrd hnews
  go_enter Try.func10, Try.ntmps10
  go_wp2_with fail
  refine HC.mono ?_
  rintro e w1 ⟨rfl, hw⟩
  rw [hw]
  clear HC hw
  unfold rdV
  go_wp2
  go_region_held3 (fun w' => True) (trivial)
    (first | (refine step_append_nil (by rfl) _ _ 22 (by rfl) w.heap.size (by rfl) 5 i0 (.int .u8 0) 1 1 Try.underlying22 hi hz0 hi1 hi2 (by rfl) (by decide) (by rfl) A (l.length - z) (c - z) (cel (l.drop z)) (by rfl) HL.out HN.out (cel_one _) HM1.out HM2.out ?_; intro v' w' hown hgrow) | (go_at_call 24; refine (unfold_any _ _ hx).mono ?_; rintro e w' ⟨rfl, rfl⟩))
  go_wp2
  go_ret3
  exact ⟨_, rfl, by rw [HL2.out]; exact hown, ((Below.refl _ _).drew).grown hgrow (Nat.le_refl _) (fun k hk => by cases hk)⟩

/-- Slicing 'v[n:]' of what holds bytes. -/
theorem Row.drop {w : World} {b o c : Nat} {l : List UInt8} (h : Row w (some ⟨b, o, none⟩) l) (hlc : l.length ≤ c) (n : Nat) (hn : n ≤ l.length) : ∃ A, (if c = n then some (⟨b, o, none⟩ : Addr) else some ⟨b, o + n, none⟩) = some A ∧ Row w (some A) (l.drop n) := by
  by_cases h2 : c = n
  · refine ⟨⟨b, o, none⟩, by rw [if_pos h2], fun hp => ?_⟩
    rw [List.length_drop] at hp; omega
  · refine ⟨⟨b, o + n, none⟩, by rw [if_neg h2], fun hp => ⟨b, o + n, rfl, fun j hj => ?_⟩⟩
    rw [List.length_drop] at hp hj
    obtain ⟨b', o', e, hc⟩ := h (by omega)
    cases e
    rw [Nat.add_assoc, hc (n + j) (by omega)]
    simp

theorem Row.take {w : World} {p : Option Addr} {l : List UInt8} (h : Row w p l) (n : Nat) : Row w p (l.take n) := by
  intro hp
  rw [List.length_take] at hp
  obtain ⟨b, o, e, hc⟩ := h (by omega)
  refine ⟨b, o, e, fun j hj => ?_⟩
  rw [List.length_take] at hj
  rw [hc j (by omega)]
  simp

theorem own_form {w : World} {B : Nat} {v : Value} {l : List UInt8} (h : w.ownsRow B 5 1 v l.length (cel l)) : (v = .slice none 0 0 ∧ l = []) ∨ ∃ g c, v = .slice (some ⟨g, 0, none⟩) l.length c ∧ Row w (some ⟨g, 0, none⟩) l ∧ l.length ≤ c ∧ c ≤ maxLen := by
  obtain ⟨p, c, hv, hr, hpc, hlc, hcm⟩ := own_has h
  rcases h.2 with ⟨rfl, h0⟩ | ⟨g, cap, cur, rfl, hbg, hg, hnc, hcm, hcs, htake⟩
  · exact Or.inl ⟨rfl, List.eq_nil_of_length_eq_zero h0⟩
  · cases hv
    exact Or.inr ⟨g, _, rfl, hr, hlc, hcm⟩

set_option maxHeartbeats 1000000 in
set_option maxRecDepth 100000 in
theorem gettext_ok (b o c : Nat) (l : List UInt8) (x z n : Nat) (w : World) (hrow : Row w (some ⟨b, o, none⟩) l) (hl : l.length ≤ 100000) (hlc : l.length ≤ c) (hcm : c ≤ maxLen) (hrd : Num.rd l = (x, z, 0)) (hx : x < 18446744073709551616) (hz1 : 1 ≤ z) (hz : z ≤ l.length)
    (hn : Num.unz x = (n : Int)) (h64 : n ≤ 64) (hnl : n ≤ (l.drop z).length) :
    Calls Try.prog 12 #[.slice (some ⟨b, o, none⟩) l.length c] w fun e w' => ∃ v, e = .returned (.tuple #[.string ⟨((l.drop z).take n).toArray⟩, v, .int .i64 0]) ∧ Has w' v ((l.drop z).drop n) ∧ Below w.heap.size w w' := by
  have HC := get_ok b o c l x z w hrow hl hlc hcm hrd hx hz1 hz
  rw [hn] at HC
  have hrl : (l.drop z).length ≤ 100000 := by rw [List.length_drop]; omega
  clear hrow hrd hn hlc hcm
  generalize l.drop z = r at HC hnl hrl ⊢
  go_enter Try.func12, Try.ntmps12
  go_wp2_with fail
  refine HC.mono ?_
  rintro e w1 ⟨v, rfl, hown, hbel⟩
  clear HC
  rcases own_form hown with ⟨rfl, rfl⟩ | ⟨g, d, rfl, hr, hrd, hdm⟩
  · obtain rfl : n = 0 := by simpa using hnl
    clear hown
    have hcv : (convert 22 9 (.slice none 0 0)).run Try.prog w1.drew = .ok (.string ⟨#[]⟩) w1.drew := run_string (w := w1.drew) (p := none) (l := []) (fun h => by cases h) 0
    go_wp2
    go_region_held3 (fun w' => (convert 22 9 (.slice none 0 0)).run Try.prog w' = .ok (.string ⟨#[]⟩) w') (exact hcv) (fail)
    go_wp2
    go_ret3
    exact ⟨_, rfl, ⟨none, 0, rfl, (fun h => by cases h), (fun _ => ⟨rfl, rfl⟩), Nat.le_refl _, Nat.zero_le _⟩, hbel.drew⟩
  · clear hown
    have hrt := run_string (w := w1.drew) (hr.take n) d
    rw [List.length_take, Nat.min_eq_left hnl] at hrt
    obtain ⟨A, hA, hRA⟩ := hr.drop hrd n hnl
    rw [Nat.zero_add] at hA
    have HRA : Hid (Row w1 (some A) (r.drop n)) := hRA
    have HL : Hid ((r.drop n).length = r.length - n) := List.length_drop
    clear hRA hr
    have hi1 : (0 : Int) ≤ (n : Int) := by omega
    have hi2 : (n : Int) ≤ (d : Int) := by omega
    have hi3 : (n : Int) ≤ (r.length : Int) := by omega
    have hi4 : (r.length : Int) ≤ (d : Int) := by omega
    unfold maxLen at hdm
    go_wp2
    go_region_held3 (fun w' => (convert 22 9 (.slice (some ⟨g, 0, none⟩) n d)).run Try.prog w' = .ok (.string ⟨(r.take n).toArray⟩) w') (exact hrt) (fail)
    go_wp2
    go_ret3
    exact ⟨_, rfl, ⟨some A, d - n, by rw [HL.out]; rfl, HRA.out, (fun h => by cases h), by rw [HL.out]; omega, by unfold maxLen; omega⟩, hbel.drew⟩

end Go.Proofs.Ytcimpibendechaa
