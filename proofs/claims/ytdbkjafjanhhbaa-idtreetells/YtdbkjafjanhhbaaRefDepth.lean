/- The function Depth of the document's answer. -/
import Derived.Test.YtdbkjafjanhhbaaRefCheck
namespace Go.Proofs.Ytdbkjafjanhhbaa
open Go.RowKit

set_option maxHeartbeats 4000000 in
set_option maxRecDepth 100000 in
theorem refDepth_node (most d0 d1 : Nat) (g o c : Nat) (n0 : Int) (p0 : Option Addr) (l0 c0 : Nat) (n1 : Int) (p1 : Option Addr) (l1 c1 : Nat) (w : World) (t0 : Tat w g o n0 p0 l0 c0) (t1 : Tat w g (o + 2) n1 p1 l1 c1) (hm0 : 0 < most) (hm : most ≤ 100) (b0 : d0 ≤ 100) (b1 : d1 ≤ 100)
    (r0 : ∀ w1, Below w.heap.size w w1 → Calls Try.prog 33 #[TV n0 p0 l0 c0, .int .i64 (most - 1 : Nat)] w1 fun e w' => e = .returned (.int .i64 d0) ∧ Below w1.heap.size w1 w')
    (r1 : ∀ w1, Below w.heap.size w w1 → Calls Try.prog 33 #[TV n1 p1 l1 c1, .int .i64 (most - 1 : Nat)] w1 fun e w' => e = .returned (.int .i64 d1) ∧ Below w1.heap.size w1 w') :
    Calls Try.prog 33 #[TV 0 (some ⟨g, o, none⟩) 2 c, .int .i64 most] w fun e w' => e = .returned (.int .i64 (max (1 + d0) (1 + d1) : Nat)) ∧ Below w.heap.size w w' := by
  obtain ⟨h1, hbel⟩ := one_box w 0 (some ⟨g, o, none⟩) 2 c _ rfl
  have es : ((most - 1 : Nat) : Int) = (most : Int) - 1 := by omega
  rw [es] at r0 r1
  have hmi : (0 : Int) < (most : Int) := by omega
  clear es
  go_enter Try.func33, Try.ntmps33
  go_wp2
  go_loopw [5, 6] (fun vd vi wr => ∃ k d : Nat, vi = .int .i64 k ∧ vd = .int .i64 d ∧ k ≤ 2 ∧ Hid (d = if k = 0 then 0 else if k = 1 then 1 + d0 else max (1 + d0) (1 + d1)) ∧ d ≤ 101 ∧ Bx wr w.heap.size 0 (some ⟨g, o, none⟩) 2 c ∧ Below w.heap.size w wr) (fun _ vi _ => 2 - (intOf vi).toNat)
  case atStart => exact ⟨0, 0, rfl, rfl, by omega, rfl, by omega, h1, hbel⟩
  case round =>
    clear h1 hbel
    obtain ⟨k, d, rfl, rfl, hk, HD, hd, h1, hbel⟩ := hrel
    have g1 := h1.cell1
    by_cases hlt : k < 2
    · obtain ⟨n, p, l, cc, dk, ta, rr, hdk, HS⟩ : ∃ n p l cc dk, Tat w g (o + k * 2) n p l cc ∧ (∀ w1, Below w.heap.size w w1 → Calls Try.prog 33 #[TV n p l cc, .int .i64 ((most : Int) - 1)] w1 fun e w' => e = .returned (.int .i64 (dk : Nat)) ∧ Below w1.heap.size w1 w') ∧ dk ≤ 100 ∧ Hid ((k = 0 ∧ dk = d0) ∨ (k = 1 ∧ dk = d1)) := by
        match k, hlt with
        | 0, _ => exact ⟨n0, p0, l0, c0, d0, by simpa using t0, r0, b0, .inl ⟨rfl, rfl⟩⟩
        | 1, _ => exact ⟨n1, p1, l1, c1, d1, by simpa using t1, r1, b1, .inr ⟨rfl, rfl⟩⟩
      replace ta := ta.later hbel
      replace rr := rr _ hbel
      have hi1 : (k : Int) < 2 := by omega
      have HN : Hid (max d (1 + dk) = if k + 1 = 0 then 0 else if k + 1 = 1 then 1 + d0 else max (1 + d0) (1 + d1)) := by
        show _ = _
        rw [HD.out]
        rcases HS.out with ⟨rfl, rfl⟩ | ⟨rfl, rfl⟩
        · simp
        · simp
      have hn : max d (1 + dk) ≤ 101 := by omega
      clear t0 t1 r0 r1 HD HS b0 b1
      go_wp2_with (refine load_t _ rfl rfl _ _ rfl ta ?_)
      refine rr.mono ?_
      rintro e w2 ⟨rfl, hb1⟩
      replace h1 := h1.later hb1
      replace hbel := below_on hbel hb1
      clear hb1 rr ta g1
      by_cases hc : d ≤ 1 + dk
      · have em : max d (1 + dk) = 1 + dk := by omega
        rw [em] at HN
        have hci : (d : Int) ≤ 1 + (dk : Int) := by omega
        clear hc em hn
        go_wp2
        go_roundw
        case rel => exact ⟨k + 1, 1 + dk, by simp, (by simp; omega), by omega, HN, by omega, h1, hbel⟩
        case measure => simp [intOf]; omega
      · have em : max d (1 + dk) = d := by omega
        rw [em] at HN
        have hci : ¬ (d : Int) ≤ 1 + (dk : Int) := by omega
        clear hc em hn
        go_wp2
        go_roundw
        case rel => exact ⟨k + 1, d, by simp, (by simp; omega), by omega, HN, by omega, h1, hbel⟩
        case measure => simp [intOf]; omega
    · have hk : k = 2 := by omega
      subst hk
      have HF : Hid (d = max (1 + d0) (1 + d1)) := HD.out
      clear HD
      go_wp2
      go_ret
      exact ⟨by rw [HF.out]; rfl, hbel⟩

set_option maxHeartbeats 4000000 in
set_option maxRecDepth 100000 in
theorem refDepth_zero (n : Int) (p : Option Addr) (l c : Nat) (w : World) (most : Nat) (h : l = 0 ∨ most = 0) (hl : l ≤ 2) :
    Calls Try.prog 33 #[TV n p l c, .int .i64 most] w fun e w' => e = .returned (.int .i64 0) ∧ Below w.heap.size w w' := by
  obtain ⟨h1, hbel⟩ := one_box w n p l c _ rfl
  have HH : Hid (l = 0 ∨ most = 0) := h
  clear h
  go_enter Try.func33, Try.ntmps33
  go_wp2
  go_loopw [5, 6] (fun vd vi wr => vi = .int .i64 0 ∧ vd = .int .i64 0 ∧ Bx wr w.heap.size n p l c ∧ Below w.heap.size w wr) (fun _ _ _ => 0)
  case atStart => exact ⟨rfl, rfl, h1, hbel⟩
  case round =>
    clear h1 hbel
    obtain ⟨rfl, rfl, h1, hbel⟩ := hrel
    have g1 := h1.cell1
    by_cases h0 : l = 0
    · subst h0
      clear HH
      go_wp2
      go_ret
      exact ⟨rfl, hbel⟩
    · obtain rfl : most = 0 := by
        rcases HH.out with h | h
        · exact absurd h h0
        · exact h
      have hi : (0 : Int) < (l : Int) := by omega
      clear HH h0
      go_wp2
      go_ret
      exact ⟨rfl, hbel⟩

theorem refDepth_any : ∀ (x : ID) (most : Nat) (n : Int) (p : Option Addr) (l c : Nat) (w : World), Is w x (TV n p l c) → most ≤ 100 →
    Calls Try.prog 33 #[TV n p l c, .int .i64 most] w fun e w' => e = .returned (.int .i64 (min (depth x) most : Nat)) ∧ Below w.heap.size w w'
  | ⟨.inl b⟩, most, n, p, l, c, w, h, hm => by
    obtain ⟨_, rfl⟩ := is_parts h
    have := refDepth_zero n p 0 c w most (.inl rfl) (by omega)
    rw [show min (depth (.leaf b)) most = 0 by simp [depth]]
    exact this
  | ⟨.inr (x, y)⟩, most, n, p, l, c, w, ⟨g, o, c', n0, p0, l0, c0, n1, p1, l1, c1, e, t0, t1, hx, hy⟩, hm => by
    simp at e
    obtain ⟨rfl, rfl, rfl, rfl⟩ := e
    by_cases h0 : most = 0
    · subst h0
      have := refDepth_zero 0 (some ⟨g, o, none⟩) 2 c w 0 (.inr rfl) (by omega)
      rw [show min (depth (.node x y)) 0 = 0 by simp]
      exact this
    · have := refDepth_node most (min (depth x) (most - 1)) (min (depth y) (most - 1)) g o c n0 p0 l0 c0 n1 p1 l1 c1 w t0 t1 (by omega) hm (by omega) (by omega)
        (fun w1 hb => refDepth_any x (most - 1) n0 p0 l0 c0 w1 (hx.later hb) (by omega)) (fun w1 hb => refDepth_any y (most - 1) n1 p1 l1 c1 w1 (hy.later hb) (by omega))
      rw [show min (depth (.node x y)) most = max (1 + min (depth x) (most - 1)) (1 + min (depth y) (most - 1)) by simp only [depth]; omega]
      exact this
end Go.Proofs.Ytdbkjafjanhhbaa
