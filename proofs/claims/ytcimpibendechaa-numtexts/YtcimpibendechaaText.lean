/- The functions PutText of package num, and Bytes of the document's answer: a text's length and its bytes are laid behind what is given, in new memory; two slices of bytes are the same just if their bytes are. -/
import Derived.Test.YtcimpibendechaaPut
import Derived.Laws.BytesArg
namespace Go.Proofs.Ytcimpibendechaa
open Go.RowKit

/-- A SLICE THAT HOLDS THESE BYTES. -/
def Has (w : World) (v : Value) (l : List UInt8) : Prop := ∃ p c, v = .slice p l.length c ∧ Row w p l ∧ (p = none → l.length = 0 ∧ c = 0) ∧ l.length ≤ c ∧ c ≤ maxLen

theorem own_has {w : World} {B : Nat} {v : Value} {l : List UInt8} (h : w.ownsRow B 5 1 v l.length (cel l)) : Has w v l := by
  rcases h.2 with ⟨rfl, h0⟩ | ⟨g, cap, cur, rfl, hbg, hg, hnc, hcm, hcs, htake⟩
  · exact ⟨none, 0, by rw [h0], fun hp => by omega, fun _ => ⟨h0, rfl⟩, by omega, by omega⟩
  · refine ⟨some ⟨g, 0, none⟩, cap, rfl, fun _ => ⟨g, 0, rfl, fun j hj => ?_⟩, (fun hh => by cases hh), hnc, hcm⟩
    have := h.cells (g := g) rfl j (.int .u8 (l[j]).toNat) (by simp [cel, List.getElem?_eq_getElem hj])
    rw [Addr.add_lit] at this
    exact this

theorem Row.later {w w' : World} {p : Option Addr} {l : List UInt8} (h : Row w p l) (hb : Below w.heap.size w w') : Row w' p l := by
  intro hp
  obtain ⟨b, o, hp2, hc⟩ := h hp
  refine ⟨b, o, hp2, fun j hj => ?_⟩
  have := hc j hj
  rw [← this]
  exact hb.cell (World.block_lt_of_cell? w _ this)

theorem Has.later {w w' : World} {v : Value} {l : List UInt8} (h : Has w v l) (hb : Below w.heap.size w w') : Has w' v l := by
  obtain ⟨p, c, hv, hr, hpc, hlc, hcm⟩ := h
  exact ⟨p, c, hv, hr.later hb, hpc, hlc, hcm⟩

theorem own_later {w w' : World} {B : Nat} {v : Value} {n : Nat} {xs : List Value} (h : w.ownsRow B 5 1 v n xs) (hb : Below w.heap.size w w') : w'.ownsRow B 5 1 v n xs := by
  refine ⟨h.1, ?_⟩
  rcases h.2 with h2 | ⟨g, cap, cur, hv, hbg, hg, r⟩
  · exact Or.inl h2
  · have hlt : g < w.heap.size := by
      rcases Nat.lt_or_ge g w.heap.size with hh | hh
      · exact hh
      · rw [Array.getElem?_eq_none hh] at hg; cases hg
    exact Or.inr ⟨g, cap, cur, hv, hbg, by rw [hb.block g hlt]; exact hg, r⟩

/-- The string of these bytes. -/
theorem run_string {w : World} {p : Option Addr} {l : List UInt8} (h : Row w p l) (c : Nat) :
    (convert 22 9 (.slice p l.length c)).run Try.prog w = .ok (.string ⟨l.toArray⟩) w := by
  rcases Nat.eq_zero_or_pos l.length with hz | hz
  · obtain rfl : l = [] := List.eq_nil_of_length_eq_zero hz
    rw [run_convert_bytes_string w 22 9 5 _ _ c Try.underlying22 Try.underlying5 Try.underlying9]
    cases p <;> simp [Conv.bytesToString, loadCells]
    all_goals rfl
  · obtain ⟨b, o, rfl, hc⟩ := h hz
    have := run_convert_bytes_arg (P := Try.prog) w 22 5 Try.underlying22 Try.underlying5 b o l.length c (l.map fun x => (x.toNat : Int)) (by simp) (fun i hi => by
      rw [hc i hi]; simp [List.getD, List.getElem?_eq_getElem hi]) 9 Try.underlying9
    rw [this]
    congr 2
    apply ByteArray.ext
    apply Array.toList_inj.1
    rw [strOfNums_data, List.map_map]
    show _ = l
    conv => rhs; rw [← List.map_id l]
    apply List.map_congr_left
    intro x _
    simp

set_option maxHeartbeats 400000 in
set_option maxRecDepth 100000 in
theorem bytes_any (p q : Option Addr) (c d : Nat) (l m : List UInt8) (w : World) (hl : Row w p l) (hm : Row w q m) :
    Calls Try.prog 14 #[.slice p l.length c, .slice q m.length d] w fun e w' => e = .returned (.bool (l == m)) ∧ w' = w := by
  have h1 := run_string hl c
  have h2 := run_string hm d
  clear hl hm
  go_enter Try.func14, Try.ntmps14
  go_wp2
  go_ret
  exact ⟨rfl, rfl⟩

set_option maxHeartbeats 1000000 in
set_option maxRecDepth 100000 in
theorem puttext_any (p : Option Addr) (c : Nat) (l : List UInt8) (s : ByteArray) (w : World) (hrow : Row w p l) (hpc : p = none → l.length = 0 ∧ c = 0) (hl : l.length ≤ 100000) (hs : s.size ≤ 100000) :
    Calls Try.prog 16 #[.slice p l.length c, .string s] w fun e w' => ∃ v, e = .returned v ∧ w'.ownsRow w.heap.size 5 1 v (l ++ (Num.enc s.size ++ s.data.toList)).length (cel (l ++ (Num.enc s.size ++ s.data.toList))) ∧ Below w.heap.size w w' := by
  obtain ⟨i0, hi, hz0, hz1, hz2⟩ := info_parts info5
  have HC := put_any p c l (s.size : Int) w hrow hpc hl (by omega) (by omega)
  have h9 : (Num.enc (s.size : Int)).length ≤ 10 := Lib.uvarint_length64 (Lib.zigzag_lt (by omega) (by omega))
  clear hpc hrow
  go_enter Try.func16, Try.ntmps16
  go_wp2_with fail
  refine HC.mono ?_
  rintro e w1 ⟨v, rfl, hown, hbel⟩
  clear HC
  go_wp2_with (at_builtin; refine Lib.wpList_append_own_string _ rfl _ _ 22 9 rfl w.heap.size 5 i0 Try.underlying22 Try.underlying9 hi hz0 hz1 hz2 _ _ _ rfl hown s rfl ?c1 ?c2 ?c3 ?_)
  case c1 => unfold maxLen; simp only [List.length_append]; omega
  case c2 => simp only [List.length_append]; omega
  case c3 => have := hbel.size; omega
  intro v' w2 hown' hgrow _
  have R1 : Below w.heap.size w w2 := hbel.grown hgrow hbel.size (fun k hk => (hown.lt k hk).1)
  have R2 : w2.ownsRow w.heap.size 5 1 v' (l ++ (Num.enc s.size ++ s.data.toList)).length (cel (l ++ (Num.enc s.size ++ s.data.toList))) := by
    have e1 : (l ++ (Num.enc s.size ++ s.data.toList)).length = l.length + (Num.enc s.size).length + s.size := by
      simp only [List.length_append, size_list]; omega
    have e2 : cel (l ++ (Num.enc s.size ++ s.data.toList)) = cel (l ++ Num.enc s.size) ++ Lib.strCells s := by
      rw [← List.append_assoc, cel_append]; rfl
    rw [e1, e2]
    exact hown'
  clear hown hown' hgrow hbel
  go_wp2
  go_ret
  exact ⟨_, rfl, R2, R1⟩

end Go.Proofs.Ytcimpibendechaa
