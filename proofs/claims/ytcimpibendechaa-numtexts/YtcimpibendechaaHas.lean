/- The calls of package num, said of slices that hold given bytes, and the few numbers that every statement looks at first. -/
import Derived.Test.YtcimpibendechaaGet
import Derived.Test.YtcimpibendechaaParse
namespace Go.Proofs.Ytcimpibendechaa
open Go.RowKit

theorem nil_has (w : World) : Has w (.slice none 0 0) [] := ⟨none, 0, rfl, (fun h => by cases h), (fun _ => ⟨rfl, rfl⟩), Nat.le_refl _, Nat.zero_le _⟩

theorem put_has (v : Value) (l : List UInt8) (n : Int) (w : World) (h : Has w v l) (hl : l.length ≤ 100000) (h0 : -9223372036854775808 ≤ n) (h1 : n ≤ 9223372036854775807) :
    Calls Try.prog 8 #[v, .int .i64 n] w fun e w' => ∃ v', e = .returned v' ∧ Has w' v' (l ++ Num.enc n) ∧ Below w.heap.size w w' := by
  obtain ⟨p, c, rfl, hr, hpc, _, _⟩ := h
  exact (put_any p c l n w hr hpc hl h0 h1).mono fun e w' ⟨v', he, ho, hb⟩ => ⟨v', he, own_has ho, hb⟩

theorem puttext_has (v : Value) (l : List UInt8) (s : ByteArray) (w : World) (h : Has w v l) (hl : l.length ≤ 100000) (hs : s.size ≤ 100000) :
    Calls Try.prog 16 #[v, .string s] w fun e w' => ∃ v', e = .returned v' ∧ Has w' v' (l ++ (Num.enc s.size ++ s.data.toList)) ∧ Below w.heap.size w w' := by
  obtain ⟨p, c, rfl, hr, hpc, _, _⟩ := h
  exact (puttext_any p c l s w hr hpc hl hs).mono fun e w' ⟨v', he, ho, hb⟩ => ⟨v', he, own_has ho, hb⟩

theorem get_has (v : Value) (l : List UInt8) (x z : Nat) (w : World) (h : Has w v l) (hl : l.length ≤ 100000) (hrd : Num.rd l = (x, z, 0)) :
    Calls Try.prog 10 #[v] w fun e w' => ∃ v', e = .returned (.tuple #[.int .i64 (Num.unz x), v', .int .i64 0]) ∧ Has w' v' (l.drop z) ∧ Below w.heap.size w w' := by
  obtain ⟨p, c, rfl, hr, _, hlc, hcm⟩ := h
  have h1 := Num.rd_one l (by rw [hrd])
  rw [hrd] at h1
  obtain ⟨_, hx, hz1, hz⟩ := h1
  obtain ⟨b, o, rfl, _⟩ := hr (by simp only at hz1 hz; omega)
  exact (get_ok b o c l x z w hr hl hlc hcm hrd hx hz1 hz).mono fun e w' ⟨v', he, ho, hb⟩ => ⟨v', he, own_has ho, hb⟩

theorem getbad_has (v : Value) (l : List UInt8) (er : Int) (w : World) (h : Has w v l) (hl : l.length ≤ 100000) (hrd : Num.rd l = (0, 0, er)) (he : (er != 0) = true) :
    Calls Try.prog 10 #[v] w fun e w' => e = .returned (.tuple #[.int .i64 0, .slice none 0 0, .int .i64 er]) ∧ w' = w := by
  obtain ⟨p, c, rfl, hr, _, _, _⟩ := h
  exact get_bad p c l er w hr hl hrd he

theorem gettext_has (v : Value) (l : List UInt8) (x z n : Nat) (w : World) (h : Has w v l) (hl : l.length ≤ 100000) (hrd : Num.rd l = (x, z, 0)) (hn : Num.unz x = (n : Int)) (h64 : n ≤ 64) (hnl : n ≤ (l.drop z).length) :
    Calls Try.prog 12 #[v] w fun e w' => ∃ v', e = .returned (.tuple #[.string ⟨((l.drop z).take n).toArray⟩, v', .int .i64 0]) ∧ Has w' v' ((l.drop z).drop n) ∧ Below w.heap.size w w' := by
  obtain ⟨p, c, rfl, hr, _, hlc, hcm⟩ := h
  have h1 := Num.rd_one l (by rw [hrd])
  rw [hrd] at h1
  obtain ⟨_, hx, hz1, hz⟩ := h1
  obtain ⟨b, o, rfl, _⟩ := hr (by simp only at hz1 hz; omega)
  exact gettext_ok b o c l x z n w hr hl hlc hcm hrd hx hz1 hz hn h64 hnl

theorem bytes_has (v u : Value) (l m : List UInt8) (w : World) (hv : Has w v l) (hu : Has w u m) :
    Calls Try.prog 14 #[v, u] w fun e w' => e = .returned (.bool (l == m)) ∧ w' = w := by
  obtain ⟨p, c, rfl, hr, _, _, _⟩ := hv
  obtain ⟨q, d, rfl, hs, _, _, _⟩ := hu
  exact bytes_any p q c d l m w hr hs

/-- A slice that is written out in place. -/
theorem built_has (w : World) (l : List UInt8) (cs : Array Value) (hcs : cs.toList = cel l) (hm : l.length ≤ maxLen) : Has (w.alloc (.cells cs 5)) (.slice (some ⟨w.heap.size, 0, none⟩) l.length l.length) l := by
  refine ⟨some ⟨w.heap.size, 0, none⟩, l.length, rfl, fun _ => ⟨w.heap.size, 0, rfl, fun j hj => ?_⟩, (fun h => by cases h), Nat.le_refl _, hm⟩
  rw [Nat.zero_add, cell_of_row (w.alloc (.cells cs 5)) w.heap.size j cs 5 (0, 0) (heap_alloc_new w _)]
  have : cs[j]? = cs.toList[j]? := by simp
  rw [this, hcs]
  simp [cel, List.getElem?_eq_getElem hj]

theorem e64 : Num.enc 64 = [128, 1] := by
  show Lib.uvarint 128 = _
  rw [Lib.uvarint_big (by decide), Lib.uvarint_small (by decide)]; rfl
theorem e2 : Num.enc ((2 : Nat) : Int) = [4] := by
  show Lib.uvarint 4 = _
  rw [Lib.uvarint_small (by decide)]; rfl
theorem em1 : Num.enc (-1) = [1] := by
  show Lib.uvarint 1 = _
  rw [Lib.uvarint_small (by decide)]; rfl
theorem r1 : Num.rd [128, 1, 4, 97, 98, 1] = (128, 2, 0) := by decide +kernel
theorem r2 : Num.rd [4, 97, 98, 1] = (4, 1, 0) := by decide +kernel
theorem r3 : Num.rd [1] = (1, 1, 0) := by decide +kernel
theorem r4 : Num.rd [128] = (0, 0, 5) := by decide +kernel
theorem r5 : Num.rd [128, 0] = (0, 0, 3) := by decide +kernel
theorem i12 : Lib.itoa (-12) = [45, 49, 50] := by
  show 45 :: Lib.decDigits 12 = _
  rw [Lib.decDigits_two (by decide) (by decide)]; rfl
theorem i7 : Lib.itoa 7 = [55] := by
  show Lib.decDigits 7 = _
  rw [Lib.decDigits_one (by decide)]; rfl
theorem p12 : prs [45, 49, 50] = (-12, true) := by
  have h1 : (pdg (behind [45, 49, 50])).2 = true := by decide +kernel
  have h2 : pn [45, 49, 50] = -12 := by
    unfold pn
    rw [if_pos (by decide +kernel), wrap64_is, wrap64_is]
    decide +kernel
  exact prs_yes h1 h2 i12
theorem p007 : prs [48, 48, 55] = (0, false) := by
  have h1 : (pdg (behind [48, 48, 55])).2 = true := by decide +kernel
  have h2 : pn [48, 48, 55] = 7 := by
    unfold pn
    rw [if_neg (by decide +kernel), wrap64_is]
    decide +kernel
  exact prs_no h1 h2 (by rw [i7]; decide)

end Go.Proofs.Ytcimpibendechaa
