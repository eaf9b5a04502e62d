import Derived.Test.YtfiamiflkfdhoaaP3
import Derived.Test.YtfiamiflkfdhoaaP1
/- CheckOp of package ops. -/
namespace Go.Proofs.Ytfiamiflkfdhoaa
open Go.RowKit

/-- What checkRoster tells. -/
def crost (key field : ByteArray) (inner act n : Int) (text : ByteArray) (p s i : Int) : Bool :=
  wi act 1 2 && wi n 1 12 && (decide (key = noS) && decide (field = noS) && decide (inner = 0) && decide (text = noS) && z3 p s i)
set_option maxHeartbeats 1000000 in
set_option maxRecDepth 100000 in
theorem checkRoster_any (k : Int) (key field : ByteArray) (inner act n : Int) (text : ByteArray) (p s i : Int) (w : World) : Calls Try.prog 68 #[OV k key field inner act n text p s i] w (Tells (.bool (crost key field inner act n text p s i)) w) := by
  obtain ⟨z, HZ⟩ : ∃ z, Hid (crost key field inner act n text p s i = z) := ⟨_, rfl⟩
  rw [HZ.out]
  go_enter Try.func68, Try.ntmps68
  go_wp2
  all_goals
    go_ret
    refine tells_bool ?_ ?_
    focus
      have hz := HZ.out
      unfold crost z3 wi at hz
      rw [← hz]
      clear hz HZ
      first | rfl | grind [tl_nil]
    repeat refine bel_alloc ?_ _
    exact Below.refl _ _
/-- What checkRef tells. -/
def isRef (p s i : Int) : Bool := wi i 1 16 && (z2 p s || (wi p 1 12 && wi s 1 1048576))
def cref (d act p s i : Int) : Bool := if d = 5 ∧ act = 4 then z3 p s i || isRef p s i else if d = 5 ∧ act = 2 then isRef p s i else z3 p s i
set_option maxHeartbeats 2000000 in
set_option maxRecDepth 100000 in
theorem checkRef_any (k : Int) (key field : ByteArray) (inner act n : Int) (text : ByteArray) (p s i : Int) (w : World) : Calls Try.prog 69 #[OV k key field inner act n text p s i] w (Tells (.bool (cref (dk k inner act) act p s i)) w) := by
  obtain ⟨d, HD⟩ : ∃ d, Hid (dk k inner act = d) := ⟨_, rfl⟩
  rw [HD.out]
  obtain ⟨z, HZ⟩ : ∃ z, Hid (cref d act p s i = z) := ⟨_, rfl⟩
  rw [HZ.out]
  go_enter Try.func69, Try.ntmps69
  go_wp2_with fail
  refine (asked_any _ _ _ _ _ _ _ _ _ _ _).mono ?_
  rintro e w1 ⟨rfl, rfl⟩
  go_wp2_with fail
  refine (deedOf_any _ _ _ _ _ _ _ _ _).mono ?_
  rintro e w1 ⟨rfl, rfl⟩
  rw [HD.out]
  clear HD
  go_wp2
  all_goals
    go_ret
    refine tells_bool ?_ ?_
    focus
      have hz := HZ.out
      unfold cref isRef z3 z2 wi at hz
      rw [← hz]
      clear hz HZ
      first | rfl | grind
    repeat refine bel_alloc ?_ _
    exact Below.refl _ _
/-- What CheckOp tells. -/
def co (k : Int) (key field : ByteArray) (inner act n : Int) (text : ByteArray) (p s i : Int) : Bool :=
  if k = 7 then crost key field inner act n text p s i else cref (dk k inner act) act p s i && cu k key field inner act n text 0
set_option maxHeartbeats 1000000 in
set_option maxRecDepth 100000 in
theorem checkOp_any (k : Int) (key field : ByteArray) (inner act n : Int) (text : ByteArray) (p s i : Int) (w : World) : Calls Try.prog 57 #[OV k key field inner act n text p s i] w (Tells (.bool (co k key field inner act n text p s i)) w) := by
  unfold co
  by_cases h7 : k = 7
  · rw [if_pos h7]
    have C := fun w => checkRoster_any k key field inner act n text p s i w
    generalize crost key field inner act n text p s i = z at C ⊢
    subst h7
    go_enter Try.func57, Try.ntmps57
    go_wp2_with fail
    refine (C _).mono ?_
    rintro e w1 ⟨rfl, hb1⟩
    go_wp2_with fail
    go_ret
    exact ⟨rfl, below_on (bel_alloc (Below.refl _ _) _) hb1⟩
  · rw [if_neg h7]
    have C1 := fun w => checkRef_any k key field inner act n text p s i w
    have C2 := fun w => checkUpdate_any k key field inner act n text 0 w
    generalize cref (dk k inner act) act p s i = x at C1 ⊢
    generalize cu k key field inner act n text 0 = y at C2 ⊢
    have R1 := rw_new w 45 #[.int .i64 k, .string key, .string field, .int .i64 inner, .int .i64 act, .int .i64 n, .string text, .int .i64 p, .int .i64 s, .int .i64 i]
    go_enter Try.func57, Try.ntmps57
    go_wp2_with fail
    refine (C1 _).mono ?_
    rintro e w1 ⟨rfl, hb1⟩
    replace R1 := R1.later hb1
    have hbel := below_on (bel_alloc (Below.refl w.heap.size w) _) hb1
    clear C1 hb1
    cases x
    · go_wp2_with fail
      go_ret
      exact ⟨rfl, hbel⟩
    · go_wp2_with (refine load_r 45 _ rfl rfl _ rfl R1 Try.underlying45 rfl size45 ?_)
      refine (asked_any _ _ _ _ _ _ _ _ _ _ _).mono ?_
      rintro e w2 ⟨rfl, rfl⟩
      go_wp2_with fail
      refine (C2 _).mono ?_
      rintro e w2 ⟨rfl, hb2⟩
      go_wp2_with fail
      go_ret
      exact ⟨rfl, below_on (bel_alloc (bel_alloc hbel _) _) hb2⟩
end Go.Proofs.Ytfiamiflkfdhoaa
/- CheckUpdate of the document's answer. -/
namespace Go.Proofs.Ytfiamiflkfdhoaa
open Go.RowKit

theorem leaves_bool {x y : Bool} {w : World} (h : x = y) : Leaves (.bool y) w (.returned (.bool x)) w := ⟨by rw [h], rfl⟩
def fit (k act n : Int) : Bool :=
  if k = 1 then decide (act = 1) && wi n (-1073741824) 1073741824
  else if k = 2 ∨ k = 3 then decide (act = 3) && decide (n = 0)
  else if k = 4 then (decide (act = 1) || decide (act = 2)) && decide (n = 0)
  else if k = 5 then (decide (act = 4) || decide (act = 2)) && decide (n = 0)
  else false
def txt (k act : Int) (s : ByteArray) : Bool := if k = 1 ∨ act = 5 ∨ (k = 5 ∧ act = 2) then decide (s = noS) else decide ((s.size : Int) ≤ 64)
set_option maxHeartbeats 1000000 in
set_option maxRecDepth 100000 in
theorem fits_any (k act n : Int) (w : World) : Calls Try.prog 76 #[.int .i64 k, .int .i64 act, .int .i64 n] w (Leaves (.bool (fit k act n)) w) := by
  obtain ⟨z, HZ⟩ : ∃ z, Hid (fit k act n = z) := ⟨_, rfl⟩
  rw [HZ.out]
  go_enter Try.func76, Try.ntmps76
  go_wp2
  all_goals
    go_ret
    refine leaves_bool ?_
    have hz := HZ.out
    unfold fit wi at hz
    rw [← hz]
    clear hz HZ
    first | rfl | grind
set_option maxHeartbeats 1000000 in
set_option maxRecDepth 100000 in
theorem texts_any (k act : Int) (s : ByteArray) (w : World) : Calls Try.prog 77 #[.int .i64 k, .int .i64 act, .string s] w (Leaves (.bool (txt k act s)) w) := by
  obtain ⟨z, HZ⟩ : ∃ z, Hid (txt k act s = z) := ⟨_, rfl⟩
  rw [HZ.out]
  go_enter Try.func77, Try.ntmps77
  go_wp2
  all_goals
    go_ret
    refine leaves_bool ?_
    have hz := HZ.out
    unfold txt at hz
    rw [← hz]
    clear hz HZ
    first | rfl | grind [tl_nil]
end Go.Proofs.Ytfiamiflkfdhoaa
/- CheckUpdate of the document's answer. -/
namespace Go.Proofs.Ytfiamiflkfdhoaa
open Go.RowKit

set_option maxRecDepth 100000 in
theorem named_l (s : ByteArray) (w : World) : Calls Try.prog 75 #[.string s] w (Leaves (.bool (wi s.size 1 64)) w) := by
  unfold wi
  go_enter Try.func75, Try.ntmps75
  go_wp2
  all_goals
    go_ret
    refine leaves_bool ?_
    first | (simp_all; done) | grind
set_option maxRecDepth 100000 in
theorem places_l (leaf act : Int) (w : World) : Calls Try.prog 65 #[.int .i64 leaf, .int .i64 act] w (Leaves (.bool (decide (leaf = 5) && !decide (act = 5))) w) := by
  go_enter Try.func65, Try.ntmps65
  go_wp2
  all_goals
    go_ret
    refine leaves_bool ?_
    first | (simp_all; done) | grind
/-- The leaf's kind, and what shape tells. -/
def lf (k inner : Int) : Int := if k = 6 then inner else k
def shp (k : Int) (key field : ByteArray) (inner act n : Int) (text : ByteArray) : Bool :=
  wi k 1 6 && wi key.size 1 64 && (if k = 6 then wi field.size 1 64 && wi inner 1 5 && (if act = 5 then decide (n = 0) && decide (text = noS) else fit inner act n && txt inner act text) else decide (field = noS) && decide (inner = 0) && (fit k act n && txt k act text))
/-- What shape answers. -/
def ShPost (z : Bool) (y : Int) (w : World) (e : Ending) (w' : World) : Prop := ∃ l b, e = .returned (.tuple #[.int .i64 l, .bool b]) ∧ b = z ∧ (b = true → l = y) ∧ w' = w
set_option maxHeartbeats 1000000 in
set_option maxRecDepth 100000 in
theorem shape_any (k : Int) (key field : ByteArray) (inner act n : Int) (text : ByteArray) (w : World) : Calls Try.prog 64 #[.int .i64 k, .string key, .string field, .int .i64 inner, .int .i64 act, .int .i64 n, .string text] w (ShPost (shp k key field inner act n text) (lf k inner) w) := by
  obtain ⟨z, HZ⟩ : ∃ z, Hid (shp k key field inner act n text = z) := ⟨_, rfl⟩
  obtain ⟨y, HY⟩ : ∃ y, Hid (lf k inner = y) := ⟨_, rfl⟩
  rw [HZ.out, HY.out]
  go_enter Try.func64, Try.ntmps64
  go_wp2_with (first | (refine (named_l _ _).mono ?_; rintro e w1 ⟨rfl, rfl⟩) | (refine (fits_any _ _ _ _).mono ?_; rintro e w1 ⟨rfl, rfl⟩) | (refine (texts_any _ _ _ _).mono ?_; rintro e w1 ⟨rfl, rfl⟩))
  all_goals
    go_ret2
    refine ⟨_, _, rfl, ?_, ?_, rfl⟩
    focus
      have hz := HZ.out
      unfold shp at hz
      rw [← hz]
      clear hz HZ HY
      first | rfl | grind [tl_nil, wi]
    focus
      have hz := HY.out
      unfold lf at hz
      rw [← hz]
      clear hz HZ HY
      first | rfl | grind

set_option maxHeartbeats 1000000 in
/-- The document's CheckUpdate and the program's are one. -/
theorem cu_eq (k : Int) (key field : ByteArray) (inner act n : Int) (text : ByteArray) (pl : Int) :
    (shp k key field inner act n text && (if lf k inner = 5 ∧ act ≠ 5 then wi pl 0 1048576 else decide (pl = 0))) = cu k key field inner act n text pl := by
  have hs : text = noS → (text.size : Int) ≤ 64 := fun h => by subst h; decide
  unfold cu shp lf uOk uN uT uP dk fit txt wi
  by_cases hk : 1 ≤ k ∧ k ≤ 6
  · have hk' : k = 1 ∨ k = 2 ∨ k = 3 ∨ k = 4 ∨ k = 5 ∨ k = 6 := by omega
    rcases hk' with rfl | rfl | rfl | rfl | rfl | rfl
    case inr.inr.inr.inr.inr =>
      by_cases hi : 1 ≤ inner ∧ inner ≤ 5
      · have hi' : inner = 1 ∨ inner = 2 ∨ inner = 3 ∨ inner = 4 ∨ inner = 5 := by omega
        rcases hi' with rfl | rfl | rfl | rfl | rfl <;> grind
      · grind
    all_goals grind
  · grind

end Go.Proofs.Ytfiamiflkfdhoaa
/- CheckOp of the document's answer. -/
namespace Go.Proofs.Ytfiamiflkfdhoaa
open Go.RowKit

set_option maxHeartbeats 1000000 in
/-- The document's CheckOp and the program's are one. -/
theorem co_eq (k : Int) (key field : ByteArray) (inner act n : Int) (text : ByteArray) (p s i : Int) :
    (if k = 7 then crost key field inner act n text p s i else shp k key field inner act n text && (if lf k inner = 5 ∧ act ≠ 5 then isRef p s i || (z3 p s i && decide (act = 4)) else z3 p s i)) = co k key field inner act n text p s i := by
  unfold co
  by_cases h7 : k = 7
  · rw [if_pos h7, if_pos h7]
  · rw [if_neg h7, if_neg h7, ← cu_eq]
    have e : (if lf k inner = 5 ∧ act ≠ 5 then wi 0 0 1048576 else decide ((0 : Int) = 0)) = true := by split <;> rfl
    rw [e, Bool.and_true]
    cases hs : shp k key field inner act n text
    · simp
    · rw [Bool.true_and, Bool.and_true]
      have h2 : fit (lf k inner) act n = true ∨ act = 5 := by
        unfold shp at hs
        unfold lf
        grind
      have h3 : lf k inner = 5 → act = 4 ∨ act = 2 ∨ act = 5 := by
        intro h
        rw [h] at h2
        unfold fit at h2
        grind
      unfold cref dk lf at *
      grind

set_option maxHeartbeats 1000000 in
set_option maxRecDepth 100000 in
theorem refOp_any (k : Int) (key field : ByteArray) (inner act n : Int) (text : ByteArray) (p s i : Int) (w : World) : Calls Try.prog 50 #[OV k key field inner act n text p s i] w (Tells (.bool (co k key field inner act n text p s i)) w) := by
  rw [← co_eq]
  obtain ⟨z, HZ⟩ : ∃ z, Hid ((if k = 7 then crost key field inner act n text p s i else shp k key field inner act n text && (if lf k inner = 5 ∧ act ≠ 5 then isRef p s i || (z3 p s i && decide (act = 4)) else z3 p s i)) = z) := ⟨_, rfl⟩
  rw [HZ.out]
  by_cases h7 : k = 7
  · have HZ2 : Hid (crost key field inner act n text p s i = z) := by
      have := HZ.out
      rw [if_pos h7] at this
      exact this
    clear HZ
    subst h7
    go_enter Try.func50, Try.ntmps50
    go_wp2
    all_goals
      go_ret
      refine tells_bool ?_ ?_
      focus
        have hz := HZ2.out
        unfold crost z3 wi at hz
        rw [← hz]
        clear hz HZ2
        first | rfl | grind [tl_nil]
      repeat refine bel_alloc ?_ _
      exact Below.refl _ _
  · have HZ2 : Hid ((shp k key field inner act n text && (if lf k inner = 5 ∧ act ≠ 5 then isRef p s i || (z3 p s i && decide (act = 4)) else z3 p s i)) = z) := by
      have := HZ.out
      rw [if_neg h7] at this
      exact this
    clear HZ
    go_enter Try.func50, Try.ntmps50
    go_wp2_with fail
    refine (shape_any _ _ _ _ _ _ _ _).mono ?_
    rintro e w1 ⟨l, b, rfl, hb, hl, rfl⟩
    rw [← hb] at HZ2
    clear hb
    cases b
    · clear hl
      go_wp2
      go_ret
      refine tells_bool ?_ (bel_alloc (bel_alloc (Below.refl _ _) _) _)
      have hz := HZ2.out
      rw [← hz]
      rfl
    · obtain rfl := hl rfl
      clear hl
      generalize lf k inner = y at HZ2 ⊢
      go_wp2
      all_goals
        go_ret
        refine tells_bool ?_ ?_
        focus
          have hz := HZ2.out
          unfold isRef z3 z2 wi at hz
          rw [← hz]
          clear hz HZ2
          first | rfl | grind
        repeat refine bel_alloc ?_ _
        exact Below.refl _ _
end Go.Proofs.Ytfiamiflkfdhoaa
/- checkSeen of package ops, rest of the document's answer. -/
namespace Go.Proofs.Ytfiamiflkfdhoaa
open Go.RowKit

/-- All of a row, with their places. -/
def allB (f : Nat → O → Bool) : Nat → List O → Bool
  | _, [] => true
  | k, o :: l => f k o && allB f (k + 1) l
theorem allB_iff (f : Nat → O → Bool) : ∀ (l : List O) (k : Nat), allB f k l = true ↔ ∀ i (h : i < l.length), f (k + i) l[i] = true
  | [], _ => by simp [allB]
  | o :: l, k => by
    rw [allB, Bool.and_eq_true, allB_iff f l (k + 1)]
    constructor
    · rintro ⟨h1, h2⟩ i hi
      match i with
      | 0 => simpa using h1
      | i + 1 =>
        have := h2 i (by simpa using hi)
        simpa [Nat.add_assoc, Nat.add_comm 1 i] using this
    · intro h
      refine ⟨by have h0 := h 0 (by simp); simp only [Nat.add_zero, List.getElem_cons_zero] at h0; exact h0, fun i hi => ?_⟩
      have := h (i + 1) (by simpa using hi)
      simpa [Nat.add_assoc, Nat.add_comm 1 i] using this
/-- An op of a transaction that may be, at its place. -/
def gd (p s : Int) (v : List Int) (i : Nat) (x : O) : Bool := co x.k x.key x.field x.inner x.act x.n x.text x.p x.s x.i && (z3 x.p x.s x.i || bf x.p x.s x.i p s v ((i : Int) + 1))
/-- What checkSeen tells. -/
def sn (p s : Int) (v : List Int) (t : Int) (l : List O) : Bool := chk v && wi t 1 1099511627776 && decide (l.length ≤ 16) && allB (gd p s v) 0 l
section
variable {p s : Int} {v : List Int} {k : Nat} {x : O}
theorem gd_ref (ha : co x.k x.key x.field x.inner x.act x.n x.text x.p x.s x.i = true) (hb : (decide (x.p = 0) && decide (x.s = 0) && decide (x.i = 0)) = true) : gd p s v k x = true := by
  unfold gd z3
  rw [ha, hb]
  rfl
theorem gd_bef (ha : co x.k x.key x.field x.inner x.act x.n x.text x.p x.s x.i = true) (hc : bf x.p x.s x.i p s v ((k : Int) + 1) = true) : gd p s v k x = true := by
  unfold gd
  rw [ha, hc, Bool.or_true]
  rfl
theorem gd_not (ha : co x.k x.key x.field x.inner x.act x.n x.text x.p x.s x.i = false) : gd p s v k x = false := by
  unfold gd
  rw [ha, Bool.false_and]
theorem gd_none (hb : (decide (x.p = 0) && decide (x.s = 0) && decide (x.i = 0)) = false) (hc : bf x.p x.s x.i p s v ((k : Int) + 1) = false) : gd p s v k x = false := by
  unfold gd z3
  rw [hb, hc, Bool.or_false, Bool.and_false]
theorem all_not {l : List O} {z : Bool} (HZ : Hid (allB (gd p s v) 0 l = z)) (hlt : k < l.length) (HX : Hid (l[k] = x)) (h : gd p s v k x = false) : Hid (z = false) := by
  show z = false
  have hz := HZ.out
  cases z
  · rfl
  · exfalso
    have hz2 := (allB_iff _ l 0).1 hz k hlt
    rw [Nat.zero_add, HX.out, h] at hz2
    cases hz2
end
theorem ok_next {p s : Int} {v : List Int} {l : List O} {k : Nat} (H : Hid (∀ i (h : i < l.length), i < k → gd p s v i l[i] = true)) (hlt : k < l.length) (h : gd p s v k l[k] = true) : Hid (∀ i (h : i < l.length), i < k + 1 → gd p s v i l[i] = true) := by
  show ∀ i (h : i < l.length), i < k + 1 → gd p s v i l[i] = true
  intro i hi hik
  by_cases e : i = k
  · subst e; exact h
  · exact H.out i hi (by omega)
theorem op_ref {w : World} {b : Nat} {x : O} (h : Rw w b 45 #[.int .i64 x.k, .string x.key, .string x.field, .int .i64 x.inner, .int .i64 x.act, .int .i64 x.n, .string x.text, .int .i64 x.p, .int .i64 x.s, .int .i64 x.i]) : w.rangeAt b 7 [.int .i64 x.p, .int .i64 x.s, .int .i64 x.i] := h.range 7 _ fun j u hu => by
  match j with
  | 0 => simpa using hu
  | 1 => simpa using hu
  | 2 => simpa using hu
  | j + 3 => simp at hu
set_option maxRecDepth 100000 in
theorem within_l (n lo hi : Int) (w : World) : Calls Try.prog 55 #[.int .i64 n, .int .i64 lo, .int .i64 hi] w (Leaves (.bool (wi n lo hi)) w) := by
  unfold wi
  go_enter Try.func55, Try.ntmps55
  go_wp2
  all_goals
    go_ret
    refine leaves_bool ?_
    first | (simp_all; done) | grind
end Go.Proofs.Ytfiamiflkfdhoaa
/- checkSeen of package ops. -/
namespace Go.Proofs.Ytfiamiflkfdhoaa
open Go.RowKit

set_option maxHeartbeats 16000000 in
set_option maxRecDepth 100000 in
theorem seen_any (p s : Int) (v : List Int) (t : Int) (sl : Value) (l : List O) (w : World) (hv : v.length = 13) (ho : OHas w sl l) : Calls Try.prog 34 #[TxV p s v t sl] w (Tells (.bool (sn p s v t l)) w) := by
  obtain ⟨q, c, rfl, hm, hr⟩ := ho
  have HR : Hid (0 < l.length → ∃ g o, q = some ⟨g, o, none⟩ ∧ ∀ i (h : i < l.length), w.rangeAt g (o + i * 10) l[i].cells) := hr
  clear hr
  have hml := maxLen_lt hm
  have C0 := fun w => check_any v w hv
  obtain ⟨r, Hr⟩ := hid_ex (chk v)
  obtain ⟨y, HY⟩ := hid_ex (wi t 1 1099511627776)
  rw [Hr.out] at C0
  obtain ⟨z, HZ⟩ := hid_ex (allB (gd p s v) 0 l)
  obtain ⟨m, HM⟩ := hid_ex (decide (l.length ≤ 16))
  have Cw := fun w => within_l t 1 1099511627776 w
  rw [HY.out] at Cw
  have R := rw_new w 34 (txc p s v t (.slice q l.length c)).toArray
  have hbel : Below w.heap.size w (w.alloc (.cells (txc p s v t (.slice q l.length c)).toArray 34)) := bel_alloc (Below.refl _ _) _
  have z25 := info26 hv
  generalize hW : w.alloc (.cells (txc p s v t (.slice q l.length c)).toArray 34) = w0 at R hbel
  unfold sn
  rw [Hr.out, HY.out, HZ.out, HM.out]
  go_enter Try.func34, Try.ntmps34
  go_wp2_with (first | refine load_m 26 _ rfl rfl _ _ rfl (tx_vec R) Try.underlying26 rfl z25 ?_)
  refine (C0 _).mono ?_
  rintro e w1 ⟨rfl, hb1⟩
  clear hW
  replace R := R.later hb1
  replace hbel := below_on hbel hb1
  clear hb1
  have c15 := tx_time R hv
  have c16 := tx_ops R hv
  cases r
  · go_wp2_with fail
    go_ret
    exact ⟨rfl, hbel⟩
  · cases y
    · go_wp2_with (go_at_call 55; refine (Cw _).mono ?_; rintro e w2 ⟨rfl, rfl⟩)
      go_ret
      exact ⟨rfl, hbel⟩
    · cases m
      case true =>
        have h16 : l.length ≤ 16 := of_decide_eq_true HM.out
        have h16' : ¬ (16 : Int) < (l.length : Int) := by omega
        go_wp2_with (go_at_call 55; refine (Cw _).mono ?_; rintro e w2 ⟨rfl, rfl⟩)
        clear Cw C0 Hr HY HM z25 h16'
        go_loopw [24] (fun vi wr => ∃ k : Nat, vi = .int .i64 k ∧ k ≤ l.length ∧ Hid (∀ i (h : i < l.length), i < k → gd p s v i l[i] = true) ∧ Rw wr w.heap.size 34 (txc p s v t (.slice q l.length c)).toArray ∧ Below w.heap.size w wr) (fun vi _ => l.length - (intOf vi).toNat)
        case atStart => exact ⟨0, rfl, by omega, (show ∀ i (h : i < l.length), i < 0 → _ from fun i _ h => by omega), R, hbel⟩
        case round =>
          clear R c15 c16 hbel
          obtain ⟨k, rfl, hk, HV, R, hbel⟩ := hrel
          by_cases hlt : k < l.length
          · have hlt' : (k : Int) < (l.length : Int) := by omega
            obtain ⟨g, o, rfl, hd⟩ := HR.out (by omega)
            have d := range_later (hd k hlt) hbel
            clear HR hd
            have hk16 : k < 16 := by omega
            obtain ⟨x, HX⟩ := hid_ex l[k]
            rw [HX.out] at d
            have z35 : (Try.prog.info? 45).map (·.size) = some x.cells.length := size45
            have C1 := fun w => checkOp_any x.k x.key x.field x.inner x.act x.n x.text x.p x.s x.i w
            have C2 := fun w => before_any x.p x.s x.i p s v t (.slice (some ⟨g, o, none⟩) l.length c) ((k : Int) + 1) w hv
            have E := fun w => eq_mark w x.p x.s x.i 0 0 0
            obtain ⟨a, HA⟩ := hid_ex (co x.k x.key x.field x.inner x.act x.n x.text x.p x.s x.i)
            obtain ⟨b, HB⟩ := hid_ex (decide (x.p = 0) && decide (x.s = 0) && decide (x.i = 0))
            obtain ⟨f, HC⟩ := hid_ex (bf x.p x.s x.i p s v ((k : Int) + 1))
            clear h16 hml hm hk
            rw [HA.out] at C1
            rw [HB.out] at E
            rw [HC.out] at C2
            have R3 := rw_new wr 45 #[.int .i64 x.k, .string x.key, .string x.field, .int .i64 x.inner, .int .i64 x.act, .int .i64 x.n, .string x.text, .int .i64 x.p, .int .i64 x.s, .int .i64 x.i]
            replace R := R.alloc (.cells #[.int .i64 x.k, .string x.key, .string x.field, .int .i64 x.inner, .int .i64 x.act, .int .i64 x.n, .string x.text, .int .i64 x.p, .int .i64 x.s, .int .i64 x.i] 45)
            replace hbel := bel_alloc hbel (.cells #[.int .i64 x.k, .string x.key, .string x.field, .int .i64 x.inner, .int .i64 x.act, .int .i64 x.n, .string x.text, .int .i64 x.p, .int .i64 x.s, .int .i64 x.i] 45)
            have zr : (Try.prog.info? 43).map (·.size) = some [Value.int .i64 x.p, Value.int .i64 x.s, Value.int .i64 x.i].length := size43
            generalize hW : wr.alloc (.cells #[.int .i64 x.k, .string x.key, .string x.field, .int .i64 x.inner, .int .i64 x.act, .int .i64 x.n, .string x.text, .int .i64 x.p, .int .i64 x.s, .int .i64 x.i] 45) = w2 at R R3 hbel
            go_wp2_with (first | refine load_m 45 _ rfl rfl _ _ rfl d Try.underlying45 rfl z35 ?_ | refine load_r 45 _ rfl rfl _ rfl R3 Try.underlying45 rfl size45 ?_)
            refine (C1 _).mono ?_
            rintro e w3 ⟨rfl, hb3⟩
            clear hW d C1 z35
            replace R := R.later hb3
            replace R3 := R3.later hb3
            replace hbel := below_on hbel hb3
            clear hb3
            cases a
            · have HF : Hid (z = false) := all_not HZ hlt HX (gd_not HA.out)
              clear HV HX HZ
              clear HA HB HC
              go_wp2_with fail
              go_ret
              exact ⟨by rw [HF.out]; rfl, hbel⟩
            · have dr := op_ref (x := x) R3
              cases b
              · go_wp2_with (first | refine load_m 43 _ rfl rfl _ _ rfl dr Try.underlying43 rfl zr ?_ | refine load_r 34 _ rfl rfl _ rfl R Try.underlying34 rfl (size_tx hv) ?_)
                refine (C2 _).mono ?_
                rintro e w4 ⟨rfl, hb4⟩
                clear C2
                replace R := R.later hb4
                replace R3 := R3.later hb4
                replace hbel := below_on hbel hb4
                clear hb4
                cases f
                · have HF : Hid (z = false) := all_not HZ hlt HX (gd_none HB.out HC.out)
                  clear HV HX HZ
                  clear HA HB HC
                  go_wp2_with fail
                  go_ret
                  exact ⟨by rw [HF.out]; rfl, hbel⟩
                · have HV2 : Hid (∀ i (h : i < l.length), i < k + 1 → gd p s v i l[i] = true) := ok_next HV hlt (by rw [HX.out]; exact gd_bef HA.out HC.out)
                  clear HV HX HZ HA HB HC
                  go_wp2_with fail
                  go_roundw
                  case rel => exact ⟨k + 1, by simp, hlt, HV2, R, hbel⟩
                  case measure => simp [intOf]; omega
              · have HV2 : Hid (∀ i (h : i < l.length), i < k + 1 → gd p s v i l[i] = true) := ok_next HV hlt (by rw [HX.out]; exact gd_ref HA.out HB.out)
                clear HV HX HZ HA HB HC C2 dr
                have q7 : w3.cell? ⟨wr.heap.size, 7, none⟩ = some (.int .i64 x.p) := R3.cell 7
                have q8 : w3.cell? ⟨wr.heap.size, 8, none⟩ = some (.int .i64 x.s) := R3.cell 8
                have q9 : w3.cell? ⟨wr.heap.size, 9, none⟩ = some (.int .i64 x.i) := R3.cell 9
                go_wp2_with fail
                go_roundw
                case rel => exact ⟨k + 1, by simp, hlt, HV2, R, hbel⟩
                case measure => simp [intOf]; omega

          · have hlt' : ¬ (k : Int) < (l.length : Int) := by omega
            have HT : Hid (z = true) := by
              show z = true
              rw [← HZ.out, allB_iff]
              intro i hi
              rw [Nat.zero_add]
              exact HV.out i hi (by omega)
            clear HR HV HZ
            go_wp2_with fail
            go_ret
            exact ⟨by rw [HT.out]; rfl, hbel⟩
      case false =>
        have h16 : ¬ l.length ≤ 16 := of_decide_eq_false HM.out
        have h16' : (16 : Int) < (l.length : Int) := by omega
        go_wp2_with (go_at_call 55; refine (Cw _).mono ?_; rintro e w2 ⟨rfl, rfl⟩)
        go_ret
        exact ⟨rfl, hbel⟩
end Go.Proofs.Ytfiamiflkfdhoaa
/- Calls within a region that draws its order, whose contracts ask for S. Nothing of one program. -/
namespace Go.Proofs.Ytfiamiflkfdhoaa.Calm

section
variable {P : Program} {ops : Array Oper} {S : World → Prop} {K : Act → Prop}
theorem call1s {o : Oper} {l : List Oper} {a : Act} {r x : Value} {f : FuncId} {ts : Array TypeId} {u : Operand} (hw : Region.wanted o (yielded ops a.tmps) = true)
    (ho : o.op = .call { callee := .value (.func f), args := #[u], argTypes := ts }) (hu : a.eval u = x) (hf : enters P f = true) (hs : Stays S)
    (hc : ∀ w, S w → Calls P f #[x] w fun e w' => e = .returned r ∧ RowKit.Below w.heap.size w w')
    (h : calmList P ops S K l (a.put o.dst r)) : calmList P ops S K (o :: l) a :=
  call (f := f) (args := #[x]) hw (fun w => by
    have e : ∀ args, (callFunc f args).run P w = .ok (.enter f args) w := fun args => enters_run hf args w
    subst hu
    unfold execOp
    simp [ho, go_sem, Act.eval, e]) (fun w hS => (hc w hS).mono fun e w' he => ⟨he.1, hs w w' hS he.2⟩) h
theorem call2s {o : Oper} {l : List Oper} {a : Act} {r x y : Value} {f : FuncId} {ts : Array TypeId} {u v : Operand} (hw : Region.wanted o (yielded ops a.tmps) = true)
    (ho : o.op = .call { callee := .value (.func f), args := #[u, v], argTypes := ts }) (hu : a.eval u = x) (hv : a.eval v = y) (hf : enters P f = true) (hs : Stays S)
    (hc : ∀ w, S w → Calls P f #[x, y] w fun e w' => e = .returned r ∧ RowKit.Below w.heap.size w w')
    (h : calmList P ops S K l (a.put o.dst r)) : calmList P ops S K (o :: l) a :=
  call (f := f) (args := #[x, y]) hw (fun w => by
    have e : ∀ args, (callFunc f args).run P w = .ok (.enter f args) w := fun args => enters_run hf args w
    subst hu
    subst hv
    unfold execOp
    simp [ho, go_sem, Act.eval, e]) (fun w hS => (hc w hS).mono fun e w' he => ⟨he.1, hs w w' hS he.2⟩) h
end
end Go.Proofs.Ytfiamiflkfdhoaa.Calm
/- Calls of three and four arguments within a region that draws its order, whose contracts ask for S. Nothing of one program. -/
namespace Go.Proofs.Ytfiamiflkfdhoaa.Calm

section
variable {P : Program} {ops : Array Oper} {S : World → Prop} {K : Act → Prop}
theorem call3s {o : Oper} {l : List Oper} {a : Act} {r x y z : Value} {f : FuncId} {ts : Array TypeId} {u v t : Operand} (hw : Region.wanted o (yielded ops a.tmps) = true)
    (ho : o.op = .call { callee := .value (.func f), args := #[u, v, t], argTypes := ts }) (hu : a.eval u = x) (hv : a.eval v = y) (ht : a.eval t = z) (hf : enters P f = true) (hs : Stays S)
    (hc : ∀ w, S w → Calls P f #[x, y, z] w fun e w' => e = .returned r ∧ RowKit.Below w.heap.size w w')
    (h : calmList P ops S K l (a.put o.dst r)) : calmList P ops S K (o :: l) a :=
  call (f := f) (args := #[x, y, z]) hw (fun w => by
    have e : ∀ args, (callFunc f args).run P w = .ok (.enter f args) w := fun args => enters_run hf args w
    subst hu
    subst hv
    subst ht
    unfold execOp
    simp [ho, go_sem, Act.eval, e]) (fun w hS => (hc w hS).mono fun e w' he => ⟨he.1, hs w w' hS he.2⟩) h
theorem call4s {o : Oper} {l : List Oper} {a : Act} {r x y z q : Value} {f : FuncId} {ts : Array TypeId} {u v t s : Operand} (hw : Region.wanted o (yielded ops a.tmps) = true)
    (ho : o.op = .call { callee := .value (.func f), args := #[u, v, t, s], argTypes := ts }) (hu : a.eval u = x) (hv : a.eval v = y) (ht : a.eval t = z) (hq : a.eval s = q) (hf : enters P f = true) (hs : Stays S)
    (hc : ∀ w, S w → Calls P f #[x, y, z, q] w fun e w' => e = .returned r ∧ RowKit.Below w.heap.size w w')
    (h : calmList P ops S K l (a.put o.dst r)) : calmList P ops S K (o :: l) a :=
  call (f := f) (args := #[x, y, z, q]) hw (fun w => by
    have e : ∀ args, (callFunc f args).run P w = .ok (.enter f args) w := fun args => enters_run hf args w
    subst hu
    subst hv
    subst ht
    subst hq
    unfold execOp
    simp [ho, go_sem, Act.eval, e]) (fun w hS => (hc w hS).mono fun e w' he => ⟨he.1, hs w w' hS he.2⟩) h
end
end Go.Proofs.Ytfiamiflkfdhoaa.Calm
