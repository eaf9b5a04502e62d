import Derived.Test.YtjbbmcommnhgeaaGreatPc8
import Derived.Shelf.SlIter.Nil
import Derived.Shelf.SortM.Plain
import Derived.Shelf.SortM.SortNone
import Derived.Test.YtjbbmcommnhgeaaGreatProg
import Derived.Maps.OwnSet
import Derived.Maps.OwnOps
set_option maxRecDepth 100000
set_option maxHeartbeats 8000000
namespace Go.Proofs.YtjbbmcommnhgeaaGreat
open Go.RowKit
def cse {α : Type} (k : Int) (a b c d e : α) : α := if k = 1 then a else if k = 2 ∨ k = 3 then b else if k = 4 then c else if k = 5 then d else e
section
variable {α : Type} (a b c d e : α)
theorem cse1 : cse 1 a b c d e = a := rfl
theorem cse2 : cse 2 a b c d e = b := rfl
theorem cse3 : cse 3 a b c d e = b := rfl
theorem cse4 : cse 4 a b c d e = c := rfl
theorem cse5 : cse 5 a b c d e = d := rfl
theorem cse0 {k : Int} (h : (k == 1) = false ∧ (k == 2) = false ∧ (k == 3) = false ∧ (k == 4) = false ∧ (k == 5) = false) : cse k a b c d e = e := by
 simp only [beq_eq_false_iff_ne] at h
 unfold cse
 simp [h]
end
theorem wk0 {k : Int} (h : (k == 1) = false ∧ (k == 2) = false ∧ (k == 3) = false ∧ (k == 4) = false ∧ (k == 5) = false) : wk k = 97 := cse0 83 85 87 88 97 h
theorem by_kind {p : Int → Prop} (h1 : p 1) (h2 : p 2) (h3 : p 3) (h4 : p 4) (h5 : p 5) (k : Int) (h0 : (k == 1) = false ∧ (k == 2) = false ∧ (k == 3) = false ∧ (k == 4) = false ∧ (k == 5) = false → p k) : p k := by
 rcases kinds k with rfl | rfl | rfl | rfl | rfl | h
 ·exact h1
 ·exact h2
 ·exact h3
 ·exact h4
 ·exact h5
 ·exact h0 h
def invName : Code → Option String
 | .region _ ops _ => ops.toList.findSome? fun o => match o.op with
  | .call c => (match c.callee with
   | .invoke _ n => some n
   | _ => none)
  | _ => none
 | .seq a b => (invName a).or (invName b)
 | .cond _ a b => (invName a).or (invName b)
 | .block _ c => invName c
 | .loop c => invName c
 | .scope c => invName c
 | _ => none
theorem m_check (k : Int) (v : Value) (s : String) (hs : some s = invName (Tryz.f18.body.getD .skip)) : ∀ w, (method 337 (wk k) v s).run Tryz.prog w = .ok (cse k 200 212 221 230 259, v) w := by
 have hi : (invName (Tryz.f18.body.getD .skip)).isSome = true := by kernel_rfl
 obtain rfl : s = (invName (Tryz.f18.body.getD .skip)).get hi := Option.some.inj (hs.trans (Option.some_get hi).symm)
 refine by_kind (p := fun k => ∀ w, (method 337 (wk k) v _).run Tryz.prog w = .ok (cse k 200 212 221 230 259, v) w) (fun _ => by kernel_rfl) (fun _ => by kernel_rfl) (fun _ => by kernel_rfl) (fun _ => by kernel_rfl) (fun _ => by kernel_rfl) k fun h _ => ?_
 rw [wk0 h, cse0 _ _ _ _ _ h]
 kernel_rfl
theorem e_check (k : Int) : Calm.enters Tryz.prog (cse k 200 212 221 230 259) = true := by
 refine by_kind (p := fun k => Calm.enters Tryz.prog (cse k 200 212 221 230 259) = true) (by kernel_rfl) (by kernel_rfl) (by kernel_rfl) (by kernel_rfl) (by kernel_rfl) k fun h => ?_
 rw [cse0 _ _ _ _ _ h]
 kernel_rfl
theorem m_clear (k : Int) (v : Value) (s : String) (hs : some s = invName (Tryz.f15.body.getD .skip)) : ∀ w, (method 337 (wk k) v s).run Tryz.prog w = .ok (cse k 201 213 222 231 260, v) w := by
 have hi : (invName (Tryz.f15.body.getD .skip)).isSome = true := by kernel_rfl
 obtain rfl : s = (invName (Tryz.f15.body.getD .skip)).get hi := Option.some.inj (hs.trans (Option.some_get hi).symm)
 refine by_kind (p := fun k => ∀ w, (method 337 (wk k) v _).run Tryz.prog w = .ok (cse k 201 213 222 231 260, v) w) (fun _ => by kernel_rfl) (fun _ => by kernel_rfl) (fun _ => by kernel_rfl) (fun _ => by kernel_rfl) (fun _ => by kernel_rfl) k fun h _ => ?_
 rw [wk0 h, cse0 _ _ _ _ _ h]
 kernel_rfl
theorem e_clear (k : Int) : Calm.enters Tryz.prog (cse k 201 213 222 231 260) = true := by
 refine by_kind (p := fun k => Calm.enters Tryz.prog (cse k 201 213 222 231 260) = true) (by kernel_rfl) (by kernel_rfl) (by kernel_rfl) (by kernel_rfl) (by kernel_rfl) k fun h => ?_
 rw [cse0 _ _ _ _ _ h]
 kernel_rfl
theorem m_read (k : Int) (v : Value) (s : String) (hs : some s = invName (Tryz.f14.body.getD .skip)) : ∀ w, (method 337 (wk k) v s).run Tryz.prog w = .ok (cse k 203 215 224 233 262, v) w := by
 have hi : (invName (Tryz.f14.body.getD .skip)).isSome = true := by kernel_rfl
 obtain rfl : s = (invName (Tryz.f14.body.getD .skip)).get hi := Option.some.inj (hs.trans (Option.some_get hi).symm)
 refine by_kind (p := fun k => ∀ w, (method 337 (wk k) v _).run Tryz.prog w = .ok (cse k 203 215 224 233 262, v) w) (fun _ => by kernel_rfl) (fun _ => by kernel_rfl) (fun _ => by kernel_rfl) (fun _ => by kernel_rfl) (fun _ => by kernel_rfl) k fun h _ => ?_
 rw [wk0 h, cse0 _ _ _ _ _ h]
 kernel_rfl
theorem e_read (k : Int) : Calm.enters Tryz.prog (cse k 203 215 224 233 262) = true := by
 refine by_kind (p := fun k => Calm.enters Tryz.prog (cse k 203 215 224 233 262) = true) (by kernel_rfl) (by kernel_rfl) (by kernel_rfl) (by kernel_rfl) (by kernel_rfl) k fun h => ?_
 rw [cse0 _ _ _ _ _ h]
 kernel_rfl
def Reads (k n : Int) (l : List Bs) (w : World) (e : Ending) (w' : World) : Prop := ∃ u, e = .returned (VN k n u) ∧ THas w' u l ∧ Below w.heap.size w w'
theorem size83 : (Tryz.prog.info? 83).map (·.size) = some 6 := by kernel_rfl
theorem size85 : (Tryz.prog.info? 85).map (·.size) = some 6 := by kernel_rfl
theorem size87 : (Tryz.prog.info? 87).map (·.size) = some 6 := by kernel_rfl
theorem size88 : (Tryz.prog.info? 88).map (·.size) = some 6 := by kernel_rfl
theorem size97 : (Tryz.prog.info? 97).map (·.size) = some 6 := by kernel_rfl
theorem chk83 (k b : Int) (va vw vm ve : Value) (w : World) {z : Bool} (C : ∀ w', Below w.heap.size w w' → Calls Tryz.prog 71 #[CV k b va vw vm ve] w' (Tells (.bool z) w')) : Calls Tryz.prog 200 #[CV k b va vw vm ve] w (Tells (.bool z) w) := by
 have R := rw_new w 83 (cvc k b va vw vm ve)
 have hb := bel_alloc (Below.refl w.heap.size w) (.cells (cvc k b va vw vm ve) 83)
 generalize hW : w.alloc (.cells (cvc k b va vw vm ve) 83) = w0 at R hb
 go_enter Tryz.func200, Tryz.ntmps200
 go_wp2_with (first | rw [hW] | refine load_r 83 _ rfl rfl _ rfl R Tryz.underlying83 rfl size83 ?_)
 refine (C w0 hb).mono ?_
 rintro e w1 ⟨rfl, hb1⟩
 go_wp2_with fail
 go_ret
 exact ⟨rfl, below_on hb hb1⟩
theorem chk85 (k b : Int) (va vw vm ve : Value) (w : World) {z : Bool} (C : ∀ w', Below w.heap.size w w' → Calls Tryz.prog 76 #[CV k b va vw vm ve] w' (Tells (.bool z) w')) : Calls Tryz.prog 212 #[CV k b va vw vm ve] w (Tells (.bool z) w) := by
 have R := rw_new w 85 (cvc k b va vw vm ve)
 have hb := bel_alloc (Below.refl w.heap.size w) (.cells (cvc k b va vw vm ve) 85)
 generalize hW : w.alloc (.cells (cvc k b va vw vm ve) 85) = w0 at R hb
 go_enter Tryz.func212, Tryz.ntmps212
 go_wp2_with (first | rw [hW] | refine load_r 85 _ rfl rfl _ rfl R Tryz.underlying85 rfl size85 ?_)
 refine (C w0 hb).mono ?_
 rintro e w1 ⟨rfl, hb1⟩
 go_wp2_with fail
 go_ret
 exact ⟨rfl, below_on hb hb1⟩
theorem chk87 (k b : Int) (va vw vm ve : Value) (w : World) {z : Bool} (C : ∀ w', Below w.heap.size w w' → Calls Tryz.prog 81 #[CV k b va vw vm ve] w' (Tells (.bool z) w')) : Calls Tryz.prog 221 #[CV k b va vw vm ve] w (Tells (.bool z) w) := by
 have R := rw_new w 87 (cvc k b va vw vm ve)
 have hb := bel_alloc (Below.refl w.heap.size w) (.cells (cvc k b va vw vm ve) 87)
 generalize hW : w.alloc (.cells (cvc k b va vw vm ve) 87) = w0 at R hb
 go_enter Tryz.func221, Tryz.ntmps221
 go_wp2_with (first | rw [hW] | refine load_r 87 _ rfl rfl _ rfl R Tryz.underlying87 rfl size87 ?_)
 refine (C w0 hb).mono ?_
 rintro e w1 ⟨rfl, hb1⟩
 go_wp2_with fail
 go_ret
 exact ⟨rfl, below_on hb hb1⟩
theorem chk88 (k b : Int) (va vw vm ve : Value) (w : World) {z : Bool} (C : ∀ w', Below w.heap.size w w' → Calls Tryz.prog 86 #[CV k b va vw vm ve] w' (Tells (.bool z) w')) : Calls Tryz.prog 230 #[CV k b va vw vm ve] w (Tells (.bool z) w) := by
 have R := rw_new w 88 (cvc k b va vw vm ve)
 have hb := bel_alloc (Below.refl w.heap.size w) (.cells (cvc k b va vw vm ve) 88)
 generalize hW : w.alloc (.cells (cvc k b va vw vm ve) 88) = w0 at R hb
 go_enter Tryz.func230, Tryz.ntmps230
 go_wp2_with (first | rw [hW] | refine load_r 88 _ rfl rfl _ rfl R Tryz.underlying88 rfl size88 ?_)
 refine (C w0 hb).mono ?_
 rintro e w1 ⟨rfl, hb1⟩
 go_wp2_with fail
 go_ret
 exact ⟨rfl, below_on hb hb1⟩
theorem chk97 (k b : Int) (va vw vm ve : Value) (w : World) : Calls Tryz.prog 259 #[CV k b va vw vm ve] w (Tells (.bool false) w) := by
 have hb := bel_alloc (Below.refl w.heap.size w) (.cells (cvc k b va vw vm ve) 97)
 generalize hW : w.alloc (.cells (cvc k b va vw vm ve) 97) = w0 at hb
 go_enter Tryz.func259, Tryz.ntmps259
 go_wp2_with (first | rw [hW])
 go_ret
 exact ⟨rfl, hb⟩
theorem rd83 (k b : Int) (va vw vm ve : Value) (w : World) {K n : Int} {l : List Bs} (C : ∀ w', Below w.heap.size w w' → Calls Tryz.prog 206 #[CV k b va vw vm ve] w' (Reads K n l w')) : Calls Tryz.prog 203 #[CV k b va vw vm ve] w (Reads K n l w) := by
 obtain ⟨R0, R1, hb⟩ := two_rows w (cvc k b va vw vm ve) 83 #[.int .i64 0, .int .i64 0, .slice none 0 0, .slice none 0 0] 46
 generalize hW : (w.alloc (.cells (cvc k b va vw vm ve) 83)).alloc (.cells #[.int .i64 0, .int .i64 0, .slice none 0 0, .slice none 0 0] 46) = w0 at R0 R1 hb
 go_enter Tryz.func203, Tryz.ntmps203
 go_wp2_with (first | rw [hW] | refine load_r 83 _ rfl rfl _ rfl R0 Tryz.underlying83 rfl size83 ?_)
 refine (C w0 hb).mono ?_
 rintro e w1 ⟨u, rfl, hu, hb1⟩
 obtain ⟨p, c, rfl⟩ := hu.slice
 replace R1 := R1.later hb1
 go_wp2_with (refine store_r rfl 46 _ _ rfl _ #[.int .i64 K, .int .i64 n, .slice p l.length c, .slice none 0 0] rfl rfl R1 size46 rfl (by simp [Value.oneCell']) ?_)
 refine bodyPost_ret (results_r rfl rfl (R1.row _) rfl Tryz.underlying46 size46) rfl ?_
 exact ⟨_, rfl, hu.rowV R1 _, below_setRow (below_on hb hb1) (by omega) _⟩
theorem rd85 (k b : Int) (va vw vm ve : Value) (w : World) {K n : Int} {l : List Bs} (C : ∀ w', Below w.heap.size w w' → Calls Tryz.prog 216 #[CV k b va vw vm ve] w' (Reads K n l w')) : Calls Tryz.prog 215 #[CV k b va vw vm ve] w (Reads K n l w) := by
 obtain ⟨R0, R1, hb⟩ := two_rows w (cvc k b va vw vm ve) 85 #[.int .i64 0, .int .i64 0, .slice none 0 0, .slice none 0 0] 46
 generalize hW : (w.alloc (.cells (cvc k b va vw vm ve) 85)).alloc (.cells #[.int .i64 0, .int .i64 0, .slice none 0 0, .slice none 0 0] 46) = w0 at R0 R1 hb
 go_enter Tryz.func215, Tryz.ntmps215
 go_wp2_with (first | rw [hW] | refine load_r 85 _ rfl rfl _ rfl R0 Tryz.underlying85 rfl size85 ?_)
 refine (C w0 hb).mono ?_
 rintro e w1 ⟨u, rfl, hu, hb1⟩
 obtain ⟨p, c, rfl⟩ := hu.slice
 replace R1 := R1.later hb1
 go_wp2_with (refine store_r rfl 46 _ _ rfl _ #[.int .i64 K, .int .i64 n, .slice p l.length c, .slice none 0 0] rfl rfl R1 size46 rfl (by simp [Value.oneCell']) ?_)
 refine bodyPost_ret (results_r rfl rfl (R1.row _) rfl Tryz.underlying46 size46) rfl ?_
 exact ⟨_, rfl, hu.rowV R1 _, below_setRow (below_on hb hb1) (by omega) _⟩
theorem rd87 (k b : Int) (va vw vm ve : Value) (w : World) {K n : Int} {l : List Bs} (C : ∀ w', Below w.heap.size w w' → Calls Tryz.prog 227 #[CV k b va vw vm ve] w' (Reads K n l w')) : Calls Tryz.prog 224 #[CV k b va vw vm ve] w (Reads K n l w) := by
 obtain ⟨R0, R1, hb⟩ := two_rows w (cvc k b va vw vm ve) 87 #[.int .i64 0, .int .i64 0, .slice none 0 0, .slice none 0 0] 46
 generalize hW : (w.alloc (.cells (cvc k b va vw vm ve) 87)).alloc (.cells #[.int .i64 0, .int .i64 0, .slice none 0 0, .slice none 0 0] 46) = w0 at R0 R1 hb
 go_enter Tryz.func224, Tryz.ntmps224
 go_wp2_with (first | rw [hW] | refine load_r 87 _ rfl rfl _ rfl R0 Tryz.underlying87 rfl size87 ?_)
 refine (C w0 hb).mono ?_
 rintro e w1 ⟨u, rfl, hu, hb1⟩
 obtain ⟨p, c, rfl⟩ := hu.slice
 replace R1 := R1.later hb1
 go_wp2_with (refine store_r rfl 46 _ _ rfl _ #[.int .i64 K, .int .i64 n, .slice p l.length c, .slice none 0 0] rfl rfl R1 size46 rfl (by simp [Value.oneCell']) ?_)
 refine bodyPost_ret (results_r rfl rfl (R1.row _) rfl Tryz.underlying46 size46) rfl ?_
 exact ⟨_, rfl, hu.rowV R1 _, below_setRow (below_on hb hb1) (by omega) _⟩
theorem rd88 (k b : Int) (va vw vm ve : Value) (w : World) {K n : Int} {l : List Bs} (C : ∀ w', Below w.heap.size w w' → Calls Tryz.prog 236 #[CV k b va vw vm ve] w' (Reads K n l w')) : Calls Tryz.prog 233 #[CV k b va vw vm ve] w (Reads K n l w) := by
 obtain ⟨R0, R1, hb⟩ := two_rows w (cvc k b va vw vm ve) 88 #[.int .i64 0, .int .i64 0, .slice none 0 0, .slice none 0 0] 46
 generalize hW : (w.alloc (.cells (cvc k b va vw vm ve) 88)).alloc (.cells #[.int .i64 0, .int .i64 0, .slice none 0 0, .slice none 0 0] 46) = w0 at R0 R1 hb
 go_enter Tryz.func233, Tryz.ntmps233
 go_wp2_with (first | rw [hW] | refine load_r 88 _ rfl rfl _ rfl R0 Tryz.underlying88 rfl size88 ?_)
 refine (C w0 hb).mono ?_
 rintro e w1 ⟨u, rfl, hu, hb1⟩
 obtain ⟨p, c, rfl⟩ := hu.slice
 replace R1 := R1.later hb1
 go_wp2_with (refine store_r rfl 46 _ _ rfl _ #[.int .i64 K, .int .i64 n, .slice p l.length c, .slice none 0 0] rfl rfl R1 size46 rfl (by simp [Value.oneCell']) ?_)
 refine bodyPost_ret (results_r rfl rfl (R1.row _) rfl Tryz.underlying46 size46) rfl ?_
 exact ⟨_, rfl, hu.rowV R1 _, below_setRow (below_on hb hb1) (by omega) _⟩
theorem rd97 (k b : Int) (va vw vm ve : Value) (w : World) : Calls Tryz.prog 262 #[CV k b va vw vm ve] w (Reads 0 0 [] w) := by
 obtain ⟨R0, R1, hb⟩ := two_rows w (cvc k b va vw vm ve) 97 #[.int .i64 0, .int .i64 0, .slice none 0 0, .slice none 0 0] 46
 generalize hW : (w.alloc (.cells (cvc k b va vw vm ve) 97)).alloc (.cells #[.int .i64 0, .int .i64 0, .slice none 0 0, .slice none 0 0] 46) = w0 at R0 R1 hb
 go_enter Tryz.func262, Tryz.ntmps262
 go_wp2_with (first | rw [hW] | refine store_r rfl 46 _ _ rfl _ #[.int .i64 0, .int .i64 0, .slice none 0 0, .slice none 0 0] rfl rfl R1 size46 rfl (by simp [Value.oneCell']) ?_)
 refine bodyPost_ret (results_r rfl rfl (R1.row _) rfl Tryz.underlying46 size46) rfl ?_
 exact ⟨_, rfl, THas.nil _, below_setRow hb (by omega) _⟩
theorem rows3 (w : World) (c1 : Array Value) (t1 : TypeId) (c2 : Array Value) (t2 : TypeId) (c3 : Array Value) (t3 : TypeId) : Rw (((w.alloc (.cells c1 t1)).alloc (.cells c2 t2)).alloc (.cells c3 t3)) w.heap.size t1 c1 ∧ Rw (((w.alloc (.cells c1 t1)).alloc (.cells c2 t2)).alloc (.cells c3 t3)) (w.heap.size + 1) t2 c2 ∧ Rw (((w.alloc (.cells c1 t1)).alloc (.cells c2 t2)).alloc (.cells c3 t3)) (w.heap.size + 2) t3 c3 ∧ Below w.heap.size w (((w.alloc (.cells c1 t1)).alloc (.cells c2 t2)).alloc (.cells c3 t3)) := by
 obtain ⟨r1, r2, hb⟩ := two_rows w c1 t1 c2 t2
 have r3 := rw_new ((w.alloc (.cells c1 t1)).alloc (.cells c2 t2)) t3 c3
 simp only [World.size_alloc, Nat.add_assoc, Nat.reduceAdd] at r3
 exact ⟨r1.alloc _, r2.alloc _, r3, bel_alloc hb _⟩
theorem cl83 (k b : Int) (va vw vm ve : Value) (q u : Int) (v : List Int) (t : Int) (sl : Value) (i : Int) (w : World) (hv : v.length = 13) {z : X} (C : ∀ w', Below w.heap.size w w' → Calls Tryz.prog 204 #[CV k b va vw vm ve, TxV q u v t sl, .int .i64 i] w' (Gives z w')) : Calls Tryz.prog 201 #[CV k b va vw vm ve, TxV q u v t sl, .int .i64 i] w (Gives z w) := by
 obtain ⟨R0, R1, R2, hb⟩ := rows3 w (cvc k b va vw vm ve) 83 (txc q u v t sl).toArray 34 z4 27
 have zt := size_tx (p := q) (s := u) (t := t) (sl := sl) hv
 generalize hW : ((w.alloc (.cells (cvc k b va vw vm ve) 83)).alloc (.cells (txc q u v t sl).toArray 34)).alloc (.cells z4 27) = w0 at R0 R1 R2 hb
 go_enter Tryz.func201, Tryz.ntmps201
 go_wp2_with (first | rw [hW] | refine load_r 83 _ rfl rfl _ rfl R0 Tryz.underlying83 rfl size83 ?_ | refine load_r 34 _ rfl rfl _ rfl R1 Tryz.underlying34 rfl zt ?_)
 refine (C w0 hb).mono ?_
 rintro e w1 ⟨ua, uw, um, ue, rfl, hz, hb1⟩
 obtain ⟨na, ea, nw, ew, nm, em, ne, ee, rfl, rfl, rfl, rfl⟩ := hz.slices
 replace R2 := R2.later hb1
 go_wp2_with (refine store_r rfl 27 _ _ rfl _ (cx z na ea nw ew nm em ne ee) rfl rfl R2 size27 rfl (by simp [Value.oneCell']) ?_)
 refine bodyPost_ret (results_r rfl rfl (R2.row _) rfl Tryz.underlying27 size27) rfl ?_
 exact ⟨_, _, _, _, rfl, hz.row R2 _, below_setRow (below_on hb hb1) (by omega) _⟩
theorem cl85 (k b : Int) (va vw vm ve : Value) (q u : Int) (v : List Int) (t : Int) (sl : Value) (i : Int) (w : World) (hv : v.length = 13) {z : X} (C : ∀ w', Below w.heap.size w w' → Calls Tryz.prog 79 #[CV k b va vw vm ve, TxV q u v t sl, .int .i64 i] w' (Gives z w')) : Calls Tryz.prog 213 #[CV k b va vw vm ve, TxV q u v t sl, .int .i64 i] w (Gives z w) := by
 obtain ⟨R0, R1, R2, hb⟩ := rows3 w (cvc k b va vw vm ve) 85 (txc q u v t sl).toArray 34 z4 27
 have zt := size_tx (p := q) (s := u) (t := t) (sl := sl) hv
 generalize hW : ((w.alloc (.cells (cvc k b va vw vm ve) 85)).alloc (.cells (txc q u v t sl).toArray 34)).alloc (.cells z4 27) = w0 at R0 R1 R2 hb
 go_enter Tryz.func213, Tryz.ntmps213
 go_wp2_with (first | rw [hW] | refine load_r 85 _ rfl rfl _ rfl R0 Tryz.underlying85 rfl size85 ?_ | refine load_r 34 _ rfl rfl _ rfl R1 Tryz.underlying34 rfl zt ?_)
 refine (C w0 hb).mono ?_
 rintro e w1 ⟨ua, uw, um, ue, rfl, hz, hb1⟩
 obtain ⟨na, ea, nw, ew, nm, em, ne, ee, rfl, rfl, rfl, rfl⟩ := hz.slices
 replace R2 := R2.later hb1
 go_wp2_with (refine store_r rfl 27 _ _ rfl _ (cx z na ea nw ew nm em ne ee) rfl rfl R2 size27 rfl (by simp [Value.oneCell']) ?_)
 refine bodyPost_ret (results_r rfl rfl (R2.row _) rfl Tryz.underlying27 size27) rfl ?_
 exact ⟨_, _, _, _, rfl, hz.row R2 _, below_setRow (below_on hb hb1) (by omega) _⟩
theorem cl87 (k b : Int) (va vw vm ve : Value) (q u : Int) (v : List Int) (t : Int) (sl : Value) (i : Int) (w : World) (hv : v.length = 13) {z : X} (C : ∀ w', Below w.heap.size w w' → Calls Tryz.prog 225 #[CV k b va vw vm ve, TxV q u v t sl, .int .i64 i] w' (Gives z w')) : Calls Tryz.prog 222 #[CV k b va vw vm ve, TxV q u v t sl, .int .i64 i] w (Gives z w) := by
 obtain ⟨R0, R1, R2, hb⟩ := rows3 w (cvc k b va vw vm ve) 87 (txc q u v t sl).toArray 34 z4 27
 have zt := size_tx (p := q) (s := u) (t := t) (sl := sl) hv
 generalize hW : ((w.alloc (.cells (cvc k b va vw vm ve) 87)).alloc (.cells (txc q u v t sl).toArray 34)).alloc (.cells z4 27) = w0 at R0 R1 R2 hb
 go_enter Tryz.func222, Tryz.ntmps222
 go_wp2_with (first | rw [hW] | refine load_r 87 _ rfl rfl _ rfl R0 Tryz.underlying87 rfl size87 ?_ | refine load_r 34 _ rfl rfl _ rfl R1 Tryz.underlying34 rfl zt ?_)
 refine (C w0 hb).mono ?_
 rintro e w1 ⟨ua, uw, um, ue, rfl, hz, hb1⟩
 obtain ⟨na, ea, nw, ew, nm, em, ne, ee, rfl, rfl, rfl, rfl⟩ := hz.slices
 replace R2 := R2.later hb1
 go_wp2_with (refine store_r rfl 27 _ _ rfl _ (cx z na ea nw ew nm em ne ee) rfl rfl R2 size27 rfl (by simp [Value.oneCell']) ?_)
 refine bodyPost_ret (results_r rfl rfl (R2.row _) rfl Tryz.underlying27 size27) rfl ?_
 exact ⟨_, _, _, _, rfl, hz.row R2 _, below_setRow (below_on hb hb1) (by omega) _⟩
theorem cl88 (k b : Int) (va vw vm ve : Value) (q u : Int) (v : List Int) (t : Int) (sl : Value) (i : Int) (w : World) (hv : v.length = 13) {z : X} (C : ∀ w', Below w.heap.size w w' → Calls Tryz.prog 234 #[CV k b va vw vm ve, TxV q u v t sl, .int .i64 i] w' (Gives z w')) : Calls Tryz.prog 231 #[CV k b va vw vm ve, TxV q u v t sl, .int .i64 i] w (Gives z w) := by
 obtain ⟨R0, R1, R2, hb⟩ := rows3 w (cvc k b va vw vm ve) 88 (txc q u v t sl).toArray 34 z4 27
 have zt := size_tx (p := q) (s := u) (t := t) (sl := sl) hv
 generalize hW : ((w.alloc (.cells (cvc k b va vw vm ve) 88)).alloc (.cells (txc q u v t sl).toArray 34)).alloc (.cells z4 27) = w0 at R0 R1 R2 hb
 go_enter Tryz.func231, Tryz.ntmps231
 go_wp2_with (first | rw [hW] | refine load_r 88 _ rfl rfl _ rfl R0 Tryz.underlying88 rfl size88 ?_ | refine load_r 34 _ rfl rfl _ rfl R1 Tryz.underlying34 rfl zt ?_)
 refine (C w0 hb).mono ?_
 rintro e w1 ⟨ua, uw, um, ue, rfl, hz, hb1⟩
 obtain ⟨na, ea, nw, ew, nm, em, ne, ee, rfl, rfl, rfl, rfl⟩ := hz.slices
 replace R2 := R2.later hb1
 go_wp2_with (refine store_r rfl 27 _ _ rfl _ (cx z na ea nw ew nm em ne ee) rfl rfl R2 size27 rfl (by simp [Value.oneCell']) ?_)
 refine bodyPost_ret (results_r rfl rfl (R2.row _) rfl Tryz.underlying27 size27) rfl ?_
 exact ⟨_, _, _, _, rfl, hz.row R2 _, below_setRow (below_on hb hb1) (by omega) _⟩
theorem cl97 (k b : Int) (va vw vm ve : Value) (q u : Int) (v : List Int) (t : Int) (sl : Value) (i : Int) (w : World) {z : X} (C : ∀ w', Below w.heap.size w w' → Calls Tryz.prog 35 #[CV k b va vw vm ve] w' (Gives z w')) : Calls Tryz.prog 260 #[CV k b va vw vm ve, TxV q u v t sl, .int .i64 i] w (Gives z w) := by
 obtain ⟨R0, R1, R2, hb⟩ := rows3 w (cvc k b va vw vm ve) 97 (txc q u v t sl).toArray 34 z4 27
 generalize hW : ((w.alloc (.cells (cvc k b va vw vm ve) 97)).alloc (.cells (txc q u v t sl).toArray 34)).alloc (.cells z4 27) = w0 at R0 R1 R2 hb
 go_enter Tryz.func260, Tryz.ntmps260
 go_wp2_with (first | rw [hW] | refine load_r 97 _ rfl rfl _ rfl R0 Tryz.underlying97 rfl size97 ?_)
 refine (C w0 hb).mono ?_
 rintro e w1 ⟨ua, uw, um, ue, rfl, hz, hb1⟩
 obtain ⟨na, ea, nw, ew, nm, em, ne, ee, rfl, rfl, rfl, rfl⟩ := hz.slices
 replace R2 := R2.later hb1
 go_wp2_with (refine store_r rfl 27 _ _ rfl _ (cx z na ea nw ew nm em ne ee) rfl rfl R2 size27 rfl (by simp [Value.oneCell']) ?_)
 refine bodyPost_ret (results_r rfl rfl (R2.row _) rfl Tryz.underlying27 size27) rfl ?_
 exact ⟨_, _, _, _, rfl, hz.row R2 _, below_setRow (below_on hb hb1) (by omega) _⟩
section
variable {Q : Exit → Act → World → Prop} {S : World → Prop} {md : Region.Mode} {A : (Nat → Value) → Act} {F : List Facts.Fact} {i : Nat} {o : Oper} {φ : Value → World → Prop}
theorem Facts.inv2P (hS : Calm.Stays S) (hF : Facts.Stay F) (hA : ∀ x u, (A x).put o.dst u = A (Facts.put x i u)) {nm : String} {ts : Array TypeId} {u0 u1 u2 : Operand} (ho : o.op = .call { callee := .invoke u0 nm, args := #[u1, u2], argTypes := ts }) {fn : FuncId} (hf : Calm.enters Tryz.prog fn = true) {T : TypeId} {rv : Value}
  (hm : ∀ w, (method 337 T rv nm).run Tryz.prog w = .ok (fn, rv) w) (hz : F[i]? = some (pF i φ)) (hr : ∀ x w, S w → (∀ e ∈ o.after, Region.binds md e = true → ∀ f, F[e.on]? = some f → Facts.holds f x w) → (A x).eval u0 = .iface T rv)
  (h : ∀ x w, S w → (∀ e ∈ o.after, Region.binds md e = true → ∀ f, F[e.on]? = some f → Facts.holds f x w) → Calls Tryz.prog fn #[rv, (A x).eval u1, (A x).eval u2] w fun e w' => ∃ r, e = .returned r ∧ φ r w' ∧ Below w.heap.size w w') : Facts.StepOk Tryz.prog md Q S A F i o :=
 Facts.call (f := fn) hS hF hA fun x w hSw hdep => ⟨#[rv, (A x).eval u1, (A x).eval u2], by
  have e : ∀ args, (callFunc fn args).run Tryz.prog w = .ok (.enter fn args) w := fun args => Calm.enters_run hf args w
  have hi := hr x w hSw hdep
  generalize (A x).eval = ρ at hi ⊢
  unfold execOp
  simp [ho, go_sem, hi, hm, callMethod, e], (h x w hSw hdep).mono fun e w' ⟨r, he, hr, hb⟩ => ⟨r, he, hb, fun f hf' => by
   rw [hz] at hf'
   obtain rfl := Option.some.inj hf'
   exact pF_put hr⟩⟩
end
end Go.Proofs.YtjbbmcommnhgeaaGreat
namespace Go.Proofs.YtjbbmcommnhgeaaGreat.Os
open Go.RowKit Go.Sort
abbrev tx (y : Mb) : Bs := bs y.x
def ib (y : Mb) : Bool := (y.b || decide (0 < y.ms.length)) && (decide (y.x.size ≤ 64) && ca y.ms)
def tlt (x y : Mb) : Bool := decide (tx x < tx y)
def okb (l : List Mb) (k : Nat) (h : k < l.length) : Bool := ib l[k] && (decide (k = 0) || tlt (l[k - 1]'(by omega)) l[k])
def cb (l : List Mb) : Bool := decide (∀ k (h : k < l.length), okb l k h = true)
theorem cb_iff (l : List Mb) : cb l = true ↔ ∀ k (h : k < l.length), okb l k h = true := by simp [cb]
theorem cb_not {l : List Mb} {z : Bool} (HZ : Hid (cb l = z)) {k : Nat} (h : k < l.length) (h' : okb l k h = false) : Hid (z = false) := by
 show z = false
 have hz := HZ.out
 cases z
 ·rfl
 ·rw [(cb_iff l).1 hz k h] at h'
  cases h'
abbrev upm (l : List Mb) : Prop := l.Pairwise (fun a b => tx a < tx b)
theorem cb_pair (l : List Mb) : cb l = true ↔ (∀ y ∈ l, ib y = true) ∧ upm l := by
 rw [cb_iff]
 constructor
 ·intro h
  refine ⟨fun y hy => ?_, ?_⟩
  ·obtain ⟨k, hk, rfl⟩ := List.getElem_of_mem hy
   have := h k hk
   unfold okb at this
   exact (Bool.and_eq_true _ _ ▸ this).1
  ·unfold upm
   rw [List.pairwise_iff_getElem]
   intro i j hi hj hij
   obtain ⟨d, rfl⟩ : ∃ d, j = i + 1 + d := ⟨j - (i + 1), by omega⟩
   clear hij
   have step : ∀ k (hk : k + 1 < l.length), tx l[k] < tx l[k + 1] := fun k hk => by
    have := h (k + 1) hk
    unfold okb at this
    have := (Bool.and_eq_true _ _ ▸ this).2
    simpa [tlt] using this
   induction d with
   | zero => exact step i hj
   | succ d ih => exact Bs.trans (ih (by omega) step) (step (i + 1 + d) (by omega))
 ·rintro ⟨h1, h2⟩ k hk
  unfold okb
  rw [h1 _ (List.getElem_mem _), Bool.true_and]
  rcases Nat.eq_zero_or_pos k with rfl | hp
  ·rfl
  ·unfold upm at h2
   rw [List.pairwise_iff_getElem] at h2
   have := h2 (k - 1) k (by omega) hk (by omega)
   simp [tlt, this]
def look (l : List Mb) (s : Bs) : Option Mb := l.find? (fun y => decide (tx y = s))
def putL (y : Mb) (l : List Mb) : List Mb := l.filter (fun a => decide (tx a < tx y)) ++ y :: l.filter (fun a => decide (tx y < tx a))
def addY (l : List Mb) (s : ByteArray) (m : M) : Mb := ⟨s, ((look l (bs s)).map (·.b)).getD false, wth (((look l (bs s)).map (·.ms)).getD []) m⟩
def addL (l : List Mb) (s : ByteArray) (m : M) : List Mb := putL (addY l s m) l
def dm (p : M → Bool) (y : Mb) : Option Mb := if (y.ms.filter (fun m => !p m)).length = 0 then none else some ⟨y.x, false, y.ms.filter (fun m => !p m)⟩
def wo (G : Mb → Bool) (p : M → Bool) (l : List Mb) : List Mb := l.filterMap (fun y => if G y = true then dm p y else some y)
def txL (l : List Mb) : List Bs := l.map tx
theorem look_none {l : List Mb} {s : Bs} (h : ∀ y ∈ l, tx y ≠ s) : look l s = none := by
 unfold look
 rw [List.find?_eq_none]
 exact fun y hy => by simpa using h y hy
theorem look_mid {A C : List Mb} {y : Mb} {s : Bs} (e : tx y = s) (h : ∀ a ∈ A, tx a < s) : look (A ++ y :: C) s = some y := by
 unfold look
 rw [List.find?_append, List.find?_eq_none.2, Option.none_or, List.find?_cons_of_pos (by simpa using e)]
 intro a ha k
 have e2 : tx a = s := by simpa using k
 have h2 := h a ha
 rw [e2] at h2
 exact Bs.irr s h2
theorem putL_mid {A C : List Mb} {y z : Mb} (e : tx y = tx z) (h1 : ∀ a ∈ A, tx a < tx z) (h2 : ∀ c ∈ C, tx z < tx c) : putL z (A ++ y :: C) = A ++ z :: C := by
 unfold putL
 have e1 : A.filter (fun a => decide (tx a < tx z)) = A := List.filter_eq_self.2 (fun a ha => decide_eq_true (h1 a ha))
 have e2 : A.filter (fun a => decide (tx z < tx a)) = [] := List.filter_eq_nil_iff.2 (fun a ha => by simpa using Bs.le_of (h1 a ha))
 have e3 : C.filter (fun a => decide (tx a < tx z)) = [] := List.filter_eq_nil_iff.2 (fun a ha => by simpa using Bs.le_of (h2 a ha))
 have e4 : C.filter (fun a => decide (tx z < tx a)) = C := List.filter_eq_self.2 (fun a ha => decide_eq_true (h2 a ha))
 have n1 : ¬ tx y < tx z := by rw [e]; exact Bs.irr _
 have n2 : ¬ tx z < tx y := by rw [e]; exact Bs.irr _
 rw [List.filter_append, List.filter_append, List.filter_cons_of_neg (by simpa using n1), List.filter_cons_of_neg (by simpa using n2), e1, e2, e3, e4]
 simp
theorem filter_dm (p : M → Bool) (l : List M) : (l.filter (fun m => !p m)).filter (fun m => !p m) = l.filter (fun m => !p m) := by
 rw [List.filter_filter]
 congr 1
 funext m
 cases p m <;> rfl
theorem dm_tx {p : M → Bool} {y z : Mb} (h : dm p y = some z) : z.x = y.x := by
 unfold dm at h
 split at h
 ·cases h
 ·rw [← Option.some.inj h]
theorem dm_dm {p : M → Bool} {y z : Mb} (h : dm p y = some z) : dm p z = some z := by
 unfold dm at h
 split at h
 ·cases h
 ·rename_i hn
  rw [← Option.some.inj h]
  unfold dm
  simp only [filter_dm]
  rw [if_neg hn]
theorem wo_append (G : Mb → Bool) (p : M → Bool) (a b : List Mb) : wo G p (a ++ b) = wo G p a ++ wo G p b := by simp [wo]
theorem wo_none {G : Mb → Bool} {l : List Mb} (p : M → Bool) (h : ∀ y ∈ l, G y = false) : wo G p l = l := by
 unfold wo
 induction l with
 | nil => rfl
 | cons y l ih =>
  rw [List.filterMap_cons_some (b := y) (by rw [h y (by simp)]; rfl), ih (fun z hz => h z (by simp [hz]))]
theorem wo_more (G : List Bs) (s : Bs) (p : M → Bool) (l : List Mb) : wo (fun y => decide (tx y = s)) p (wo (fun y => decide (tx y ∈ G)) p l) = wo (fun y => decide (tx y ∈ G ++ [s])) p l := by
 unfold wo
 rw [List.filterMap_filterMap]
 congr 1
 funext y
 by_cases h1 : tx y ∈ G
 ·have h2 : tx y ∈ G ++ [s] := by simp [h1]
  simp only [h1, h2, decide_true, if_true]
  cases h3 : dm p y with
  | none => rfl
  | some z =>
   simp only [Option.bind_some]
   by_cases h4 : tx z = s
   ·simp only [h4, decide_true, if_true]
    exact dm_dm h3
   ·simp [h4]
 ·by_cases h4 : tx y = s
  ·have h2 : s ∉ G := fun h => h1 (by rw [h4]; exact h)
   simp [h4, h2]
  ·have h2 : tx y ∉ G ++ [s] := by simp [h1, h4]
   simp only [h1, h2, decide_false]
   simp [h4]
theorem wo_sub {G : Mb → Bool} {p : M → Bool} {l : List Mb} {z : Mb} (h : z ∈ wo G p l) : ∃ y ∈ l, (z = y ∨ dm p y = some z) := by
 unfold wo at h
 obtain ⟨y, hy, e⟩ := List.mem_filterMap.1 h
 refine ⟨y, hy, ?_⟩
 split at e
 ·exact .inr e
 ·exact .inl (Option.some.inj e).symm
theorem wo_tx {G : Mb → Bool} {p : M → Bool} {y z : Mb} (h : (if G y = true then dm p y else some y) = some z) : z.x = y.x := by
 split at h
 ·exact dm_tx h
 ·rw [← Option.some.inj h]
theorem wo_upm {l : List Mb} (h : upm l) (G : Mb → Bool) (p : M → Bool) : upm (wo G p l) := by
 unfold upm wo
 rw [List.pairwise_filterMap]
 refine pair_of h fun a b hab c hc d hd => ?_
 have e1 : tx c = tx a := by unfold tx; rw [wo_tx hc]
 have e2 : tx d = tx b := by unfold tx; rw [wo_tx hd]
 rw [e1, e2]
 exact hab
theorem dm_ib {p : M → Bool} {y z : Mb} (h : dm p y = some z) (hy : ib y = true) : ib z = true := by
 unfold dm at h
 split at h
 ·cases h
 ·rename_i hn
  rw [← Option.some.inj h]
  unfold ib at *
  simp only [Bool.and_eq_true, decide_eq_true_eq] at *
  refine ⟨by simpa using Nat.pos_of_ne_zero hn, hy.2.1, ca_filter hy.2.2 _⟩
theorem wo_cb {l : List Mb} (h : cb l = true) (G : Mb → Bool) (p : M → Bool) : cb (wo G p l) = true := by
 rw [cb_pair] at *
 refine ⟨fun z hz => ?_, wo_upm h.2 G p⟩
 obtain ⟨y, hy, rfl | e⟩ := wo_sub hz
 ·exact h.1 _ hy
 ·exact dm_ib e (h.1 _ hy)
theorem putL_upm {l : List Mb} (h : upm l) (y : Mb) : upm (putL y l) := by
 unfold upm putL
 rw [List.pairwise_append, List.pairwise_cons]
 refine ⟨h.filter _, ⟨fun a ha => by simpa using (List.mem_filter.1 ha).2, h.filter _⟩, fun a ha b hb => ?_⟩
 have h1 : tx a < tx y := by simpa using (List.mem_filter.1 ha).2
 rcases List.mem_cons.1 hb with rfl | hb
 ·exact h1
 ·exact Bs.trans h1 (by simpa using (List.mem_filter.1 hb).2)
theorem putL_sub {y z : Mb} {l : List Mb} (h : z ∈ putL y l) : z = y ∨ z ∈ l := by
 unfold putL at h
 rcases List.mem_append.1 h with h | h
 ·exact .inr (List.mem_filter.1 h).1
 ·rcases List.mem_cons.1 h with h | h
  ·exact .inl h
  ·exact .inr (List.mem_filter.1 h).1
theorem putL_cb {l : List Mb} (h : cb l = true) {y : Mb} (hy : ib y = true) : cb (putL y l) = true := by
 rw [cb_pair] at *
 refine ⟨fun z hz => ?_, putL_upm h.2 y⟩
 rcases putL_sub hz with rfl | k
 ·exact hy
 ·exact h.1 _ k
theorem look_mem {l : List Mb} {s : Bs} {y : Mb} (h : look l s = some y) : y ∈ l ∧ tx y = s := by
 unfold look at h
 exact ⟨List.mem_of_find?_eq_some h, by simpa using List.find?_some h⟩
theorem addY_ib {l : List Mb} (h : cb l = true) {s : ByteArray} {m : M} (hs : s.size ≤ 64) (hm : im m.i = true) : ib (addY l s m) = true := by
 unfold ib addY
 simp only [Bool.and_eq_true, decide_eq_true_eq]
 refine ⟨by simp [wth_ne], hs, wth_ca ?_ hm⟩
 cases e : look l (bs s) with
 | none => rfl
 | some y =>
  have := ((cb_pair l).1 h).1 y (look_mem e).1
  unfold ib at this
  simp only [Bool.and_eq_true, decide_eq_true_eq] at this
  exact this.2.2
theorem addL_cb {l : List Mb} (h : cb l = true) {s : ByteArray} {m : M} (hs : s.size ≤ 64) (hm : im m.i = true) : cb (addL l s m) = true := putL_cb h (addY_ib h hs hm)
theorem putL_length (y : Mb) (l : List Mb) : (putL y l).length ≤ l.length + 1 := by
 unfold putL
 rw [List.length_append, List.length_cons]
 have : (l.filter (fun a => decide (tx a < tx y))).length + (l.filter (fun a => decide (tx y < tx a))).length ≤ l.length := by
  induction l with
  | nil => simp
  | cons a l ih =>
   rw [List.filter_cons, List.filter_cons, List.length_cons]
   by_cases h1 : tx a < tx y
   ·have h2 : ¬ tx y < tx a := Bs.asymm h1
    rw [if_pos (decide_eq_true h1), if_neg (by simpa using h2), List.length_cons]
    omega
   ·rw [if_neg (by simpa using h1)]
    split
    ·rw [List.length_cons]
     omega
    ·omega
 omega
theorem wo_length (G : Mb → Bool) (p : M → Bool) (l : List Mb) : (wo G p l).length ≤ l.length := List.length_filterMap_le _ _
theorem dm_length {p : M → Bool} {y z : Mb} (h : dm p y = some z) : z.ms.length ≤ y.ms.length := by
 unfold dm at h
 split at h
 ·cases h
 ·rw [← Option.some.inj h]
  exact List.length_filter_le _ _
def ck (x : X) : Bool := decide (x.k = 4) && (decide (x.b = 0) && (decide (x.am.length + x.wr.length + x.el.length = 0) && cb x.mb))
theorem ck_parts {x : X} (h : ck x = true) : x.k = 4 ∧ x.b = 0 ∧ x.am.length = 0 ∧ x.wr.length = 0 ∧ x.el.length = 0 ∧ cb x.mb = true := by
 simp only [ck, Bool.and_eq_true, decide_eq_true_eq] at h
 obtain ⟨h1, h2, h3, h4⟩ := h
 exact ⟨h1, h2, by omega, by omega, by omega, h4⟩
abbrev BV (y : Mb) (v : Value) : Value := .agg #[.string y.x, .bool y.b, v]
theorem isMember_any (y : Mb) (v : Value) (w : World) (h : MHas w v y.ms) : Calls Tryz.prog 144 #[BV y v] w (Tells (.bool (ib y)) w) := by
 obtain ⟨z, HZ⟩ := hid_ex (ib y)
 rw [HZ.out]
 obtain ⟨p, c, rfl⟩ := h.slice
 have HM : Hid (MHas w (.slice p y.ms.length c) y.ms) := h
 clear h
 have hz : Hid (z = ((y.b || decide (0 < y.ms.length)) && (decide (y.x.size ≤ 64) && ca y.ms))) := by
  show _ = _
  rw [← HZ.out]
  rfl
 clear HZ
 by_cases h1 : y.b = true ∨ 0 < y.ms.length
 ·by_cases h2 : y.x.size ≤ 64
  ·obtain rfl : z = ca y.ms := by
    have := hz.out
    rw [decide_eq_true h2] at this
    rcases h1 with h1 | h1
    ·simpa [h1] using this
    ·simpa [decide_eq_true h1] using this
   clear hz
   have h2' : (y.x.size : Int) ≤ 64 := by omega
   cases hyb : y.b
   ·have h1 : 0 < y.ms.length := h1.resolve_left (by rw [hyb]; decide)
    have h1' : (0 : Int) < (y.ms.length : Int) := by omega
    go_enter Tryz.func144, Tryz.ntmps144
    go_wp2_with fail
    refine (checkMarks_any _ _ _ (HM.out.later (bel_alloc (Below.refl _ _) _))).mono ?_
    rintro e w2 ⟨rfl, hb2⟩
    go_wp2_with fail
    go_ret
    exact ⟨rfl, below_on (bel_alloc (Below.refl _ _) _) hb2⟩
   ·clear h1
    go_enter Tryz.func144, Tryz.ntmps144
    go_wp2_with fail
    refine (checkMarks_any _ _ _ (HM.out.later (bel_alloc (Below.refl _ _) _))).mono ?_
    rintro e w2 ⟨rfl, hb2⟩
    go_wp2_with fail
    go_ret
    exact ⟨rfl, below_on (bel_alloc (Below.refl _ _) _) hb2⟩
  ·obtain rfl : z = false := by
    have := hz.out
    rw [decide_eq_false h2] at this
    simpa using this
   clear hz
   have h2' : ¬ (y.x.size : Int) ≤ 64 := by omega
   cases hyb : y.b
   ·have h1 : 0 < y.ms.length := h1.resolve_left (by rw [hyb]; decide)
    have h1' : (0 : Int) < (y.ms.length : Int) := by omega
    go_enter Tryz.func144, Tryz.ntmps144
    go_wp2_with fail
    go_ret
    exact ⟨rfl, bel_alloc (Below.refl _ _) _⟩
   ·clear h1
    go_enter Tryz.func144, Tryz.ntmps144
    go_wp2_with fail
    go_ret
    exact ⟨rfl, bel_alloc (Below.refl _ _) _⟩
 ·have hyb : y.b = false := by
   cases h : y.b
   ·rfl
   ·exact absurd (.inl h) h1
  have h0 : ¬ 0 < y.ms.length := fun h => h1 (.inr h)
  obtain rfl : z = false := by
   have := hz.out
   rw [hyb, decide_eq_false h0] at this
   simpa using this
  have h0' : ¬ (0 : Int) < (y.ms.length : Int) := by omega
  have hyl : y.ms.length = 0 := by omega
  clear hz h1 h0
  go_enter Tryz.func144, Tryz.ntmps144
  go_wp2_with fail
  go_ret
  exact ⟨rfl, bel_alloc (Below.refl _ _) _⟩
theorem less_bytes : ∀ (x y : Bs), Op.bytesLess x y = decide (x < y)
 | [], [] => by simp [Op.bytesLess]
 | _ :: _, [] => by simp [Op.bytesLess]
 | [], _ :: _ => by simp [Op.bytesLess]
 | a :: x, b :: y => by
  rw [Op.bytesLess, less_bytes x y]
  simp only [List.cons_lt_cons_iff]
  by_cases h1 : a < b <;> by_cases h2 : a = b <;> by_cases h3 : x < y <;> simp [h1, h2, h3]
theorem less_str (a b : ByteArray) : Op.bytesLess a.toList b.toList = decide (bs a < bs b) := by rw [ByteArray.toList_eq, ByteArray.toList_eq, less_bytes]
theorem eq_str (a b : ByteArray) : (a.toList == b.toList) = decide (bs a = bs b) := by
 rw [ByteArray.toList_eq, ByteArray.toList_eq]
 by_cases h : bs a = bs b
 ·rw [decide_eq_true h]
  simpa using h
 ·rw [decide_eq_false h]
  simpa using h
theorem checkMembers_any (v : Value) (l : List Mb) (w : World) (h : BHas w v l) : Calls Tryz.prog 119 #[v] w (Tells (.bool (cb l)) w) := by
 obtain ⟨z, HZ⟩ := hid_ex (cb l)
 rw [HZ.out]
 obtain ⟨ys, hys, h, hy⟩ := h
 have hml := maxLen_lt h.1
 obtain ⟨p, c, rfl⟩ := h.slice
 have hyl : ys.length = l.length := by rw [← hys, List.length_map]
 have HR : Hid (SHas 3 w (.slice p l.length c) l.length (rows Mb.cells ys)) := h
 have HY : Hid (∀ y ∈ ys, MHas w y.2 y.1.ms) := hy
 have HL : Hid (∀ k (h1 : k < ys.length) (h2 : k < l.length), ys[k].1 = l[k]) := fun k h1 h2 => by
  subst hys
  rw [List.getElem_map]
 clear h hy hys
 go_enter Tryz.func119, Tryz.ntmps119
 go_wp2
 go_loopw [7] (fun vi wr => ∃ k : Nat, vi = .int .i64 k ∧ k ≤ l.length ∧ Hid (∀ i (h : i < l.length), i < k → okb l i h = true) ∧ Below w.heap.size w wr) (fun vi _ => l.length - (intOf vi).toNat)
 case atStart => exact ⟨0, rfl, by omega, (show ∀ i (_ : i < l.length), i < 0 → _ from fun i _ h => by omega), Below.refl _ _⟩
 case round =>
  obtain ⟨k, rfl, hk, HV, hbel⟩ := hrel
  by_cases hlt : k < l.length
  ·have hlt' : (k : Int) < (l.length : Int) := by omega
   obtain ⟨g, o, rfl, hd0⟩ := HR.out.at (by omega)
   have hd := range_later hd0 hbel
   have d := Mb.elem hd k (by omega)
   have hyk := (HY.out ys[k] (List.getElem_mem _)).later hbel
   obtain ⟨yy, HX⟩ := hid_ex (ys[k]'(by omega))
   have HX2 : Hid (l[k] = yy.1) := by
    show _ = _
    rw [← HL.out k (by omega) hlt, HX.out]
   rw [HX.out] at d hyk
   obtain ⟨y, yv⟩ := yy
   replace hyk : MHas wr yv y.ms := hyk
   obtain ⟨py, cy, rfl⟩ := hyk.slice
   replace d : wr.rangeAt g (o + k * 3) [Value.string y.x, .bool y.b, .slice py y.ms.length cy] := d
   replace HX2 : Hid (l[k] = y) := HX2
   clear hd0 HR HY HX
   have zb : (Tryz.prog.info? 67).map (·.size) = some [Value.string y.x, .bool y.b, .slice py y.ms.length cy].length := size67
   have R := rw_new wr 67 #[.string y.x, .bool y.b, .slice py y.ms.length cy]
   have hbA := bel_alloc (Below.refl wr.heap.size wr) (.cells #[.string y.x, .bool y.b, .slice py y.ms.length cy] 67)
   replace hbel := bel_alloc hbel (.cells #[.string y.x, .bool y.b, .slice py y.ms.length cy] 67)
   replace hyk := hyk.later hbA
   obtain ⟨y1, HY1⟩ := hid_ex (ib y)
   have C1 : ∀ w, MHas w (.slice py y.ms.length cy) y.ms → Calls Tryz.prog 144 #[BV y (.slice py y.ms.length cy)] w (Tells (.bool y1) w) := fun w h => by rw [← HY1.out]; exact isMember_any y _ w h
   cases y1
   ·have HF := cb_not HZ hlt (show okb l k hlt = false by unfold okb; rw [HX2.out, HY1.out]; rfl)
    have e := HF.out
    subst e
    clear HZ HF HV
    go_wp2_with (refine load_m 67 _ rfl rfl _ _ rfl d Tryz.underlying67 rfl zb ?_)
    clear hd d
    have hs : Calm.Stays (fun w' => Rw w' wr.heap.size 67 #[.string y.x, .bool y.b, .slice py y.ms.length cy] ∧ MHas w' (.slice py y.ms.length cy) y.ms ∧ Below w.heap.size w w') := fun wa wb h hb => ⟨h.1.later hb, h.2.1.later hb, below_on h.2.2 hb⟩
    refine Calm.region (by kernel_rfl) (by kernel_rfl) (fun w' => Rw w' wr.heap.size 67 #[.string y.x, .bool y.b, .slice py y.ms.length cy] ∧ MHas w' (.slice py y.ms.length cy) y.ms ∧ Below w.heap.size w w') ⟨R, hyk, hbel.drew⟩ ?_
    all_goals refine Calm.lm zb (fun _ h => Rw.whole h.1) Tryz.underlying67 ?_
    all_goals refine Calm.k1 hs (fun w1 h => C1 w1 h.2.1) ?_
    iterate 16 (all_goals refine Calm.sp ?_)
    all_goals
     rintro w9 ⟨_, _, hbel9⟩
    go_wp2_with fail
    go_ret
    exact ⟨rfl, hbel9⟩
   ·rcases Nat.eq_zero_or_pos k with rfl | hpos
    ·have HV2 : Hid (∀ i (h : i < l.length), i < 0 + 1 → okb l i h = true) := fun i h hi => by
      obtain rfl : i = 0 := by omega
      unfold okb
      rw [HX2.out, HY1.out]
      rfl
     go_wp2_with (refine load_m 67 _ rfl rfl _ _ rfl d Tryz.underlying67 rfl zb ?_)
     clear hd d HV
     have hs : Calm.Stays (fun w' => Rw w' wr.heap.size 67 #[.string y.x, .bool y.b, .slice py y.ms.length cy] ∧ MHas w' (.slice py y.ms.length cy) y.ms ∧ Below w.heap.size w w') := fun wa wb h hb => ⟨h.1.later hb, h.2.1.later hb, below_on h.2.2 hb⟩
     refine Calm.region (by kernel_rfl) (by kernel_rfl) (fun w' => Rw w' wr.heap.size 67 #[.string y.x, .bool y.b, .slice py y.ms.length cy] ∧ MHas w' (.slice py y.ms.length cy) y.ms ∧ Below w.heap.size w w') ⟨R, hyk, hbel.drew⟩ ?_
     all_goals refine Calm.lm zb (fun _ h => Rw.whole h.1) Tryz.underlying67 ?_
     all_goals refine Calm.k1 hs (fun w1 h => C1 w1 h.2.1) ?_
     iterate 16 (all_goals refine Calm.sp ?_)
     all_goals
      rintro w9 ⟨_, _, hbel9⟩
     go_wp2_with fail
     go_roundw
     case rel => exact ⟨0 + 1, by simp, by omega, HV2, hbel9⟩
     case measure => simp [intOf]; omega
    ·obtain ⟨m, rfl⟩ : ∃ m, k = m + 1 := ⟨k - 1, by omega⟩
     have d2 := range_later (Mb.elem hd m (by omega)) hbA 0 _ rfl
     obtain ⟨u, HU⟩ := hid_ex (l[m]'(by omega))
     rw [HL.out m (by omega) (by omega), HU.out] at d2
     replace d2 : (wr.alloc (.cells #[.string y.x, .bool y.b, .slice py y.ms.length cy] 67)).cell? ⟨g, o + m * 3, none⟩ = some (.string u.x) := d2
     have hO : okb l (m + 1) hlt = tlt u y := by
      unfold okb
      simp only [Nat.add_sub_cancel]
      rw [HX2.out, HY1.out, HU.out]
      simp
     have HO : Hid (okb l (m + 1) hlt = tlt u y) := hO
     clear hO
     obtain ⟨y2, HY2⟩ := hid_ex (tlt u y)
     rw [HY2.out] at HO
     have E1 : Op.bytesLess u.x.toList y.x.toList = y2 := by rw [less_str, ← HY2.out]; rfl
     have hw1 : IntKind.i64.wrap (m : Int) = (m : Int) := by rw [IntKind.wrap_i64]; omega
     have hml2 : (m : Int) < (l.length : Int) := by omega
     go_wp2_with (refine load_m 67 _ rfl rfl _ _ rfl d Tryz.underlying67 rfl zb ?_)
     clear hd d
     cases y2
     ·have HF := cb_not HZ hlt HO.out
      have e := HF.out
      subst e
      clear HZ HF HV
      have hs : Calm.Stays (fun w' => Rw w' wr.heap.size 67 #[.string y.x, .bool y.b, .slice py y.ms.length cy] ∧ MHas w' (.slice py y.ms.length cy) y.ms ∧ w'.cell? ⟨g, o + m * 3, none⟩ = some (.string u.x) ∧ Below w.heap.size w w') := fun wa wb h hb => ⟨h.1.later hb, h.2.1.later hb, cell_later hb h.2.2.1, below_on h.2.2.2 hb⟩
      refine Calm.region (by kernel_rfl) (by kernel_rfl) (fun w' => Rw w' wr.heap.size 67 #[.string y.x, .bool y.b, .slice py y.ms.length cy] ∧ MHas w' (.slice py y.ms.length cy) y.ms ∧ w'.cell? ⟨g, o + m * 3, none⟩ = some (.string u.x) ∧ Below w.heap.size w w') ⟨R, hyk, d2, hbel.drew⟩ ?_
      all_goals refine Calm.lm zb (fun _ h => Rw.whole h.1) Tryz.underlying67 ?_
      all_goals refine Calm.k1 hs (fun w1 h => C1 w1 h.2.1) ?_
      iterate 10 (all_goals refine Calm.sp ?_)
      all_goals first | refine Calm.sk ?_ | refine Calm.ce (v := .string u.x) (ad := ⟨g, o + m * 3, none⟩) (fun _ h => h.2.2.1) ?_
      all_goals refine Calm.sp ?_
      all_goals first | refine Calm.sk ?_ | refine Calm.ce (v := .string y.x) (ad := ⟨wr.heap.size, 0, none⟩) (fun _ h => h.1.cell 0) ?_
      iterate 3 (all_goals refine Calm.sp ?_)
      all_goals
       rintro w9 ⟨_, _, _, hbel9⟩
      go_wp2_with fail
      go_ret
      exact ⟨rfl, hbel9⟩
     ·have HV2 : Hid (∀ i (h : i < l.length), i < m + 1 + 1 → okb l i h = true) := fun i h hi => by
       rcases Nat.lt_or_ge i (m + 1) with h' | h'
       ·exact HV.out i h h'
       ·obtain rfl : i = m + 1 := by omega
        exact HO.out
      clear HV HO
      have hs : Calm.Stays (fun w' => Rw w' wr.heap.size 67 #[.string y.x, .bool y.b, .slice py y.ms.length cy] ∧ MHas w' (.slice py y.ms.length cy) y.ms ∧ w'.cell? ⟨g, o + m * 3, none⟩ = some (.string u.x) ∧ Below w.heap.size w w') := fun wa wb h hb => ⟨h.1.later hb, h.2.1.later hb, cell_later hb h.2.2.1, below_on h.2.2.2 hb⟩
      refine Calm.region (by kernel_rfl) (by kernel_rfl) (fun w' => Rw w' wr.heap.size 67 #[.string y.x, .bool y.b, .slice py y.ms.length cy] ∧ MHas w' (.slice py y.ms.length cy) y.ms ∧ w'.cell? ⟨g, o + m * 3, none⟩ = some (.string u.x) ∧ Below w.heap.size w w') ⟨R, hyk, d2, hbel.drew⟩ ?_
      all_goals refine Calm.lm zb (fun _ h => Rw.whole h.1) Tryz.underlying67 ?_
      all_goals refine Calm.k1 hs (fun w1 h => C1 w1 h.2.1) ?_
      iterate 10 (all_goals refine Calm.sp ?_)
      all_goals first | refine Calm.sk ?_ | refine Calm.ce (v := .string u.x) (ad := ⟨g, o + m * 3, none⟩) (fun _ h => h.2.2.1) ?_
      all_goals refine Calm.sp ?_
      all_goals first | refine Calm.sk ?_ | refine Calm.ce (v := .string y.x) (ad := ⟨wr.heap.size, 0, none⟩) (fun _ h => h.1.cell 0) ?_
      iterate 3 (all_goals refine Calm.sp ?_)
      all_goals
       rintro w9 ⟨_, _, _, hbel9⟩
      go_wp2_with fail
      go_roundw
      case rel => exact ⟨m + 1 + 1, by simp, by omega, HV2, hbel9⟩
      case measure => simp [intOf]; omega
  ·have hlt' : ¬ (k : Int) < (l.length : Int) := by omega
   have e := HZ.out
   rw [(cb_iff l).2 (fun i h => HV.out i h (by omega))] at e
   subst e
   clear HZ HV HR HY HL
   go_wp2_with fail
   go_ret
   exact ⟨rfl, hbel⟩
theorem check_any (x : X) (va vw vm ve : Value) (w : World) (h : Four w x va vw vm ve) (hs : Sm x) : Calls Tryz.prog 81 #[CV x.k x.b va vw vm ve] w (Tells (.bool (ck x)) w) := by
 obtain ⟨z, HZ⟩ := hid_ex (ck x)
 rw [HZ.out]
 obtain ⟨pa, ca', pw, cw, pm, cm, pe, ce, rfl, rfl, rfl, rfl⟩ := h.slices
 have HA : Hid (BHas w (.slice pm x.mb.length cm) x.mb) := h.m
 clear h
 obtain ⟨ha, ht, hm, he, _, _⟩ := hs
 have w1 : IntKind.i64.wrap ((x.am.length : Int) + (x.wr.length : Int)) = (x.am.length : Int) + (x.wr.length : Int) := by rw [IntKind.wrap_i64]; omega
 have w2 : IntKind.i64.wrap ((x.am.length : Int) + (x.wr.length : Int) + (x.el.length : Int)) = (x.am.length : Int) + (x.wr.length : Int) + (x.el.length : Int) := by rw [IntKind.wrap_i64]; omega
 have hz : Hid (z = (decide (x.k = 4) && (decide (x.b = 0) && (decide (x.am.length + x.wr.length + x.el.length = 0) && cb x.mb)))) := by
  show _ = _
  rw [← HZ.out]
  rfl
 clear HZ
 by_cases hk : x.k = 4
 ·by_cases hb : x.b = 0
  ·by_cases h0 : x.am.length + x.wr.length + x.el.length = 0
   ·have h0' : (x.am.length : Int) + (x.wr.length : Int) + (x.el.length : Int) = 0 := by omega
    obtain rfl : z = cb x.mb := by have := hz.out; simpa [hk, hb, h0] using this
    clear hz
    go_enter Tryz.func81, Tryz.ntmps81
    go_wp2_with fail
    refine (checkMembers_any _ _ _ (HA.out.later (bel_alloc (Below.refl _ _) _))).mono ?_
    rintro e w2 ⟨rfl, hb2⟩
    go_wp2_with fail
    go_ret
    exact ⟨rfl, below_on (bel_alloc (Below.refl _ _) _) hb2⟩
   ·have h0' : ¬ (x.am.length : Int) + (x.wr.length : Int) + (x.el.length : Int) = 0 := by omega
    obtain rfl : z = false := by have := hz.out; rw [decide_eq_false h0] at this; simpa using this
    clear hz h0
    go_enter Tryz.func81, Tryz.ntmps81
    go_wp2_with fail
    go_ret
    exact ⟨rfl, bel_alloc (Below.refl _ _) _⟩
  ·obtain rfl : z = false := by have := hz.out; rw [decide_eq_false hb] at this; simpa using this
   clear hz
   go_enter Tryz.func81, Tryz.ntmps81
   go_wp2_with fail
   go_ret
   exact ⟨rfl, bel_alloc (Below.refl _ _) _⟩
 ·obtain rfl : z = false := by have := hz.out; rw [decide_eq_false hk] at this; simpa using this
  clear hz
  go_enter Tryz.func81, Tryz.ntmps81
  go_wp2_with fail
  go_ret
  exact ⟨rfl, bel_alloc (Below.refl _ _) _⟩
end Go.Proofs.YtjbbmcommnhgeaaGreat.Os
namespace Go.Proofs.YtjbbmcommnhgeaaGreat.Os
open Go.RowKit Go.Maps Go.Sort Go.Shelf Go.Proofs
def keys59_ren : Go.Shelf.Ren := ⟨fun | 7 => 124 | 10 => 150 | n => n, fun | 23 => 111 | 26 => 9 | 3 => 67 | 28 => 148 | 0 => 0 | 27 => 147 | 33 => 165 | 4 => 4 | n => n, fun | n => n⟩
theorem keys59 : Go.Proofs.SlLaysZ.n7 Tryz.prog keys59_ren := {
 mixed := by kernel_rfl
 f7 := ⟨Tryz.f124.name, by decide, Tryz.func124.trans (congrArg some (by kernel_rfl))⟩
 f10 := ⟨Tryz.f150.name, by decide, Tryz.func150.trans (congrArg some (by kernel_rfl))⟩
 t0 := Tryz.underlying0
 a0 := Tryz.isAgg0
 z0 := Tryz.sizeOf0
 v0 := Tryz.zeroValue0
 t4 := Tryz.underlying4
 a4 := Tryz.isAgg4
 z4 := Tryz.sizeOf4
 v4 := Tryz.zeroValue4
 t23 := Tryz.underlying111
 a23 := Tryz.isAgg111
 z23 := Tryz.sizeOf111
 v23 := Tryz.zeroValue111
 t26 := Tryz.underlying9
 a26 := Tryz.isAgg9
 z26 := Tryz.sizeOf9
 v26 := Tryz.zeroValue9
 t27 := Tryz.underlying147
 a27 := Tryz.isAgg147
 z27 := Tryz.sizeOf147
 v27 := Tryz.zeroValue147
 t28 := Tryz.underlying148
 a28 := Tryz.isAgg148
 z28 := Tryz.sizeOf148
 v28 := Tryz.zeroValue148
 t33 := Tryz.underlying165
 a33 := Tryz.isAgg165
 z33 := Tryz.sizeOf165
 v33 := Tryz.zeroValue165 }
def sorted58_ren : Go.Shelf.Ren := ⟨fun | 6 => 123 | 8 => 148 | 9 => 149 | 11 => 162 | 13 => 164 | 12 => 163 | 23 => 176 | 24 => 177 | 14 => 167 | 15 => 168 | 16 => 169 | 17 => 170 | 18 => 171 | 19 => 172 | 20 => 173 | 21 => 174 | 22 => 175 | 25 => 178 | 26 => 179 | 27 => 180 | 28 => 181 | 29 => 182 | 30 => 183 | 31 => 184 | n => n, fun | 26 => 9 | 28 => 148 | 24 => 43 | 0 => 0 | 3 => 3 | 37 => 158 | 48 => 187 | 50 => 189 | 4 => 4 | 40 => 180 | 39 => 179 | 45 => 104 | 5 => 5 | 9 => 9 | 51 => 190 | 55 => 194 | 57 => 196 | 58 => 197 | 33 => 165 | n => n, fun | n => n⟩
theorem sorted58 : Go.Proofs.SlLaysZ.n6 Tryz.prog sorted58_ren := {
 mixed := by kernel_rfl
 f6 := ⟨Tryz.f123.name, by decide, Tryz.func123.trans (congrArg some (by kernel_rfl))⟩
 f8 := ⟨Tryz.f148.name, by decide, Tryz.func148.trans (congrArg some (by kernel_rfl))⟩
 f11 := ⟨Tryz.f162.name, by decide, Tryz.func162.trans (congrArg some (by kernel_rfl))⟩
 t0 := Tryz.underlying0
 a0 := Tryz.isAgg0
 z0 := Tryz.sizeOf0
 v0 := Tryz.zeroValue0
 t24 := Tryz.underlying43
 a24 := Tryz.isAgg43
 z24 := Tryz.sizeOf43
 v24 := Tryz.zeroValue43
 t26 := Tryz.underlying9
 a26 := Tryz.isAgg9
 z26 := Tryz.sizeOf9
 v26 := Tryz.zeroValue9
 t28 := Tryz.underlying148
 a28 := Tryz.isAgg148
 z28 := Tryz.sizeOf148
 v28 := Tryz.zeroValue148
 i26 := by kernel_rfl }
def sort69_ren : Go.Shelf.Ren := ⟨fun | 6 => 149 | 8 => 164 | 9 => 163 | 19 => 176 | 20 => 177 | 21 => 167 | 22 => 168 | 23 => 169 | 24 => 170 | 25 => 171 | 26 => 172 | 27 => 173 | 28 => 174 | 29 => 175 | 36 => 178 | 31 => 179 | 32 => 180 | 37 => 181 | 38 => 182 | 39 => 183 | 41 => 184 | n => n, fun | 27 => 43 | 29 => 9 | 3 => 3 | 32 => 158 | 26 => 43 | 0 => 0 | 44 => 187 | 46 => 189 | 4 => 4 | 36 => 180 | 35 => 179 | 41 => 104 | 5 => 5 | 9 => 9 | 53 => 190 | 57 => 194 | 63 => 196 | 64 => 197 | n => n, fun | n => n⟩
theorem sort69 : Go.Proofs.SlLaysM.n6 Tryz.prog sort69_ren := {
 mixed := by kernel_rfl
 f6 := ⟨Tryz.f149.name, by decide, Tryz.func149.trans (congrArg some (by kernel_rfl))⟩
 f8 := Tryz.func164.trans (congrArg some (by kernel_rfl))
 f9 := ⟨Tryz.f163.name, by decide, Tryz.func163.trans (congrArg some (by kernel_rfl))⟩
 f19 := Tryz.func176.trans (congrArg some (by kernel_rfl))
 f20 := Tryz.func177.trans (congrArg some (by kernel_rfl))
 f21 := ⟨Tryz.f167.name, by decide, Tryz.func167.trans (congrArg some (by kernel_rfl))⟩
 f22 := ⟨Tryz.f168.name, by decide, Tryz.func168.trans (congrArg some (by kernel_rfl))⟩
 f23 := ⟨Tryz.f169.name, by decide, Tryz.func169.trans (congrArg some (by kernel_rfl))⟩
 f24 := ⟨Tryz.f170.name, by decide, Tryz.func170.trans (congrArg some (by kernel_rfl))⟩
 f25 := ⟨Tryz.f171.name, by decide, Tryz.func171.trans (congrArg some (by kernel_rfl))⟩
 f26 := ⟨Tryz.f172.name, by decide, Tryz.func172.trans (congrArg some (by kernel_rfl))⟩
 f27 := ⟨Tryz.f173.name, by decide, Tryz.func173.trans (congrArg some (by kernel_rfl))⟩
 f28 := ⟨Tryz.f174.name, by decide, Tryz.func174.trans (congrArg some (by kernel_rfl))⟩
 f29 := ⟨Tryz.f175.name, by decide, Tryz.func175.trans (congrArg some (by kernel_rfl))⟩
 f31 := Tryz.func179.trans (congrArg some (by kernel_rfl))
 f32 := Tryz.func180.trans (congrArg some (by kernel_rfl))
 f36 := ⟨Tryz.f178.name, by decide, Tryz.func178.trans (congrArg some (by kernel_rfl))⟩
 f37 := ⟨Tryz.f181.name, by decide, Tryz.func181.trans (congrArg some (by kernel_rfl))⟩
 f38 := ⟨Tryz.f182.name, by decide, Tryz.func182.trans (congrArg some (by kernel_rfl))⟩
 f39 := ⟨Tryz.f183.name, by decide, Tryz.func183.trans (congrArg some (by kernel_rfl))⟩
 f41 := ⟨Tryz.f184.name, by decide, Tryz.func184.trans (congrArg some (by kernel_rfl))⟩
 t0 := Tryz.underlying0
 a0 := Tryz.isAgg0
 z0 := Tryz.sizeOf0
 v0 := Tryz.zeroValue0
 t3 := Tryz.underlying3
 a3 := Tryz.isAgg3
 z3 := Tryz.sizeOf3
 v3 := Tryz.zeroValue3
 t4 := Tryz.underlying4
 a4 := Tryz.isAgg4
 z4 := Tryz.sizeOf4
 v4 := Tryz.zeroValue4
 t5 := Tryz.underlying5
 a5 := Tryz.isAgg5
 z5 := Tryz.sizeOf5
 v5 := Tryz.zeroValue5
 t9 := Tryz.underlying9
 a9 := Tryz.isAgg9
 z9 := Tryz.sizeOf9
 v9 := Tryz.zeroValue9
 t26 := Tryz.underlying43
 a26 := Tryz.isAgg43
 z26 := Tryz.sizeOf43
 v26 := Tryz.zeroValue43
 t27 := Tryz.underlying43
 a27 := Tryz.isAgg43
 z27 := Tryz.sizeOf43
 v27 := Tryz.zeroValue43
 t29 := Tryz.underlying9
 a29 := Tryz.isAgg9
 z29 := Tryz.sizeOf9
 v29 := Tryz.zeroValue9
 t32 := Tryz.underlying158
 a32 := Tryz.isAgg158
 z32 := Tryz.sizeOf158
 v32 := Tryz.zeroValue158
 t35 := Tryz.underlying179
 a35 := Tryz.isAgg179
 z35 := Tryz.sizeOf179
 v35 := Tryz.zeroValue179
 t36 := Tryz.underlying180
 a36 := Tryz.isAgg180
 z36 := Tryz.sizeOf180
 v36 := Tryz.zeroValue180
 t41 := Tryz.underlying104
 a41 := Tryz.isAgg104
 z41 := Tryz.sizeOf104
 v41 := Tryz.zeroValue104
 t44 := Tryz.underlying187
 a44 := Tryz.isAgg187
 z44 := Tryz.sizeOf187
 v44 := Tryz.zeroValue187
 t46 := Tryz.underlying189
 a46 := Tryz.isAgg189
 z46 := Tryz.sizeOf189
 v46 := Tryz.zeroValue189
 t53 := Tryz.underlying190
 a53 := Tryz.isAgg190
 z53 := Tryz.sizeOf190
 v53 := Tryz.zeroValue190
 t57 := Tryz.underlying194
 a57 := Tryz.isAgg194
 z57 := Tryz.sizeOf194
 v57 := Tryz.zeroValue194
 t63 := Tryz.underlying196
 a63 := Tryz.isAgg196
 z63 := Tryz.sizeOf196
 v63 := Tryz.zeroValue196
 t64 := Tryz.underlying197
 a64 := Tryz.isAgg197
 z64 := Tryz.sizeOf197
 v64 := Tryz.zeroValue197 }
theorem sorts58 (m : Nat) : AnyZ.SortsIn Tryz.prog sorted58_ren Fence.wide m :=
  ⟨fun blk off cap ss W hH hblk hsz => callsIn_wide.2 (AnyM.slices_Sort_string sort69 blk off cap ss W hH hblk hsz),
   fun p cap W => callsIn_wide.2 (AnyM.slices_Sort_string_none sort69 p cap W)⟩
theorem maps_Keys_59 (mb : Option Nat) (W : World) : CallsIn Fence.wide 5 Tryz.prog 124 #[.map mb] W fun e w' => e = .returned (.func (.func 150) #[] #[.pointer (some ⟨W.heap.size, 0, none⟩)]) ∧ w' = W.alloc (.cells #[.map mb] 111) :=
 AnyZ.keys_in keys59 Fence.wide 5 trivial rfl mb W
theorem slices_Sorted_keys_58_59 {H : Type} (b nn : Nat) (D0 : DataW H) (R : Value → Option (DataW H × List MemPlace)) (w : World) (hown : w.ownsMap Tryz.prog 9 R b nn D0) (hmax : Maps.size D0 ≤ maxLen) (hbytes : Maps.size D0 * 16 ≤ 140737488355328) :
  CallsIn Fence.wide 5 Tryz.prog 123 #[.func (.func 150) #[] #[.pointer (some ⟨w.heap.size, 0, none⟩)]] (w.alloc (.cells #[.map (some b)] 111)) fun e w' => ∃ (v : Value) (ss : List (List UInt8)), e = .returned v ∧ ss.Perm (strKeys D0) ∧
   w'.ownsRow (w.alloc (.cells #[.map (some b)] 111)).heap.size 9 1 v ss.length ((ss.mergeSort (fun x y => decide (x ≤ y))).map encStr) ∧ (v = .slice none 0 0 ↔ ss = []) ∧ Below (w.alloc (.cells #[.map (some b)] 111)).heap.size (w.alloc (.cells #[.map (some b)] 111)) w' := by
 have hbl := hown.lt
 have hseq : SeqGives Fence.wide 2 Tryz.prog 150 #[.pointer (some ⟨w.heap.size, 0, none⟩)] encStr (fun ss => ss.Perm (strKeys D0)) (Maps.size D0) (w.alloc (.cells #[.map (some b)] 111)) :=
  AnyZ.keys_gives (ρ := keys59_ren) { keys59 with } Fence.wide _ trivial rfl (by omega) w.heap.size b nn D0 _ (by simp) (by simp) (by
   obtain ⟨es, clock, hb, Ft, hs, hD⟩ := hown
   exact ⟨es, clock, (Below.heap_alloc _ _ b hbl).trans hb, Ft, hs, hD⟩)
 exact AnyZ.sorted_in sorted58 Fence.wide 5 trivial trivial trivial trivial rfl (by omega) (sorts58 _) (enters_of Tryz.func149 (by kernel_rfl) rfl) 150 #[.pointer (some ⟨w.heap.size, 0, none⟩)] trivial (enters_of Tryz.func150 (by kernel_rfl) rfl) _ _ hmax hbytes _ hseq
end Go.Proofs.YtjbbmcommnhgeaaGreat.Os
namespace Go.Proofs.YtjbbmcommnhgeaaGreat.Os
open Go.RowKit Go.Sort Go.Maps Go.WideMaps
def vE (v : Value) : Option (DataW Value × List MemPlace) := some (.held v, [])
theorem law9 : Keyed Tryz.prog 9 := string_keyed Tryz.underlying9
abbrev MbV (y : Mb × Value) : Value := .agg (Mb.cells y).toArray
abbrev upB (ms : List (Mb × Value)) : Prop := ms.Pairwise (fun a b => tx a.1 < tx b.1)
def putV (z : Mb × Value) (ms : List (Mb × Value)) : List (Mb × Value) := ms.filter (fun a => decide (tx a.1 < tx z.1)) ++ z :: ms.filter (fun a => decide (tx z.1 < tx a.1))
def delV (s : Bs) (ms : List (Mb × Value)) : List (Mb × Value) := ms.filter (fun a => decide (tx a.1 ≠ s))
structure MapIs (D : DataW Value) (ms : List (Mb × Value)) : Prop where
 u : upB ms
 h : ∀ s : Bs, Maps.has D (.string s) = true ↔ ∃ y ∈ ms, tx y.1 = s
 a : ∀ y ∈ ms, ∀ z, D.atKey (.string (tx y.1)) z = .held (MbV y)
 m : Maps.IsMap D
theorem MapIs.nil : MapIs (.map []) [] := ⟨List.Pairwise.nil, (fun s => by simp [Maps.has_eq]), (fun y h => by cases h), Maps.isMap_empty⟩
theorem key_lit {s : Bs} : WideAt.IsKeyLit (.string s) := by first | trivial | (unfold WideAt.IsKeyLit; simp)
theorem lit_ne {a b : Bs} (h : a ≠ b) : Lit.string a ≠ Lit.string b := fun e => h (by simpa using e)
theorem mem_putV {z y : Mb × Value} {ms : List (Mb × Value)} (h : y ∈ putV z ms) : y = z ∨ (y ∈ ms ∧ tx y.1 ≠ tx z.1) := by
 unfold putV at h
 rcases List.mem_append.1 h with h | h
 ·obtain ⟨h1, h2⟩ := List.mem_filter.1 h
  refine .inr ⟨h1, fun e => ?_⟩
  rw [e] at h2
  exact Bs.irr _ (of_decide_eq_true h2)
 ·rcases List.mem_cons.1 h with h | h
  ·exact .inl h
  ·obtain ⟨h1, h2⟩ := List.mem_filter.1 h
   refine .inr ⟨h1, fun e => ?_⟩
   rw [e] at h2
   exact Bs.irr _ (of_decide_eq_true h2)
theorem putV_mem {z y : Mb × Value} {ms : List (Mb × Value)} (h : y ∈ ms) (hne : tx y.1 ≠ tx z.1) : y ∈ putV z ms := by
 unfold putV
 by_cases k : tx y.1 < tx z.1
 ·exact List.mem_append.2 (.inl (List.mem_filter.2 ⟨h, decide_eq_true k⟩))
 ·exact List.mem_append.2 (.inr (List.mem_cons_of_mem _ (List.mem_filter.2 ⟨h, decide_eq_true (Bs.tri k hne)⟩)))
theorem putV_self (z : Mb × Value) (ms : List (Mb × Value)) : z ∈ putV z ms := List.mem_append.2 (.inr (by simp))
theorem putV_up {z : Mb × Value} {ms : List (Mb × Value)} (h : upB ms) : upB (putV z ms) := by
 unfold upB putV
 rw [List.pairwise_append, List.pairwise_cons]
 refine ⟨h.filter _, ⟨fun a ha => by simpa using (List.mem_filter.1 ha).2, h.filter _⟩, fun a ha b hb => ?_⟩
 have h1 : tx a.1 < tx z.1 := by simpa using (List.mem_filter.1 ha).2
 rcases List.mem_cons.1 hb with rfl | hb
 ·exact h1
 ·exact Bs.trans h1 (by simpa using (List.mem_filter.1 hb).2)
theorem MapIs.put {D : DataW Value} {ms : List (Mb × Value)} (h : MapIs D ms) (z : Mb × Value) : MapIs (D.put (.string (tx z.1)) (.held (MbV z))) (putV z ms) := by
 refine ⟨putV_up h.u, fun s => ?_, fun y hy w => ?_, h.m.put _ _⟩
 ·by_cases e : s = tx z.1
  ·subst e
   rw [Maps.has_put_same h.m key_lit]
   exact ⟨fun _ => ⟨z, putV_self z ms, rfl⟩, fun _ => rfl⟩
  ·rw [Maps.has_put_other (lit_ne e), h.h]
   constructor
   ·rintro ⟨y, hy, rfl⟩
    exact ⟨y, putV_mem hy e, rfl⟩
   ·rintro ⟨y, hy, rfl⟩
    rcases mem_putV hy with rfl | h2
    ·exact absurd rfl e
    ·exact ⟨y, h2.1, rfl⟩
 ·rcases mem_putV hy with rfl | h2
  ·exact Maps.atKey_put_same h.m key_lit _ _
  ·rw [Maps.atKey_put_other (lit_ne h2.2)]
   exact h.a y h2.1 w
theorem MapIs.del {D : DataW Value} {ms : List (Mb × Value)} (h : MapIs D ms) (s : Bs) : MapIs (D.del (.string s)) (delV s ms) := by
 refine ⟨h.u.filter _, fun t => ?_, fun y hy w => ?_, h.m.del _⟩
 ·by_cases e : t = s
  ·subst e
   rw [Maps.has_del_same]
   refine ⟨(fun k => by cases k), fun ⟨y, hy, e⟩ => ?_⟩
   exact absurd e (by simpa using (List.mem_filter.1 hy).2)
  ·rw [Maps.has_del_other (lit_ne e), h.h]
   constructor
   ·rintro ⟨y, hy, rfl⟩
    exact ⟨y, List.mem_filter.2 ⟨hy, by simpa using e⟩, rfl⟩
   ·rintro ⟨y, hy, rfl⟩
    exact ⟨y, (List.mem_filter.1 hy).1, rfl⟩
 ·obtain ⟨h1, h2⟩ := List.mem_filter.1 hy
  rw [Maps.atKey_del_other (lit_ne (by simpa using h2))]
  exact h.a y h1 w
theorem MapIs.at {D : DataW Value} {ms : List (Mb × Value)} (h : MapIs D ms) {y : Mb × Value} (hy : y ∈ ms) {s : Bs} (e : tx y.1 = s) (z : DataW Value) : D.atKey (.string s) z = .held (MbV y) := by
 rw [← e]
 exact h.a y hy z
theorem MapIs.off {D : DataW Value} {ms : List (Mb × Value)} (h : MapIs D ms) {s : Bs} (hn : ∀ y ∈ ms, tx y.1 ≠ s) (z : DataW Value) : D.atKey (.string s) z = z :=
 Maps.atKey_of_not_has (by
  cases k : Maps.has D (.string s)
  ·rfl
  ·obtain ⟨y, hy, e⟩ := (h.h s).1 k
   exact absurd e (hn y hy)) z
theorem upB_up {ms : List (Mb × Value)} (h : upB ms) : up (ms.map (fun y => tx y.1)) := by
 unfold up
 rw [List.pairwise_map]
 exact h
theorem MapIs.sorted {w : World} {b n : Nat} {D : DataW Value} {ms : List (Mb × Value)} (h : MapIs D ms) (hown : w.ownsMap Tryz.prog 9 vE b n D) {ss : List Bs} (hp : ss.Perm (strKeys D)) : ss.mergeSort (fun x y => decide (x ≤ y)) = ms.map (fun y => tx y.1) := by
 have hc : Collected D (fun _ => false) (ms.map (fun y => tx y.1)) := ⟨up_nodup (upB_up h.u), fun x => by
  rw [List.mem_map]
  cases k : Maps.has D (.string x)
  ·simp
   intro a b hab e
   have := (h.h x).2 ⟨(a, b), hab, e⟩
   rw [k] at this
   cases this
  ·simp
   obtain ⟨y, hy, e⟩ := (h.h x).1 k
   exact ⟨y.1, ⟨y.2, hy⟩, e⟩⟩
 have h2 := hc.perm hown law9 Tryz.underlying9 (fun _ => rfl)
 have tr : ∀ a b c : List UInt8, leB a b = true → leB b c = true → leB a c = true := fun a b c h1 h2 => by simp only [leB, decide_eq_true_eq] at *; exact List.le_trans h1 h2
 rw [mergeSort_of_perm (hp.trans h2.symm)]
 refine List.mergeSort_of_pairwise ?_
 exact pair_of (upB_up h.u) fun a b k => by simpa using Bs.le_of k
section
variable {ops : Array Oper} {rest : List Oper} {o : Oper} {a : Act} {w : World} {Q : Exit → Act → World → Prop}
theorem lookup_v (hg : o.guard = none) (m x : Operand) (t : TypeId) (hop : o.op = Op.lookup t m x false)
  (k e : TypeId) (K : Keyed Tryz.prog k) (ht : Tryz.prog.underlying t = some (.map k e)) {z : Value} (hz : (zeroValue e).run Tryz.prog w = .ok z w) {b n : Nat} {D : DataW Value}
  (hm : a.eval m = .map (some b)) (hown : w.ownsMap Tryz.prog k vE b n D) {key : Value} {kl : Lit} (hx : a.eval x = key) (hkey : keyOf Tryz.prog k key = some kl) {v : Value} (hat : D.atKey kl (.held z) = .held v)
  (h : wpList Tryz.prog ops Q rest (a.put o.dst v) w) : wpList Tryz.prog ops Q (o :: rest) a w := by
 refine wpList_plain hg fun K' hK' => ?_
 obtain ⟨v', ps, hrun, hv⟩ := hown.lookup K ht hz (zd := .held z) (zp := []) rfl hkey
 rw [hat] at hv
 unfold vE at hv
 simp only [Option.some.injEq, Prod.mk.injEq, DataW.held.injEq] at hv
 obtain ⟨rfl, _⟩ := hv
 unfold Oper.wp
 simp [execOp, hop, hm, hx, hrun, Result.andThen]
 exact hK' _ _ h
end
end Go.Proofs.YtjbbmcommnhgeaaGreat.Os
