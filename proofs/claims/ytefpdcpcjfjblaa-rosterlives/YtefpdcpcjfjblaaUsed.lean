/- withoutUsed and withoutName of package ops. -/
import Derived.Test.YtefpdcpcjfjblaaSmall
namespace Go.Proofs.Ytefpdcpcjfjblaa
open Go.RowKit
set_option maxHeartbeats 1000000 in
set_option maxRecDepth 100000 in
theorem withoutName_any (k : Int) (key field : ByteArray) (inner act n : Int) (text : ByteArray) (pl : Int) (w : World) : Calls Try.prog 72 #[UV k key field inner act n text pl] w (Tells (.tuple #[UV 0 noS (if k = 6 then noS else field) (if k = 6 then 0 else inner) act n text pl, .bool (wi key.size 1 64 && (!decide (k = 6) || (wi field.size 1 64 && wi inner 1 5)))]) w) := by
  unfold wi
  go_enter Try.func72, Try.ntmps72
  go_wp2
  all_goals
    refine bodyPost_ret (results_rt rfl rfl (rw_next _ (by simp) 81 _) rfl Try.underlying81 size81) rfl (tells_ub ?_ ?_ ?_)
    focus (first | rfl | (simp_all; done) | grind)
    focus (first | rfl | (simp_all; done) | grind)
    repeat refine bel_alloc ?_ _
    exact Below.refl _ _

/-- What withoutUsed tells, and leaves. -/
def uOk (d act n : Int) (text : ByteArray) (pl : Int) : Bool :=
  if d = 1 ∧ act = 1 then wi n (-1073741824) 1073741824
  else if d = 5 ∧ act = 2 then wi pl 0 1048576
  else if d = 5 ∧ act = 4 then wi pl 0 1048576 && decide ((text.size : Int) ≤ 64)
  else if (d = 2 ∧ act = 3) ∨ (d = 3 ∧ act = 3) ∨ (d = 4 ∧ act = 1) ∨ (d = 4 ∧ act = 2) then decide ((text.size : Int) ≤ 64)
  else decide (d = 6 ∧ act = 5)
def uN (d act n : Int) : Int := if d = 1 ∧ act = 1 then 0 else n
def uP (d act pl : Int) : Int := if d = 5 ∧ (act = 2 ∨ act = 4) then 0 else pl
def uT (d act : Int) (text : ByteArray) : ByteArray := if (d = 5 ∧ act = 4) ∨ (d = 2 ∧ act = 3) ∨ (d = 3 ∧ act = 3) ∨ (d = 4 ∧ act = 1) ∨ (d = 4 ∧ act = 2) then noS else text

theorem uv_eq {k : Int} {key field : ByteArray} {inner act n n' : Int} {text t' : ByteArray} {pl p' : Int} (hn : n = n') (ht : text = t') (hp : pl = p') : UV k key field inner act n text pl = UV k key field inner act n' t' p' := by subst hn ht hp; rfl
set_option maxHeartbeats 4000000 in
set_option maxRecDepth 100000 in
theorem withoutUsed_any (k : Int) (key field : ByteArray) (inner act n : Int) (text : ByteArray) (pl : Int) (w : World) : Calls Try.prog 71 #[UV k key field inner act n text pl] w (Tells (.tuple #[UV k key field inner 0 (uN (dk k inner act) act n) (uT (dk k inner act) act text) (uP (dk k inner act) act pl), .bool (uOk (dk k inner act) act n text pl)]) w) := by
  obtain ⟨d, HD⟩ : ∃ d, Hid (dk k inner act = d) := ⟨_, rfl⟩
  rw [HD.out]
  obtain ⟨n', HN⟩ : ∃ z, Hid (uN d act n = z) := ⟨_, rfl⟩
  obtain ⟨t', HT⟩ : ∃ z, Hid (uT d act text = z) := ⟨_, rfl⟩
  obtain ⟨p', HP⟩ : ∃ z, Hid (uP d act pl = z) := ⟨_, rfl⟩
  obtain ⟨o', HO⟩ : ∃ z, Hid (uOk d act n text pl = z) := ⟨_, rfl⟩
  rw [HN.out, HT.out, HP.out, HO.out]
  go_enter Try.func71, Try.ntmps71
  go_wp2_with fail
  refine (deedOf_any _ _ _ _ _ _ _ _ _).mono ?_
  rintro e w1 ⟨rfl, rfl⟩
  rw [HD.out]
  clear HD
  go_wp2
  all_goals
    refine bodyPost_ret (results_rt rfl rfl (((rw_next _ (by simp) 81 _).alloc _).alloc _) rfl Try.underlying81 size81) rfl (tells_ub (uv_eq ?_ ?_ ?_) ?_ ?_)
    focus (rw [← HN.out]; unfold uN; split <;> first | rfl | omega)
    focus (rw [← HT.out]; unfold uT; split <;> first | rfl | omega)
    focus (rw [← HP.out]; unfold uP; split <;> first | rfl | omega)
    focus (rw [← HO.out]; unfold uOk wi; (repeat' split) <;> first | rfl | omega | (simp; omega))
    repeat refine bel_alloc ?_ _
    exact Below.refl _ _
end Go.Proofs.Ytefpdcpcjfjblaa
