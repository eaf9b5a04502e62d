/- What two writes that have not seen each other come to. Nothing of the program. -/
import Derived.Test.YtknpnjhedfdggaaRDo
import Derived.Test.YtknpnjhedfdggaaTxt
namespace Go.Proofs.Ytknpnjhedfdggaa
open Go.RowKit
open Go.Sort

/-- Two writes that have not seen each other, done one behind the other. -/
theorem filter_insF {a : Wt} {f : Wt → Bool} (h : f a = true) (l : List Wt) : (insF a l).filter f = insF a (l.filter f) := by
  unfold insF
  rw [List.filter_append, List.filter_cons_of_pos h, List.filter_filter, List.filter_filter, List.filter_filter, List.filter_filter]
  congr 1
  · congr 1
    funext y
    exact Bool.and_comm _ _
  · congr 2
    funext y
    exact Bool.and_comm _ _
theorem lef_insF {a : Wt} {q u : Int} {v : List Int} {i : Int} (h : bf a.p a.s a.i q u v i = false) (l : List Wt) : lef (insF a l) q u v i = insF a (lef l q u v i) := filter_insF (by rw [h]; rfl) l
theorem lef_comm (l : List Wt) (q u : Int) (v : List Int) (i : Int) (q' u' : Int) (v' : List Int) (i' : Int) : lef (lef l q u v i) q' u' v' i' = lef (lef l q' u' v' i') q u v i := by
  unfold lef
  rw [List.filter_filter, List.filter_filter]
  congr 1
  funext y
  exact Bool.and_comm _ _
theorem has_lef {a : Wt} {l : List Wt} (h : has a l = false) (q u : Int) (v : List Int) (i : Int) : has a (lef l q u v i) = false := has_false.2 fun y hy => has_false.1 h y (List.mem_filter.1 hy).1
theorem ck_wr {x : X} (hc : ck x = true) {l : List Wt} (hl : ca l = true) : ck { x with wr := l } = true := by
  have h := ck_parts hc
  unfold ck
  simp only [Bool.and_eq_true, Bool.or_eq_true, decide_eq_true_eq]
  exact ⟨h.1, h.2.1, by omega, hl⟩
/-- What one write comes to. -/
abbrev oneX (x : X) (a : Wt) (v : List Int) : X := { x with wr := insF a (lef x.wr a.p a.s v a.i) }
theorem do_one {x : X} {a : Wt} {v : List Int} (hc : ck x = true) (hi : iw a.i a.x = true) (hn : has a x.wr = false) : doX x a v = oneX x a v := by
  unfold doX
  rw [hc, hi, hn]
  rfl
theorem ck_one {x : X} {a : Wt} {v : List Int} (hc : ck x = true) (hi : iw a.i a.x = true) (hn : has a x.wr = false) : ck (oneX x a v) = true := ck_wr hc (insF_ca (ca_filter (ck_parts hc).2.2.2.2.2 _) hi (has_lef hn _ _ _ _))
theorem sm_one {x : X} (h : Sm x) (hl : x.wr.length ≤ 61) (a : Wt) (v : List Int) : Sm (oneX x a v) := ⟨h.a, by show (insF a _).length ≤ 100; rw [insF_length]; have := lef_length x.wr a.p a.s v a.i; omega, h.m, h.e, h.mi, h.ei⟩
theorem one_length (x : X) (a : Wt) (v : List Int) : (oneX x a v).wr.length ≤ x.wr.length + 1 := by
  show (insF a _).length ≤ _
  rw [insF_length]
  have := lef_length x.wr a.p a.s v a.i
  omega
theorem has_one {x : X} {a b : Wt} {v : List Int} (h : mk a b = false) (hn : has b x.wr = false) : has b (oneX x a v).wr = false := by
  show has b (insF a _) = false
  rw [has_insF h]
  exact has_lef hn _ _ _ _
theorem one_comm {x : X} {a b : Wt} {v u : List Int} (h : mk a b = false) (h1 : bf a.p a.s a.i b.p b.s u b.i = false) (h2 : bf b.p b.s b.i a.p a.s v a.i = false) : oneX (oneX x a v) b u = oneX (oneX x b u) a v := by
  show ({ x with wr := insF b (lef (insF a (lef x.wr a.p a.s v a.i)) b.p b.s u b.i) } : X) = { x with wr := insF a (lef (insF b (lef x.wr b.p b.s u b.i)) a.p a.s v a.i) }
  rw [lef_insF h1, lef_insF h2, lef_comm x.wr b.p b.s u b.i, insF_comm h]
theorem ofR_len (x : ByteArray) (h : x.size ≤ 64) : iw 1 x = true := by
  unfold iw
  rw [decide_eq_true h]
  rfl
end Go.Proofs.Ytknpnjhedfdggaa
