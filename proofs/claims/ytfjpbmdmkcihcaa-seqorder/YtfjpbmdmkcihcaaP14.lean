import Derived.Test.YtfjpbmdmkcihcaaP8
import Derived.Test.YtfjpbmdmkcihcaaP10
import Derived.Test.YtfjpbmdmkcihcaaP7
import Derived.Test.YtfjpbmdmkcihcaaP11
import Derived.Deep.Slices
/- The laws of the lists: what is removed is not there, all others are, in their order; an insertion behind what it has seen be gone is nothing. -/
namespace Go.Proofs.Ytfjpbmdmkcihcaa
open Go.RowKit

theorem gE_k (f : M → Bool) (m : M) (e : El) : kE (gE f m e) = kE e := by
  unfold gE
  split <;> rfl
theorem gE_r (f : M → Bool) (m : M) (e : El) : rE (gE f m e) = rE e := by
  unfold gE
  split <;> rfl
theorem gE_t (f : M → Bool) (m : M) (e : El) : (gE f m e).t = e.t := by
  unfold gE
  split <;> rfl
theorem gE_m (f : M → Bool) (m : M) (e : El) : mE (gE f m e) = mE e := by
  unfold gE
  split <;> rfl
theorem gE_ie {f : M → Bool} {m : M} {e : El} (h : ie e = true) (hm : im m.i = true) : ie (gE f m e) = true := by
  unfold gE
  split
  · unfold ie at h ⊢
    simp only [Bool.and_eq_true] at h ⊢
    exact ⟨h.1, h.2.1, wth_ca h.2.2 hm⟩
  · exact h
theorem mE_k (e : El) : kM (mE e) = kE e := rfl
/-- Nothing but what is gone changes. -/
structure Kps (g : El → El) : Prop where
  k : ∀ e, kE (g e) = kE e
  r : ∀ e, rE (g e) = rE e
  t : ∀ e, (g e).t = e.t
theorem gE_kps (f : M → Bool) (m : M) : Kps (gE f m) := ⟨gE_k f m, gE_r f m, gE_t f m⟩
theorem Kps.pl {g : El → El} (h : Kps g) (l : List El) (m : K) : pl (l.map g) m = pl l m := by
  unfold Go.Proofs.Ytfjpbmdmkcihcaa.pl
  rw [List.findIdx?_map]
  congr 1
  funext e
  simp [h.k]
theorem Kps.upL {g : El → El} (h : Kps g) (l : List El) : upL (l.map g) = upL l := by
  funext k
  unfold Go.Proofs.Ytfjpbmdmkcihcaa.upL
  rw [List.getElem?_map]
  cases l[k - 1]? with
  | none => rfl
  | some e => simp only [Option.map_some, h.r, h.pl]
theorem Kps.tmL {g : El → El} (h : Kps g) (l : List El) : tmL (l.map g) = tmL l := by
  funext k
  unfold Go.Proofs.Ytfjpbmdmkcihcaa.tmL
  rw [List.getElem?_map]
  cases l[k - 1]? with
  | none => rfl
  | some e => simp only [Option.map_some, h.t]
theorem Kps.odP {g : El → El} (h : Kps g) (l : List El) : odP (l.map g) = odP l := by
  funext p
  have e : lat (l.map g) = lat l := by
    funext a b
    unfold lat
    rw [h.tmL]
  unfold Go.Proofs.Ytfjpbmdmkcihcaa.odP
  rw [e, h.upL, List.length_map]
theorem Kps.cr {g : El → El} (h : Kps g) (l : List El) : cr (l.map g) = cr l := by
  unfold Go.Proofs.Ytfjpbmdmkcihcaa.cr okR noR
  rw [h.upL, List.length_map, List.all_map]
  congr 2
  funext e
  simp only [Function.comp, h.r, h.pl]
theorem Kps.ce {g : El → El} (h : Kps g) {l : List El} (hc : ce l = true) (hi : ∀ e ∈ l, ie (g e) = true) : ce (l.map g) = true := by
  refine ce_of (fun e he => ?_) ?_
  · obtain ⟨a, ha, rfl⟩ := List.mem_map.1 he
    exact hi a ha
  · rw [List.pairwise_map]
    refine (ce_up hc).imp_of_mem ?_
    intro a b _ _ hab
    rw [h.k, h.k]
    exact hab
theorem ck_go {x : X} {m : M} {f : M → Bool} (h : ck x = true) (hm : im m.i = true) : ck (goX x m f) = true := by
  have h' := h
  obtain ⟨h1, h2, h3, h4, h5, h6, h7⟩ := ck_parts h
  unfold goX
  rw [if_pos (by rw [h, hm]; rfl)]
  unfold ck
  simp only [Bool.and_eq_true, decide_eq_true_eq]
  exact ⟨h1, h2, by omega, (gE_kps f m).ce h6 (fun e he => gE_ie (ce_ie h6 e he) hm), by rw [(gE_kps f m).cr]; exact h7⟩
theorem el_go {x : X} {m : M} {f : M → Bool} (h : ck x = true) (hm : im m.i = true) : (goX x m f).el = x.el.map (gE f m) := by
  unfold goX
  rw [if_pos (by rw [h, hm]; rfl)]
theorem el_go_len (x : X) (m : M) (f : M → Bool) : (goX x m f).el.length = x.el.length := by
  unfold goX
  split
  · exact List.length_map _
  · rfl
/-- An insertion behind an element that it has seen be gone is nothing. -/
theorem ins_not {x : X} {e : El} {p : M → Bool} (h : tk x.el (rE e) p = false) : insX x e p = x := by
  unfold insX
  rw [h, if_neg (by simp)]
theorem tk_go {l : List El} {f : M → Bool} {m : M} {r : K} {p : M → Bool} (hr : r ≠ zK) (hf : ∀ e, kE e = r → f (mE e) = true) (hp : p m = true) : tk (l.map (gE f m)) r p = false := by
  unfold tk
  rw [decide_eq_false hr, Bool.false_or]
  cases h : (l.map (gE f m)).find? (fun e => decide (kE e = r)) with
  | none => rfl
  | some e =>
    have h1 := List.find?_some h
    obtain ⟨a, ha, rfl⟩ := List.mem_map.1 (List.mem_of_find?_eq_some h)
    rw [decide_eq_true_iff, gE_k] at h1
    have h2 : (gE f m a).gone = wth a.gone m := by
      unfold gE
      rw [if_pos (hf a h1)]
    have h3 : (gE f m a).gone.any p = true := by
      rw [h2]
      exact List.any_eq_true.2 ⟨m, wth_mem _ _, hp⟩
    show (!(gE f m a).gone.any p) = false
    rw [h3]
    rfl
theorem ie_nz {e : El} (h : ie e = true) : kE e ≠ zK := by
  intro hc
  unfold ie at h
  rw [Bool.and_eq_true] at h
  have h1 := h.1
  have h2 : e.i = 0 := congrArg (fun a : K => a.2.2) hc
  rw [h2] at h1
  simp [im] at h1
theorem sees_eq {x : X} {m r : M} {e : El} {p : M → Bool} (hc : ck x = true) (hm : im m.i = true) {a : El} (ha : a ∈ x.el) (hr : kM r = kE a) (he : rE e = kM r) (hp : p m = true) : insX (goX x m (fun y => decide (kM y = kM r))) e p = goX x m (fun y => decide (kM y = kM r)) := by
  refine ins_not ?_
  rw [el_go hc hm, he]
  refine tk_go ?_ (fun b hb => ?_) hp
  · rw [hr]
    exact ie_nz (ce_ie (ck_parts hc).2.2.2.2.2.1 a ha)
  · rw [decide_eq_true_iff, mE_k, hb]
/-- What is removed is not there any more, all others are, in their order. -/
theorem prL_go {l : List El} {r : K} {m : M} (ks : List Nat) : (prL nog (l.map (gE (fun y => decide (kM y = r)) m)) ks).map mE = ((prL nog l ks).map mE).filter (fun y => decide (kM y ≠ r)) := by
  induction ks with
  | nil => rfl
  | cons k ks ih =>
    unfold prL at ih ⊢
    rw [List.filterMap_cons, List.filterMap_cons, List.getElem?_map]
    cases hk : l[k - 1]? with
    | none =>
      simp only [Option.map_none, Option.bind_none]
      exact ih
    | some y =>
      simp only [Option.map_some, Option.bind_some]
      by_cases hy : kE y = r
      · have e1 : nog (gE (fun y => decide (kM y = r)) m y) = false := by
          unfold gE nog
          rw [if_pos (by rw [decide_eq_true_iff, mE_k, hy])]
          have := wth_ne y.gone m
          simp only [decide_eq_false_iff_not]
          omega
        rw [e1, if_neg (by simp)]
        by_cases hn : nog y = true
        · rw [if_pos hn]
          simp only [List.map_cons]
          rw [List.filter_cons, if_neg (by simp [mE_k, hy])]
          exact ih
        · rw [if_neg hn]
          exact ih
      · have e1 : gE (fun y => decide (kM y = r)) m y = y := by
          unfold gE
          rw [if_neg (by rw [decide_eq_true_iff, mE_k]; exact hy)]
        rw [e1]
        by_cases hn : nog y = true
        · rw [if_pos hn]
          simp only [List.map_cons]
          rw [List.filter_cons, if_pos (by simp [mE_k, hy]), ih]
        · rw [if_neg hn]
          exact ih
theorem or_go {x : X} {m : M} {r : K} (hc : ck x = true) (hm : im m.i = true) : orX (goX x m (fun y => decide (kM y = r))) = (orX x).filter (fun y => decide (kM y ≠ r)) := by
  unfold orX
  rw [if_pos hc, if_pos (ck_go hc hm), el_go hc hm]
  unfold prE
  rw [(gE_kps _ m).odP]
  exact prL_go _
theorem filter_at {α β : Type} [DecidableEq β] (f : α → β) : ∀ (l : List α), (l.map f).Nodup → ∀ (k : Nat) (hk : k < l.length), l.filter (fun y => decide (f y ≠ f l[k])) = l.take k ++ l.drop (k + 1)
  | [], _, _, hk => by simp at hk
  | a :: t, hn, 0, _ => by
    rw [List.map_cons, List.nodup_cons] at hn
    simp only [List.getElem_cons_zero, List.take_zero, List.nil_append, List.drop_succ_cons, List.drop_zero]
    rw [List.filter_cons, if_neg (by simp), List.filter_eq_self.2]
    intro b hb
    rw [decide_eq_true_iff]
    intro hc
    exact hn.1 (List.mem_map.2 ⟨b, hb, hc⟩)
  | a :: t, hn, k + 1, hk => by
    rw [List.map_cons, List.nodup_cons] at hn
    have hk' : k < t.length := by simpa using hk
    simp only [List.getElem_cons_succ, List.take_succ_cons, List.cons_append, List.drop_succ_cons]
    rw [List.filter_cons, if_pos, filter_at f t hn.2 k hk']
    rw [decide_eq_true_iff]
    intro hc
    exact hn.1 (List.mem_map.2 ⟨_, List.getElem_mem hk', hc.symm⟩)
theorem or_nodup {x : X} : ((orX x).map kM).Nodup := by
  unfold orX
  split
  · rename_i hc
    obtain ⟨_, _, _, _, _, h6, h7⟩ := ck_parts hc
    have hp := od_perm h7
    have hu := ce_up h6
    have hn : (odP x.el 0).Nodup := hp.nodup_iff.2 (plc_nodup _)
    rw [List.map_map]
    unfold prE prL List.Nodup
    rw [List.pairwise_map, List.pairwise_filterMap]
    refine hn.imp_of_mem ?_
    intro a b ha hb hab y hy z hz hc
    have ha' := plc_mem.1 (hp.mem_iff.1 ha)
    have hb' := plc_mem.1 (hp.mem_iff.1 hb)
    rw [List.getElem?_eq_getElem (by omega), Option.bind_some] at hy hz
    split at hy
    · split at hz
      · cases hy
        cases hz
        have := up_inj hu (i := a - 1) (j := b - 1) (by omega) (by omega) hc
        exact hab (by omega)
      · cases hz
    · cases hy
  · exact List.nodup_nil
/-- SeqGoes. -/
theorem goes_eq {x : X} {m : M} (hc : ck x = true) (hm : im m.i = true) (k : Nat) (hk : k < (orX x).length) : orX (goX x m (fun y => decide (kM y = kM (orX x)[k]))) = (orX x).take k ++ (orX x).drop (k + 1) := by
  rw [or_go hc hm, filter_at kM (orX x) or_nodup k hk]
end Go.Proofs.Ytfjpbmdmkcihcaa
/- Arguments that are marks, dots, updates, ops, transactions. -/
namespace Go.Proofs.Ytfjpbmdmkcihcaa
open Go.ChangeShapes Go.WideShapes Go.ChangeAt Go.RowKit

/-- A slice of ops that is nil, or lies somewhere. -/
def OIs (w : World) (v : Value) (l : List O) : Prop := l.length ≤ maxLen ∧ ((v = .slice none 0 0 ∧ l = []) ∨ ∃ ad c, v = .slice (some ad) l.length c ∧ (0 < l.length → ∃ g o, ad = ⟨g, o, none⟩ ∧ ∀ i (h : i < l.length), w.rangeAt g (o + i * 10) l[i].cells))
theorem OIs.has {w : World} {v : Value} {l : List O} (h : OIs w v l) : OHas w v l := by
  obtain ⟨hm, ⟨rfl, rfl⟩ | ⟨ad, c, rfl, hd⟩⟩ := h
  · exact ⟨none, 0, rfl, hm, fun h => by simp at h⟩
  · refine ⟨_, c, rfl, hm, fun h => ?_⟩
    obtain ⟨g, o, rfl, hd2⟩ := hd h
    exact ⟨g, o, rfl, hd2⟩
theorem OIs.later {w w' : World} {v : Value} {l : List O} (h : OIs w v l) (hb : Below w.heap.size w w') : OIs w' v l := by
  obtain ⟨hm, ⟨rfl, rfl⟩ | ⟨ad, c, rfl, hd⟩⟩ := h
  · exact ⟨hm, .inl ⟨rfl, rfl⟩⟩
  · refine ⟨hm, .inr ⟨ad, c, rfl, fun h => ?_⟩⟩
    obtain ⟨g, o, rfl, hd2⟩ := hd h
    exact ⟨g, o, rfl, fun i hi => range_later (hd2 i hi) hb⟩
theorem vals_of_ints : ∀ (cs : List Value), (∀ i (h : i < cs.length), ∃ n : Int, cs[i] = .int .i64 n) → ∃ l : List Int, cs = vals l
  | [], _ => ⟨[], rfl⟩
  | c :: cs, h => by
    obtain ⟨n, hn⟩ := h 0 (by simp)
    obtain ⟨l, hl⟩ := vals_of_ints cs (fun i hi => by have := h (i + 1) (by simpa using hi); simpa using this)
    refine ⟨n :: l, ?_⟩
    simp only [List.getElem_cons_zero] at hn
    rw [hn, hl]
    rfl

section
variable {H : Type} {enc : TypeId × Value → H} {w : World} {base : Nat} {spare : Nat → Bool} {held : Bool}
theorem c3 : Try.prog.cellsOf 3 = 1 := by kernel_rfl
theorem c9 : Try.prog.cellsOf 9 = 1 := by kernel_rfl
theorem c29 : Try.prog.cellsOf 29 = 2 := by kernel_rfl
theorem c31 : Try.prog.cellsOf 31 = 13 := by kernel_rfl
theorem c32 : Try.prog.cellsOf 32 = 1 := by kernel_rfl
theorem c40 : Try.prog.cellsOf 39 = 3 := by kernel_rfl
theorem c67 : Try.prog.cellsOf 70 = 10 := by kernel_rfl
theorem c34 : Try.prog.cellsOf 34 = 17 := by kernel_rfl
set_option maxRecDepth 100000 in
theorem cells_dot {fuel : Nat} {cs : List Value} {x : DataW H × List MemPlace} (h : DataW.trod enc Try.prog w base spare held fuel 29 cs = some x) : ∃ p s, cs = [.int .i64 p, .int .i64 s] := by
  obtain ⟨xs, k, rfl, _, hcl, hxl, hf⟩ := DataW.trod_struct Try.underlying29 h
  rw [c29] at hcl
  match xs, hxl, cs, hcl with
  | [y0, y1], _, [v0, v1], _ =>
    have g0 := hf 0 _ rfl
    have g1 := hf 1 _ rfl
    simp [c3] at g0 g1
    obtain ⟨n0, h0, _⟩ := DataW.trod_int Try.underlying3 g0
    obtain ⟨n1, h1, _⟩ := DataW.trod_int Try.underlying3 g1
    simp at h0 h1
    exact ⟨n0, n1, by rw [h0, h1]⟩
set_option maxRecDepth 100000 in
theorem cells_mark {fuel : Nat} {cs : List Value} {x : DataW H × List MemPlace} (h : DataW.trod enc Try.prog w base spare held fuel 39 cs = some x) : ∃ p s i, cs = [.int .i64 p, .int .i64 s, .int .i64 i] := by
  obtain ⟨xs, k, rfl, _, hcl, hxl, hf⟩ := DataW.trod_struct Try.underlying39 h
  rw [c40] at hcl
  match xs, hxl, cs, hcl with
  | [y0, y1], _, [v0, v1, v2], _ =>
    have g0 := hf 0 _ rfl
    have g1 := hf 1 _ rfl
    simp [c3, c29] at g0 g1
    obtain ⟨p, s, h0⟩ := cells_dot g0
    obtain ⟨n1, h1, _⟩ := DataW.trod_int Try.underlying3 g1
    simp at h0 h1
    exact ⟨p, s, n1, by rw [h0.1, h0.2, h1]⟩
set_option maxRecDepth 100000 in
theorem cells_op {fuel : Nat} {cs : List Value} {x : DataW H × List MemPlace} (h : DataW.trod enc Try.prog w base spare held fuel 70 cs = some x) : ∃ o : O, cs = o.cells := by
  obtain ⟨xs, k, rfl, _, hcl, hxl, hf⟩ := DataW.trod_struct Try.underlying70 h
  rw [c67] at hcl
  match xs, hxl, cs, hcl with
  | [y0, y1, y2, y3, y4, y5, y6, y7], _, [v0, v1, v2, v3, v4, v5, v6, v7, v8, v9], _ =>
    have g0 := hf 0 _ rfl
    have g1 := hf 1 _ rfl
    have g2 := hf 2 _ rfl
    have g3 := hf 3 _ rfl
    have g4 := hf 4 _ rfl
    have g5 := hf 5 _ rfl
    have g6 := hf 6 _ rfl
    have g7 := hf 7 _ rfl
    simp [c3, c9, c40] at g0 g1 g2 g3 g4 g5 g6 g7
    obtain ⟨n0, h0, _⟩ := DataW.trod_int Try.underlying3 g0
    obtain ⟨n1, h1, _⟩ := DataW.trod_string Try.underlying9 g1
    obtain ⟨n2, h2, _⟩ := DataW.trod_string Try.underlying9 g2
    obtain ⟨n3, h3, _⟩ := DataW.trod_int Try.underlying3 g3
    obtain ⟨n4, h4, _⟩ := DataW.trod_int Try.underlying3 g4
    obtain ⟨n5, h5, _⟩ := DataW.trod_int Try.underlying3 g5
    obtain ⟨n6, h6, _⟩ := DataW.trod_string Try.underlying9 g6
    obtain ⟨p, s, i, h7⟩ := cells_mark g7
    simp at h0 h1 h2 h3 h4 h5 h6 h7
    obtain ⟨h7, h8, h9⟩ := h7
    exact ⟨⟨n0, n1, n2, n3, n4, n5, n6, p, s, i⟩, by rw [h0, h1, h2, h3, h4, h5, h6, h7, h8, h9]⟩
set_option maxRecDepth 100000 in
theorem cells_ops {fuel : Nat} {cs : List Value} {x : DataW H × List MemPlace} (h : DataW.trod enc Try.prog w base spare held fuel 32 cs = some x) : ∃ (v : Value) (l : List O), cs = [v] ∧ OIs w v l := by
  rcases DataW.trod_slice Try.underlying32 h with ⟨h0, _⟩ | ⟨a, len, cap, elems, rest, m, hm, hcs, _, hba, hl, hmx, hlen, hel, _, _⟩
  · exact ⟨_, [], h0, Nat.zero_le _, .inl ⟨rfl, rfl⟩⟩
  · have each : ∀ i, i < len → ∃ o : O, ∀ j u, o.cells[j]? = some u → w.cell? (a.add (i * 10 + j)) = some u := by
      intro i hi
      have hi' := hel i hi
      rw [c67, List.getElem?_eq_getElem (by omega)] at hi'
      obtain ⟨cs', h1, h2⟩ := Option.bind_eq_some_iff.1 hi'
      obtain ⟨_, hlen', hcell⟩ := World.cells?_some h1
      obtain ⟨o, rfl⟩ := cells_op h2
      refine ⟨o, fun j u hu => ?_⟩
      have hj : j < 10 := (List.getElem?_eq_some_iff.1 hu).1
      have e := hcell j (by omega)
      rw [Deep.add_add] at e
      rw [e]
      exact hu
    have hinh : Inhabited O := ⟨⟨0, noS, noS, 0, 0, 0, noS, 0, 0, 0⟩⟩
    obtain ⟨f, hk⟩ := Deep.choose_lt each
    refine ⟨_, (List.range len).map f, hcs, by simp; omega, .inr ⟨a, cap, by simp, fun h0 => ?_⟩⟩
    have h0' : 0 < len := by simpa using h0
    obtain ⟨b, off, spot⟩ := a
    have q0 := hk 0 h0' 0 _ rfl
    have hspot : spot = none := by simpa [Addr.add] using World.cell?_spot q0
    subst hspot
    refine ⟨b, off, rfl, fun i hi j u hu => ?_⟩
    have hi' : i < len := by simpa using hi
    have := hk i hi' j u (by simpa using hu)
    rw [Addr.add_mid] at this
    rw [Nat.add_assoc]
    exact this
set_option maxRecDepth 100000 in
theorem cells_tx {fuel : Nat} {cs : List Value} {x : DataW H × List MemPlace} (h : DataW.trod enc Try.prog w base spare held fuel 34 cs = some x) : ∃ (p s : Int) (v : List Int) (t : Int) (sl : Value) (l : List O), cs = txc p s v t sl ∧ v.length = 13 ∧ OIs w sl l := by
  obtain ⟨xs, k, rfl, _, hcl, hxl, hf⟩ := DataW.trod_struct Try.underlying34 h
  rw [c34] at hcl
  match xs, hxl with
  | [y0, y1, y2, y3], _ =>
    have g0 := hf 0 _ rfl
    have g1 := hf 1 _ rfl
    have g2 := hf 2 _ rfl
    have g3 := hf 3 _ rfl
    simp [c3, c29, c31, c32] at g0 g1 g2 g3
    obtain ⟨p, s, h0⟩ := cells_dot g0
    obtain ⟨xs1, m, _, _, hlen, hxs, hi⟩ := DataW.trod_array Try.underlying31 g1
    obtain ⟨v, hv⟩ := vals_of_ints ((cs.drop 2).take 13) (fun i hlt => by
      have hi13 : i < 13 := by simp at hlt; omega
      have hq := hi i hi13
      rw [c3, List.getElem?_eq_getElem (show i < xs1.length by omega)] at hq
      obtain ⟨n, hn, _⟩ := DataW.trod_int Try.underlying3 hq
      refine ⟨n, ?_⟩
      rw [Nat.mul_one, List.drop_eq_getElem_cons hlt] at hn
      simpa using hn)
    have hv13 : v.length = 13 := by
      have := congrArg List.length hv
      rw [vals_length] at this
      simp at this
      omega
    obtain ⟨t, h2, _⟩ := DataW.trod_int Try.underlying3 g2
    obtain ⟨sl, l, h3, hl⟩ := cells_ops g3
    refine ⟨p, s, v, t, sl, l, ?_, hv13, hl⟩
    unfold txc
    rw [← hv]
    match cs, hcl with
    | [a0, a1, a2, a3, a4, a5, a6, a7, a8, a9, a10, a11, a12, a13, a14, a15, a16], _ =>
      simp at h0 h2 h3 ⊢
      exact ⟨h0.1, h0.2, h2, h3⟩


theorem rows_split {α : Type} {f : α → List Value} {S : Nat} (hf : ∀ x, (f x).length = S) : ∀ (l : List α) (j : Nat) (u : Value), (rows f l)[j]? = some u → ∃ i r, ∃ h : i < l.length, r < S ∧ j = i * S + r ∧ (f l[i])[r]? = some u
  | [], j, u, h => by simp [rows] at h
  | x :: l, j, u, h => by
    rw [rows_cons] at h
    rcases Nat.lt_or_ge j S with hj | hj
    · rw [List.getElem?_append_left (by rw [hf]; exact hj)] at h
      exact ⟨0, j, by simp, hj, by omega, h⟩
    · rw [List.getElem?_append_right (by rw [hf]; exact hj), hf] at h
      obtain ⟨i, r, hi, hr, e, hu⟩ := rows_split hf l (j - S) u h
      exact ⟨i + 1, r, by simpa using hi, hr, by rw [Nat.succ_mul]; omega, hu⟩
theorem c4 : Try.prog.cellsOf 4 = 1 := by kernel_rfl
theorem c22 : Try.prog.cellsOf 22 = 1 := by kernel_rfl
theorem c23 : Try.prog.cellsOf 23 = 1 := by kernel_rfl
theorem c24 : Try.prog.cellsOf 24 = 1 := by kernel_rfl
theorem c25 : Try.prog.cellsOf 25 = 1 := by kernel_rfl
theorem c27 : Try.prog.cellsOf 27 = 6 := by kernel_rfl
theorem c42 : Try.prog.cellsOf 78 = 4 := by kernel_rfl
theorem c58 : Try.prog.cellsOf 63 = 5 := by kernel_rfl
theorem c59 : Try.prog.cellsOf 41 = 1 := by kernel_rfl
theorem c61 : Try.prog.cellsOf 65 = 3 := by kernel_rfl
theorem c63 : Try.prog.cellsOf 43 = 9 := by kernel_rfl
theorem by42 : Try.prog.bytesOf 78 = 32 := by kernel_rfl
theorem by58 : Try.prog.bytesOf 63 = 48 := by kernel_rfl
theorem by61 : Try.prog.bytesOf 65 = 48 := by kernel_rfl
theorem by63 : Try.prog.bytesOf 43 = 96 := by kernel_rfl
set_option maxRecDepth 100000 in
/-- A slice whose elements are known one by one. -/
theorem cells_rows {α : Type} [Inhabited α] {ts e S : Nat} (hu : Try.prog.underlying ts = some (.slice e)) (hS : Try.prog.cellsOf e = S) (hS0 : 0 < S) (f : α → List Value) (Pr : α → Prop) (hf : ∀ y, (f y).length = S)
    (each : ∀ (fuel : Nat) (cs : List Value) (x : DataW H × List MemPlace), DataW.trod enc Try.prog w base spare held fuel e cs = some x → ∃ y, cs = f y ∧ Pr y) {fuel : Nat} {cs : List Value} {x : DataW H × List MemPlace} (h : DataW.trod enc Try.prog w base spare held fuel ts cs = some x) :
    ∃ (v : Value) (l : List α), cs = [v] ∧ SHas S w v l.length (rows f l) ∧ (∀ y ∈ l, Pr y) ∧ ∀ b, (DataW.weights Try.prog ts x.1).all (· ≤ b) = true → l.length * Try.prog.bytesOf e ≤ b := by
  rcases DataW.trod_slice hu h with ⟨h0, hx⟩ | ⟨a, len, cap, elems, rest, m, hm, hcs, hx, hba, hl, hmx, hlen, hel, _, _⟩
  · exact ⟨_, [], h0, SHas.nil w S, (fun _ h => by cases h), fun b _ => by simp⟩
  · have one : ∀ i, i < len → ∃ y : α, (∀ j u, (f y)[j]? = some u → w.cell? (a.add (i * S + j)) = some u) ∧ Pr y := by
      intro i hi
      have hi' := hel i hi
      rw [hS, List.getElem?_eq_getElem (by omega)] at hi'
      obtain ⟨cs', h1, h2⟩ := Option.bind_eq_some_iff.1 hi'
      obtain ⟨_, hlen', hcell⟩ := World.cells?_some h1
      obtain ⟨y, rfl, hy⟩ := each _ _ _ h2
      refine ⟨y, fun j u hu => ?_, hy⟩
      have hj : j < S := by have := (List.getElem?_eq_some_iff.1 hu).1; rw [hf] at this; exact this
      have e := hcell j (by omega)
      rw [Deep.add_add] at e
      rw [e]
      exact hu
    obtain ⟨g, hk⟩ := Deep.choose_lt one
    have hll : ((List.range len).map g).length = len := by simp
    refine ⟨_, (List.range len).map g, hcs, ⟨by rw [hll]; omega, by rw [rows_length hf], .inr ⟨a, cap, by rw [hll], ⟨by rw [hll]; omega, by omega⟩, fun h0 => ?_⟩⟩, ?_, ?_⟩
    · have h0' : 0 < len := by simpa using h0
      obtain ⟨b, off, spot⟩ := a
      obtain ⟨u0, hu0⟩ : ∃ u0, (f (g 0))[0]? = some u0 := ⟨(f (g 0))[0]'(by rw [hf]; exact hS0), List.getElem?_eq_getElem _⟩
      have q0 := (hk 0 h0').1 0 _ hu0
      have hspot : spot = none := by simpa [Addr.add] using World.cell?_spot q0
      subst hspot
      refine ⟨b, off, rfl, fun j u hu => ?_⟩
      obtain ⟨i, r, hi, hr, rfl, hq⟩ := rows_split hf _ j u hu
      have hi' : i < len := by simpa using hi
      have := (hk i hi').1 r u (by simpa using hq)
      rw [Addr.add_mid] at this
      exact this
    · intro y hy
      obtain ⟨i, hi, rfl⟩ := List.mem_map.1 hy
      exact (hk i (by simpa using hi)).2
    · intro b hb
      rw [hx] at hb
      simp only [DataW.weights, hu, List.all_cons, Bool.and_eq_true, decide_eq_true_eq, List.length_map] at hb
      rw [hll, ← hlen]
      exact Nat.le_trans (Nat.mul_le_mul_right _ (Nat.le_add_right _ _)) hb.1
set_option maxRecDepth 100000 in
theorem cells_amount {fuel : Nat} {cs : List Value} {x : DataW H × List MemPlace} (h : DataW.trod enc Try.prog w base spare held fuel 78 cs = some x) : ∃ y : A, cs = y.cells := by
  obtain ⟨xs, k, rfl, _, hcl, hxl, hf⟩ := DataW.trod_struct Try.underlying78 h
  rw [c42] at hcl
  match xs, hxl, cs, hcl with
  | [y0, y1], _, [v0, v1, v2, v3], _ =>
    have g0 := hf 0 _ rfl
    have g1 := hf 1 _ rfl
    simp [c3, c40] at g0 g1
    obtain ⟨p, s, i, h0⟩ := cells_mark g0
    obtain ⟨n1, h1, _⟩ := DataW.trod_int Try.underlying3 g1
    simp at h0 h1
    exact ⟨⟨p, s, i, n1⟩, by rw [h0.1, h0.2.1, h0.2.2, h1]⟩
set_option maxRecDepth 100000 in
theorem cells_write {fuel : Nat} {cs : List Value} {x : DataW H × List MemPlace} (h : DataW.trod enc Try.prog w base spare held fuel 63 cs = some x) : ∃ y : Wt, cs = y.cells := by
  obtain ⟨xs, k, rfl, _, hcl, hxl, hf⟩ := DataW.trod_struct Try.underlying63 h
  rw [c58] at hcl
  match xs, hxl, cs, hcl with
  | [y0, y1, y2], _, [v0, v1, v2, v3, v4], _ =>
    have g0 := hf 0 _ rfl
    have g1 := hf 1 _ rfl
    have g2 := hf 2 _ rfl
    simp [c3, c9, c40] at g0 g1 g2
    obtain ⟨p, s, i, h0⟩ := cells_mark g0
    obtain ⟨n1, h1, _⟩ := DataW.trod_int Try.underlying3 g1
    obtain ⟨n2, h2, _⟩ := DataW.trod_string Try.underlying9 g2
    simp at h0 h1 h2
    exact ⟨⟨p, s, i, n1, n2⟩, by rw [h0.1, h0.2.1, h0.2.2, h1, h2]⟩
set_option maxRecDepth 100000 in
theorem cells_marks {fuel : Nat} {cs : List Value} {x : DataW H × List MemPlace} (h : DataW.trod enc Try.prog w base spare held fuel 41 cs = some x) : ∃ (v : Value) (l : List M), cs = [v] ∧ MHas w v l := by
  have hinh : Inhabited M := ⟨⟨0, 0, 0⟩⟩
  obtain ⟨v, l, h1, h2, _⟩ := cells_rows (α := M) Try.underlying41 c40 (by decide) M.cells (fun _ => True) M.len (fun fuel cs x hx => by
    obtain ⟨p, s, i, e⟩ := cells_mark hx
    exact ⟨⟨p, s, i⟩, e, trivial⟩) h
  exact ⟨v, l, h1, h2⟩
set_option maxRecDepth 100000 in
theorem cells_member {fuel : Nat} {cs : List Value} {x : DataW H × List MemPlace} (h : DataW.trod enc Try.prog w base spare held fuel 65 cs = some x) : ∃ y : Mb × Value, cs = Mb.cells y ∧ MHas w y.2 y.1.ms := by
  obtain ⟨xs, k, rfl, _, hcl, hxl, hf⟩ := DataW.trod_struct Try.underlying65 h
  rw [c61] at hcl
  match xs, hxl, cs, hcl with
  | [y0, y1, y2], _, [v0, v1, v2], _ =>
    have g0 := hf 0 _ rfl
    have g1 := hf 1 _ rfl
    have g2 := hf 2 _ rfl
    simp [c9, c4, c59] at g0 g1 g2
    obtain ⟨n0, h0, _⟩ := DataW.trod_string Try.underlying9 g0
    obtain ⟨n1, h1, _⟩ := DataW.trod_bool Try.underlying4 g1
    obtain ⟨v, l, h2, hm⟩ := cells_marks g2
    simp at h0 h1 h2
    exact ⟨(⟨n0, n1, l⟩, v), by rw [h0, h1, h2], hm⟩
set_option maxRecDepth 100000 in
theorem cells_elem {fuel : Nat} {cs : List Value} {x : DataW H × List MemPlace} (h : DataW.trod enc Try.prog w base spare held fuel 43 cs = some x) : ∃ y : El × Value, cs = El.cells y ∧ MHas w y.2 y.1.gone := by
  obtain ⟨xs, k, rfl, _, hcl, hxl, hf⟩ := DataW.trod_struct Try.underlying43 h
  rw [c63] at hcl
  match xs, hxl, cs, hcl with
  | [y0, y1, y2, y3, y4], _, [v0, v1, v2, v3, v4, v5, v6, v7, v8], _ =>
    have g0 := hf 0 _ rfl
    have g1 := hf 1 _ rfl
    have g2 := hf 2 _ rfl
    have g3 := hf 3 _ rfl
    have g4 := hf 4 _ rfl
    simp [c9, c3, c40, c59] at g0 g1 g2 g3 g4
    obtain ⟨p, s, i, h0⟩ := cells_mark g0
    obtain ⟨n1, h1, _⟩ := DataW.trod_int Try.underlying3 g1
    obtain ⟨q, u, j, h2⟩ := cells_mark g2
    obtain ⟨n3, h3, _⟩ := DataW.trod_string Try.underlying9 g3
    obtain ⟨v, l, h4, hm⟩ := cells_marks g4
    simp at h0 h1 h2 h3 h4
    exact ⟨(⟨p, s, i, n1, q, u, j, n3, l⟩, v), by rw [h0.1, h0.2.1, h0.2.2, h1, h2.1, h2.2.1, h2.2.2, h3, h4], hm⟩
set_option maxRecDepth 100000 in
theorem cells_cell {fuel : Nat} {cs : List Value} {d : DataW H × List MemPlace} (h : DataW.trod enc Try.prog w base spare held fuel 27 cs = some d) : ∃ (x : X) (va vw vm ve : Value), cs = (cvc x.k x.b va vw vm ve).toList ∧ Four w x va vw vm ve ∧ ((DataW.weights Try.prog 27 d.1).all (· ≤ reachBytes) = true → Lk x) := by
  obtain ⟨xs, k, rfl, hd, hcl, hxl, hf⟩ := DataW.trod_struct Try.underlying27 h
  rw [c27] at hcl
  match xs, hxl, cs, hcl with
  | [y0, y1, y2, y3, y4, y5], _, [v0, v1, v2, v3, v4, v5], _ =>
    have g0 := hf 0 _ rfl
    have g1 := hf 1 _ rfl
    have g2 := hf 2 _ rfl
    have g3 := hf 3 _ rfl
    have g4 := hf 4 _ rfl
    have g5 := hf 5 _ rfl
    simp [c3, c22, c23, c24, c25] at g0 g1 g2 g3 g4 g5
    obtain ⟨n0, h0, _⟩ := DataW.trod_int Try.underlying3 g0
    obtain ⟨n1, h1, _⟩ := DataW.trod_int Try.underlying3 g1
    have i1 : Inhabited A := ⟨⟨0, 0, 0, 0⟩⟩
    have i2 : Inhabited Wt := ⟨⟨0, 0, 0, 0, noS⟩⟩
    have i3 : Inhabited (Mb × Value) := ⟨(⟨noS, false, []⟩, .bool false)⟩
    have i4 : Inhabited (El × Value) := ⟨(⟨0, 0, 0, 0, 0, 0, 0, noS, []⟩, .bool false)⟩
    obtain ⟨va, la, h2, ha, _, wa⟩ := cells_rows (α := A) Try.underlying22 c42 (by decide) A.cells (fun _ => True) A.len (fun fuel cs x hx => by
      obtain ⟨y, e⟩ := cells_amount hx
      exact ⟨y, e, trivial⟩) g2
    obtain ⟨vw, lw, h3, hw, _, ww⟩ := cells_rows (α := Wt) Try.underlying23 c58 (by decide) Wt.cells (fun _ => True) Wt.len (fun fuel cs x hx => by
      obtain ⟨y, e⟩ := cells_write hx
      exact ⟨y, e, trivial⟩) g3
    obtain ⟨vm, lm, h4, hm, pm, wm⟩ := cells_rows (α := Mb × Value) Try.underlying24 c61 (by decide) Mb.cells (fun y => MHas w y.2 y.1.ms) Mb.len (fun fuel cs x hx => cells_member hx) g4
    obtain ⟨ve, le, h5, he, pe, we⟩ := cells_rows (α := El × Value) Try.underlying25 c63 (by decide) El.cells (fun y => MHas w y.2 y.1.gone) El.len (fun fuel cs x hx => cells_elem hx) g5
    simp at h0 h1 h2 h3 h4 h5
    refine ⟨⟨n0, n1, la, lw, lm.map (·.1), le.map (·.1)⟩, va, vw, vm, ve, by rw [h0, h1, h2, h3, h4, h5], ⟨ha, hw, ⟨lm, rfl, by rw [List.length_map]; exact hm, pm⟩, ⟨le, rfl, by rw [List.length_map]; exact he, pe⟩⟩, fun hb => ?_⟩
    rw [hd] at hb
    simp only [DataW.weights, Try.underlying27, List.map_cons, List.map_nil, DataW.weightsEach, List.all_append, Bool.and_eq_true] at hb
    obtain ⟨_, _, b2, b3, b4, b5, _⟩ := hb
    have q2 := wa _ b2
    have q3 := ww _ b3
    have q4 := wm _ b4
    have q5 := we _ b5
    rw [by42] at q2
    rw [by58] at q3
    rw [by61] at q4
    rw [by63] at q5
    have hr : reachBytes = 140737488351232 := rfl
    rw [hr] at q2 q3 q4 q5
    exact ⟨by show la.length ≤ _; omega, by show lw.length ≤ _; omega, by show (lm.map _).length ≤ _; rw [List.length_map]; omega, by show (le.map _).length ≤ _; rw [List.length_map]; omega⟩

variable {r : Reach} {b0 : Nat} {v : Value} {d : DataW H} {ps : List MemPlace}
set_option maxRecDepth 100000 in
theorem open_tx (hval : Value.okWide Try.prog w r b0 34 v) (hd : DataW.Trod enc Try.prog w base spare held 34 v d ps) : ∃ (p s : Int) (u : List Int) (t : Int) (sl : Value) (l : List O), v = TxV p s u t sl ∧ u.length = 13 ∧ OIs w sl l := by
  obtain ⟨fuel, hf⟩ := hd
  simp only [Value.okWide, Try.underlying34] at hval
  obtain ⟨cs, rfl, _⟩ := hval
  obtain ⟨p, s, u, t, sl, l, e, hu, hl⟩ := cells_tx hf
  exact ⟨p, s, u, t, sl, l, by rw [show cs = (txc p s u t sl).toArray from Array.toList_inj.1 e], hu, hl⟩
set_option maxRecDepth 100000 in
theorem open_cell (hval : Value.okWide Try.prog w r b0 27 v) (hd : DataW.Trod enc Try.prog w base spare held 27 v d ps) : ∃ (x : X) (va vw vm ve : Value), v = CV x.k x.b va vw vm ve ∧ Four w x va vw vm ve ∧ ((DataW.weights Try.prog 27 d).all (· ≤ reachBytes) = true → Lk x) := by
  obtain ⟨fuel, hf⟩ := hd
  simp only [Value.okWide, Try.underlying27] at hval
  obtain ⟨cs, rfl, _⟩ := hval
  obtain ⟨x, va, vw, vm, ve, e, h1, h2⟩ := cells_cell hf
  exact ⟨x, va, vw, vm, ve, by rw [show cs = cvc x.k x.b va vw vm ve from Array.toList_inj.1 e], h1, h2⟩
set_option maxRecDepth 100000 in
theorem open_vec (hval : Value.okWide Try.prog w r b0 31 v) (hd : DataW.Trod enc Try.prog w base spare held 31 v d ps) : ∃ l : List Int, v = V l ∧ l.length = 13 := by
  obtain ⟨fuel, hf⟩ := hd
  simp only [Value.okWide, Try.underlying31] at hval
  obtain ⟨cs, rfl, _⟩ := hval
  obtain ⟨xs1, m, _, _, hlen, hxs, hi⟩ := DataW.trod_array Try.underlying31 hf
  obtain ⟨u, hu⟩ := vals_of_ints (Value.agg cs).cells.toList (fun i hlt => by
    have hi13 : i < 13 := by rw [hlen, c31] at hlt; exact hlt
    have hq := hi i hi13
    rw [c3, List.getElem?_eq_getElem (show i < xs1.length by omega)] at hq
    obtain ⟨n, hn, _⟩ := DataW.trod_int Try.underlying3 hq
    refine ⟨n, ?_⟩
    rw [Nat.mul_one, List.drop_eq_getElem_cons hlt] at hn
    simpa using hn)
  have e : cs.toList = vals u := hu
  refine ⟨u, by rw [show cs = (vals u).toArray from Array.toList_inj.1 e], ?_⟩
  have := congrArg List.length e
  rw [vals_length] at this
  rw [← this]
  have h2 := hlen
  rw [c31] at h2
  exact h2
end
end Go.Proofs.Ytfjpbmdmkcihcaa
