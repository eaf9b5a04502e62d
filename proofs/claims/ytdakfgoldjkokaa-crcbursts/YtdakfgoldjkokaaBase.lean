/- Slices of bytes in memory: where they lie, what they hold, and that a call leaves them alone. Nothing of one function. -/
import Derived.Test.YtdakfgoldjkokaaRows
import Derived.WalkKit
import Derived.WalkSpells
import Derived.WalkLawsBesides
import Derived.WalkMore
import Derived.Lib.AppendStr
import Derived.Laws.BytesArg
import Derived.Laws.AppendOwnNone
import Derived.Deep.RegionHeld3
import Derived.ProofKit
import Derived.OpenShut
namespace Go.Proofs.Ytdakfgoldjkokaa
open Go.ChangeShapes Go.WideShapes Go.ChangeAt Go.RowKit

/-- WHERE A SLICE's BYTES LIE: where there is a byte there is an address, and the cells from there on hold them. -/
def Row (w : World) (p : Option Addr) (l : List UInt8) : Prop :=
  0 < l.length → ∃ b o, p = some ⟨b, o, none⟩ ∧ ∀ j (hj : j < l.length), w.cell? ⟨b, o + j, none⟩ = some (.int .u8 (l[j]).toNat)

/-- Bytes as cells. -/
def cel (l : List UInt8) : List Value := l.map fun b => Value.int .u8 b.toNat

theorem cel_length (l : List UInt8) : (cel l).length = l.length := by simp [cel]
theorem cel_append (a b : List UInt8) : cel (a ++ b) = cel a ++ cel b := by simp [cel]
theorem cel_one (l : List UInt8) : ∀ u ∈ cel l, u.oneCell' = true := by
  intro u hu
  obtain ⟨_, _, rfl⟩ := List.mem_map.1 hu
  rfl

theorem Row.cells {w : World} {p : Option Addr} {l : List UInt8} (h : Row w p l) : ∀ ad, p = some ad → ∀ j u, (cel l)[j]? = some u → w.cell? (ad.add j) = some u := by
  intro ad hp j u hj
  have hlt : j < l.length := by
    have := (List.getElem?_eq_some_iff.1 hj).1
    simpa [cel] using this
  obtain ⟨b, o, hp2, hc⟩ := h (by omega)
  rw [hp2] at hp
  obtain rfl := Option.some.inj hp
  rw [Addr.add_lit, hc j hlt]
  simp [cel, List.getElem?_eq_getElem hlt] at hj
  rw [← hj]

theorem push_below {B : Nat} {w wr w1 : World} {v : Value} {n : Nat} {xs : List Value} {o : Obj} (hbel : Below B w wr) (hB : B ≤ w.heap.size) (hown : wr.ownsRow B 5 1 v n xs) (hg : (wr.alloc o).grownBy w1 v.ownBlock) : Below B w w1 := by
  have hs := hbel.size
  exact (hbel.alloc (by omega) o).grown hg (by simp; omega) (fun k hk => (hown.lt k hk).1)

theorem push_own {B : Nat} {w1 : World} {v' : Value} {done : List UInt8} {z : Int} (b : UInt8) (hz : z = (b.toNat : Int)) (h : w1.ownsRow B 5 1 v' (done.length + 1) (cel done ++ [.int .u8 z])) : w1.ownsRow B 5 1 v' (done ++ [b]).length (cel (done ++ [b])) := by
  subst hz
  rw [cel_append, List.length_append]
  exact h

theorem info5 : (Try.prog.info? 5).map (fun i => (i.zero, i.size, i.bytes)) = some (some (.int .u8 0), 1, 1) := by kernel_rfl

/-- A SLICE THAT HOLDS THESE BYTES. -/
def Has (w : World) (v : Value) (l : List UInt8) : Prop := ∃ p c, v = .slice p l.length c ∧ Row w p l ∧ (p = none → l.length = 0 ∧ c = 0) ∧ l.length ≤ c ∧ c ≤ maxLen

theorem own_has {w : World} {B : Nat} {v : Value} {l : List UInt8} (h : w.ownsRow B 5 1 v l.length (cel l)) : Has w v l := by
  rcases h.2 with ⟨rfl, h0⟩ | ⟨g, cap, cur, rfl, hbg, hg, hnc, hcm, hcs, htake⟩
  · exact ⟨none, 0, by rw [h0], fun hp => by omega, fun _ => ⟨h0, rfl⟩, by omega, by omega⟩
  · refine ⟨some ⟨g, 0, none⟩, cap, rfl, fun _ => ⟨g, 0, rfl, fun j hj => ?_⟩, (fun hh => by cases hh), hnc, hcm⟩
    have := h.cells (g := g) rfl j (.int .u8 (l[j]).toNat) (by simp [cel, List.getElem?_eq_getElem hj])
    rw [Addr.add_lit] at this
    exact this

theorem Row.later {w w' : World} {p : Option Addr} {l : List UInt8} (h : Row w p l) (hb : Below w.heap.size w w') : Row w' p l := by
  intro hp
  obtain ⟨b, o, hp2, hc⟩ := h hp
  refine ⟨b, o, hp2, fun j hj => ?_⟩
  have := hc j hj
  rw [← this]
  exact hb.cell (World.block_lt_of_cell? w _ this)

theorem Has.later {w w' : World} {v : Value} {l : List UInt8} (h : Has w v l) (hb : Below w.heap.size w w') : Has w' v l := by
  obtain ⟨p, c, hv, hr, hpc, hlc, hcm⟩ := h
  exact ⟨p, c, hv, hr.later hb, hpc, hlc, hcm⟩

theorem own_later {w w' : World} {B : Nat} {v : Value} {n : Nat} {xs : List Value} (h : w.ownsRow B 5 1 v n xs) (hb : Below w.heap.size w w') : w'.ownsRow B 5 1 v n xs := by
  refine ⟨h.1, ?_⟩
  rcases h.2 with h2 | ⟨g, cap, cur, hv, hbg, hg, r⟩
  · exact Or.inl h2
  · have hlt : g < w.heap.size := by
      rcases Nat.lt_or_ge g w.heap.size with hh | hh
      · exact hh
      · rw [Array.getElem?_eq_none hh] at hg; cases hg
    exact Or.inr ⟨g, cap, cur, hv, hbg, by rw [hb.block g hlt]; exact hg, r⟩

/-- The string of these bytes. -/
theorem run_string {w : World} {p : Option Addr} {l : List UInt8} (h : Row w p l) (c : Nat) :
    (convert 22 9 (.slice p l.length c)).run Try.prog w = .ok (.string ⟨l.toArray⟩) w := by
  rcases Nat.eq_zero_or_pos l.length with hz | hz
  · obtain rfl : l = [] := List.eq_nil_of_length_eq_zero hz
    rw [run_convert_bytes_string w 22 9 5 _ _ c Try.underlying22 Try.underlying5 Try.underlying9]
    cases p <;> simp [Conv.bytesToString, loadCells]
    all_goals rfl
  · obtain ⟨b, o, rfl, hc⟩ := h hz
    have := run_convert_bytes_arg (P := Try.prog) w 22 5 Try.underlying22 Try.underlying5 b o l.length c (l.map fun x => (x.toNat : Int)) (by simp) (fun i hi => by
      rw [hc i hi]; simp [List.getD, List.getElem?_eq_getElem hi]) 9 Try.underlying9
    rw [this]
    congr 2
    apply ByteArray.ext
    apply Array.toList_inj.1
    rw [strOfNums_data, List.map_map]
    show _ = l
    conv => rhs; rw [← List.map_id l]
    apply List.map_congr_left
    intro x _
    simp

/-- 'append(nil, xs...)' as a step of a region that draws. -/
theorem step_append_nil {P : Program} {ops : Array Oper} {o : Oper} {a : Act} {w : World} {K : Act → World → Prop} {Q : Exit → Act → World → Prop} {E : Prop}
    (hg : o.guard = none) (s x : Operand) (t : TypeId) (hop : o.op = Op.call { callee := Callee.builtin Builtin.append, args := #[s, x], argTypes := #[t, t] })
    (B : Nat) (hB : B = w.heap.size) (e : TypeId) (i : TypeInfo) (z : Value) (size bytes : Nat) (h1 : P.underlying t = some (.slice e)) (h2 : P.info? e = some i) (h3 : i.zero = some z) (h4 : i.size = size) (h5 : i.bytes = bytes) (h6 : z.cells.size = size) (h7 : 0 < size)
    (hs : a.eval s = .slice none 0 0)
    (ad : Addr) (m c : Nat) (news : List Value) (hx : a.eval x = .slice (some ad) m c) (hn : news.length = m * size) (hc : ∀ j u, news[j]? = some u → w.cell? (ad.add j) = some u) (h1c : ∀ u ∈ news, u.oneCell' = true)
    (b1 : m ≤ maxLen) (b2 : m * bytes ≤ 140737488355328)
    (hK : ∀ v' w', w'.ownsRow B e size v' m news → w.grownBy w' none → K (a.put o.dst v') w') :
    if Region.wanted o (yielded ops a.tmps) = true then Oper.wp P o a w K Q else E := by
  have hw : Region.wanted o (yielded ops a.tmps) = true := by simp [Region.wanted, hg]
  rw [if_pos hw]
  subst hB
  obtain ⟨v', w', hrun, r1, r2, _⟩ := run_append_own (P := P) w w.heap.size t o.type e i z size bytes h1 h2 h3 h4 h5 h6 h7 (.slice none 0 0) 0 [] (World.ownsRow_nil w _ e size) ad m c news hn hc h1c (by omega) (by rw [Nat.zero_add]; exact b2) (Nat.le_refl _)
  simp only [Nat.zero_add, List.nil_append] at r1
  unfold Oper.wp
  simp [execOp, hop, resolve, invoke, builtin, hs, hx, hrun, Result.andThen]
  exact hK v' w' r1 r2

/-- Slicing 'v[n:]' of what holds bytes. -/
theorem Row.drop {w : World} {b o c : Nat} {l : List UInt8} (h : Row w (some ⟨b, o, none⟩) l) (hlc : l.length ≤ c) (n : Nat) (hn : n ≤ l.length) : ∃ A, (if c = n then some (⟨b, o, none⟩ : Addr) else some ⟨b, o + n, none⟩) = some A ∧ Row w (some A) (l.drop n) := by
  by_cases h2 : c = n
  · refine ⟨⟨b, o, none⟩, by rw [if_pos h2], fun hp => ?_⟩
    rw [List.length_drop] at hp; omega
  · refine ⟨⟨b, o + n, none⟩, by rw [if_neg h2], fun hp => ⟨b, o + n, rfl, fun j hj => ?_⟩⟩
    rw [List.length_drop] at hp hj
    obtain ⟨b', o', e, hc⟩ := h (by omega)
    cases e
    rw [Nat.add_assoc, hc (n + j) (by omega)]
    simp

theorem Row.take {w : World} {p : Option Addr} {l : List UInt8} (h : Row w p l) (n : Nat) : Row w p (l.take n) := by
  intro hp
  rw [List.length_take] at hp
  obtain ⟨b, o, e, hc⟩ := h (by omega)
  refine ⟨b, o, e, fun j hj => ?_⟩
  rw [List.length_take] at hj
  rw [hc j (by omega)]
  simp

theorem own_form {w : World} {B : Nat} {v : Value} {l : List UInt8} (h : w.ownsRow B 5 1 v l.length (cel l)) : (v = .slice none 0 0 ∧ l = []) ∨ ∃ g c, v = .slice (some ⟨g, 0, none⟩) l.length c ∧ Row w (some ⟨g, 0, none⟩) l ∧ l.length ≤ c ∧ c ≤ maxLen := by
  obtain ⟨p, c, hv, hr, hpc, hlc, hcm⟩ := own_has h
  rcases h.2 with ⟨rfl, h0⟩ | ⟨g, cap, cur, rfl, hbg, hg, hnc, hcm, hcs, htake⟩
  · exact Or.inl ⟨rfl, List.eq_nil_of_length_eq_zero h0⟩
  · cases hv
    exact Or.inr ⟨g, _, rfl, hr, hlc, hcm⟩

theorem nil_has (w : World) : Has w (.slice none 0 0) [] := ⟨none, 0, rfl, (fun h => by cases h), (fun _ => ⟨rfl, rfl⟩), Nat.le_refl _, Nat.zero_le _⟩

/-- A slice that is written out in place. -/
theorem built_has (w : World) (l : List UInt8) (cs : Array Value) (hcs : cs.toList = cel l) (hm : l.length ≤ maxLen) : Has (w.alloc (.cells cs 5)) (.slice (some ⟨w.heap.size, 0, none⟩) l.length l.length) l := by
  refine ⟨some ⟨w.heap.size, 0, none⟩, l.length, rfl, fun _ => ⟨w.heap.size, 0, rfl, fun j hj => ?_⟩, (fun h => by cases h), Nat.le_refl _, hm⟩
  rw [Nat.zero_add, cell_of_row (w.alloc (.cells cs 5)) w.heap.size j cs 5 (0, 0) (heap_alloc_new w _)]
  have : cs[j]? = cs.toList[j]? := by simp
  rw [this, hcs]
  simp [cel, List.getElem?_eq_getElem hj]

/-- Numbers as bytes. -/
def byt (zs : List Int) : List UInt8 := zs.map fun n => UInt8.ofNat n.toNat

theorem byt_length (zs : List Int) : (byt zs).length = zs.length := by simp [byt]

theorem came_has {w : World} {x : Addr} {len cap : Nat} {zs : List Int} (hl : len ≤ cap) (hm : cap ≤ maxLen) (hz : zs.length = cap)
    (hcell : ∀ i, i < zs.length → w.cell? (x.add i) = some (.int .u8 (zs.getD i 0))) (hwz : ∀ n ∈ zs, (Lit.int .u8 n).wf = true) :
    Has w (.slice (some x) len cap) (byt (zs.take len)) := by
  have hlen : (byt (zs.take len)).length = len := by rw [byt_length, List.length_take]; omega
  refine ⟨some x, cap, by rw [hlen], fun hp => ?_, (fun h => by cases h), by omega, hm⟩
  rw [hlen] at hp
  obtain ⟨b, o, spot⟩ := x
  have hc0 := hcell 0 (by omega)
  have hspot : spot = none := by simpa [Addr.add] using World.cell?_spot hc0
  subst hspot
  refine ⟨b, o, rfl, fun j hj => ?_⟩
  have hjl : j < len := by rw [hlen] at hj; exact hj
  have hc := hcell j (by omega)
  rw [Addr.add_lit] at hc
  rw [hc]
  have hjz : j < zs.length := by omega
  have e : (byt (zs.take len))[j] = UInt8.ofNat (zs[j]).toNat := by simp [byt]
  rw [e]
  have hw := bounds_u8 (hwz zs[j] (List.getElem_mem hjz))
  have e2 : zs.getD j 0 = zs[j] := by simp [List.getD, hjz]
  rw [e2, UInt8.toNat_ofNat']
  congr 2
  omega

theorem own_join {w : World} {B : Nat} {v : Value} {l r : List UInt8} (h : w.ownsRow B 5 1 v (l.length + r.length) (cel l ++ cel r)) : Has w v (l ++ r) := by
  refine own_has (B := B) ?_
  rw [List.length_append, cel_append]
  exact h

theorem own_empty (w : World) (B : Nat) (hB : B ≤ w.heap.size) : (w.alloc (.cells #[] 5)).ownsRow B 5 1 (.slice (some ⟨w.heap.size, 0, none⟩) 0 0) 0 [] :=
  World.ownsRow_made w #[] 0 hB (Nat.zero_le _) rfl

/-- 'append(buf, xs...)', buf the call's own, xs whatever slice: nil or not. -/
theorem wpList_append_any {P : Program} {w : World} {ops : Array Oper} {rest : List Oper} {o : Oper} {a : Act} {Q : Exit → Act → World → Prop} (hgd : o.guard = none) (s x : Operand) (t : TypeId)
    (ho : o.op = .call { callee := .builtin .append, args := #[s, x], argTypes := #[t, t] })
    (base : Nat) (e : TypeId) (i : TypeInfo) (z : Value) (size bytes : Nat) (ht : P.underlying t = some (.slice e)) (hi : P.info? e = some i) (hz : i.zero = some z)
    (hsize : i.size = size) (hby : i.bytes = bytes) (hzs : z.cells.size = size) (hsz : 0 < size)
    (v : Value) (n : Nat) (xs : List Value) (hs : a.eval s = v) (hown : w.ownsRow base e size v n xs)
    (p : Option Addr) (m c : Nat) (news : List Value) (hx : a.eval x = .slice p m c) (hpc : p = none → m = 0 ∧ c = 0) (hl : news.length = m * size) (hnews : ∀ ad, p = some ad → ∀ j u, news[j]? = some u → w.cell? (ad.add j) = some u) (h1 : ∀ u ∈ news, u.oneCell' = true)
    (h63 : n + m ≤ maxLen) (hbytes : (n + m) * bytes ≤ 140737488355328) (hbase : base ≤ w.heap.size)
    (h : ∀ v' w', w'.ownsRow base e size v' (n + m) (xs ++ news) → w.grownBy w' v.ownBlock → wpList P ops Q rest (a.put o.dst v') w') : wpList P ops Q (o :: rest) a w := by
  cases p with
  | some ad => exact wpList_append_own w hgd s x t ho base e i z size bytes ht hi hz hsize hby hzs hsz v n xs hs hown ad m c news hx hl (hnews ad rfl) h1 h63 hbytes hbase fun v' w' h2 h3 _ => h v' w' h2 h3
  | none =>
    obtain ⟨rfl, rfl⟩ := hpc rfl
    have hn : news = [] := List.eq_nil_of_length_eq_zero (by simpa using hl)
    subst hn
    exact wpList_append_own_none hgd s x t ho base e i size ht hi v n xs hs hown hx (h v w (by simpa using hown) (World.grownBy.refl _ _))

theorem Has.drew {w : World} {v : Value} {l : List UInt8} (h : Has w v l) : Has w.drew v l := h.later (Below.refl _ _).drew

theorem below_on {w a b : World} (h : Below w.heap.size w a) (k : Below a.heap.size a b) : Below w.heap.size w b := h.trans (k.mono h.size)

end Go.Proofs.Ytdakfgoldjkokaa
