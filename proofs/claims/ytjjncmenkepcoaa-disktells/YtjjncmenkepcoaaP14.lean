import Derived.Test.YtjjncmenkepcoaaP13
/- A disk at work: a call is done, if there is power. -/
namespace Go.Proofs.Ytjjncmenkepcoaa
open Go.RowKit

section
variable {w : World} {B b : Nat} {off : Nat → Prop} {s : St} {p : Option Addr} {c : Nat}
theorem Wk.cell (h : Wk w B b off s p c) (s' : St) (hy : s'.ys = s.ys) (i : Nat) (v : Value) (e : (wkc p c s).setIfInBounds i v = wkc p c s') : Wk (w.setCell ⟨b, i, none⟩ v) B b off s' p c := by
  have hr : Rw (w.setCell ⟨b, i, none⟩ v) b 66 (wkc p c s') := by rw [← e]; exact h.r.set i v
  obtain ⟨room, arm, dead, x, pl, th, ys⟩ := s'
  simp only at hy
  subst hy
  exact ⟨hr, h.g.box h.r i v, h.bB, h.ob, h.og, h.od, fun k hk => by simpa using h.ol k hk⟩
theorem Wk.kfc (h : Wk w B b off s p c) (i : Nat) (v : Value) : Kf off w (w.setCell ⟨b, i, none⟩ v) := Kf.grown (grown_cell w b i v) fun g e => by
  cases e
  exact h.ob
theorem Wk.disk (h : Wk w B b off s p c) : w.rangeAt b 0 [.slice p s.ys.length c, .int .i64 s.room, .int .i64 s.arm, .bool s.dead] := h.r.range 0 _ fun j v hv => by
  match j with
  | 0 => simpa using hv
  | 1 => simpa using hv
  | 2 => simpa using hv
  | 3 => simpa using hv
  | j + 4 => simp at hv
end
/-- What do answers. -/
def DoPost (off : Nat → Prop) (d : DV) (err : Int) (w : World) (e : Ending) (w' : World) : Prop := ∃ p c, e = .returned (.tuple #[DKV.of (.slice p d.fs.length c) d, .int .i64 err]) ∧ FHas w' (.slice p d.fs.length c) d.fs ∧ Kf off w w'
/-- A closure that leaves these files. -/
def Cls (w : World) (B b : Nat) (off : Nat → Prop) (s : St) (p : Option Addr) (c : Nat) (g : FuncId) (cs : Array Value) (l : List FV) : Prop := ∀ (off' : Nat → Prop) (w' : World), (∀ k, off k → off' k) → Wk w' B b off' s p c → Below w.heap.size w w' → (∀ k, k < w.heap.size → off k → off' k) → Calls Try.prog g cs w' fun e w2 => ∃ ys th, ys.map (·.1) = l ∧ PuPost B b off' { s with ys := ys, th := th } w' e w2
set_option maxHeartbeats 1000000 in
set_option maxRecDepth 100000 in
theorem doAt_any {w : World} {B b : Nat} {off : Nat → Prop} {s : St} {p : Option Addr} {c : Nat} (h : Wk w B b off s p c) (gw gt : FuncId) (cw ct : Array Value) (egw : ∀ args w, (callFunc gw args).run Try.prog w = .ok (.enter gw args) w) (egt : ∀ args w, (callFunc gt args).run Try.prog w = .ok (.enter gt args) w) (lw lt : List FV) (hw : Cls w B b off s p c gw cw lw) (ht : Cls w B b off s p c gt ct lt) (ha : s.arm ≤ 9223372036854775807) :
    Calls Try.prog 37 #[.pointer (some ⟨b, 0, none⟩), .func (.func gw) #[] cw, .func (.func gt) #[] ct] w (DoPost off (if s.arm = 0 then ⟨lt, s.room, s.arm, true⟩ else ⟨lw, s.room, if 0 < s.arm then s.arm - 1 else s.arm, s.dead⟩) (if s.arm = 0 then 220 else 0) w) := by
  have RF := rw_new w 26 #[.slice none 0 0, .int .i64 0, .int .i64 0, .bool false]
  have hbel := bel_alloc (Below.refl w.heap.size w) (.cells #[.slice none 0 0, .int .i64 0, .int .i64 0, .bool false] 26)
  have hsz : (w.alloc (.cells #[.slice none 0 0, .int .i64 0, .int .i64 0, .bool false] 26)).heap.size = w.heap.size + 1 := by simp
  generalize hW : w.alloc (.cells #[.slice none 0 0, .int .i64 0, .int .i64 0, .bool false] 26) = w0 at RF hbel hsz
  have h0 := h.more hbel
  obtain ⟨off', HOF⟩ := hid_ex (fun k => off k ∨ (w.heap.size ≤ k ∧ k < w0.heap.size))
  rw [HOF.out] at h0
  have hso : ∀ k, off k → off' k := fun k hk => by rw [← HOF.out]; exact .inl hk
  have ho6 : off' w.heap.size := by rw [← HOF.out]; exact .inr ⟨Nat.le_refl _, by omega⟩
  have hn6 : ¬ off w.heap.size := fun e => by have := h.ol _ e; omega
  have k2 : w0.cell? ⟨b, 2, none⟩ = some (.int .i64 s.arm) := h0.r.cell 2
  have CT := ht off' w0 hso h0 hbel fun k _ hk => hso k hk
  have CW := hw off' w0 hso h0 hbel fun k _ hk => hso k hk
  have HK0 : Hid (Kf off w w0) := Kf.of hbel
  clear hw ht HOF h0
  by_cases h0 : s.arm = 0
  · rw [if_pos h0, if_pos h0, show (⟨lt, s.room, s.arm, true⟩ : DV) = ⟨lt, s.room, 0, true⟩ by rw [h0]]
    rw [h0] at k2
    go_enter Try.func37, Try.ntmps37
    go_wp2_with (first | rw [hW])
    clear hW
    refine CT.mono ?_
    clear CT CW k2
    rintro e w1 ⟨ys, th, hl, rfl, p1, c1, W1, K1⟩
    have HL : Hid (ys.map (·.1) = lt) := hl
    have hlen : ys.length = lt.length := by rw [← hl, List.length_map]
    have k3 : w1.cell? ⟨b, 3, none⟩ = some (.bool s.dead) := W1.r.cell 3
    have f3 := W1.r.frozen 3
    have hne : w.heap.size ≠ b := fun e => W1.ob (e ▸ ho6)
    have RF2 := (K1.rw RF ho6).setOther hne 3 (.bool true)
    have W2 := W1.cell { s with ys := ys, th := th, dead := true } rfl 3 (.bool true) rfl
    have HK2 : Hid (Kf off w (w1.setCell ⟨b, 3, none⟩ (.bool true))) := (HK0.out.trans (K1.sub hso)).trans (Kf.sub (W1.kfc 3 (.bool true)) hso)
    clear W1 K1 RF hl HK0
    generalize hW1 : w1.setCell ⟨b, 3, none⟩ (.bool true) = w2 at RF2 W2 HK2
    have d2 := W2.disk
    simp only at d2
    rw [h0, hlen] at d2
    have z2 : (Try.prog.info? 26).map (·.size) = some [Value.slice p1 lt.length c1, .int .i64 s.room, .int .i64 0, .bool true].length := size26
    have HF : Hid (FHas (w2.setRow w.heap.size #[.slice p1 lt.length c1, .int .i64 s.room, .int .i64 0, .bool true]) (.slice p1 lt.length c1) lt) := by
      have := (W2.away ho6 #[.slice p1 lt.length c1, .int .i64 s.room, .int .i64 0, .bool true]).has
      simp only [HL.out, hlen] at this
      exact this
    have HK3 : Hid (Kf off w (w2.setRow w.heap.size #[.slice p1 lt.length c1, .int .i64 s.room, .int .i64 0, .bool true])) := HK2.out.trans (Kf.grown (grown_row _ _ _) fun j e => by
      cases e
      exact hn6)
    have RF3 := RF2.row #[.slice p1 lt.length c1, .int .i64 s.room, .int .i64 0, .bool true]
    clear W2 HK2
    go_wp2_with (first | rw [hW1] | refine load_m 26 _ rfl rfl _ _ rfl d2 Try.underlying26 rfl z2 ?_ | refine store_r rfl 26 _ _ rfl _ _ rfl rfl RF2 size26 rfl (by simp [Value.oneCell']) ?_)
    refine bodyPost_ret (results_rt rfl rfl RF3 rfl Try.underlying26 size26) rfl ⟨p1, c1, rfl, HF.out, HK3.out⟩
  · rw [if_neg h0, if_neg h0]
    by_cases hp : 0 < s.arm
    · rw [if_pos hp]
      have g0 : (s.arm == 0) = false := by rw [beq_eq_false_iff_ne]; exact h0
      go_enter Try.func37, Try.ntmps37
      go_wp2_with (first | rw [hW])
      clear hW
      refine CW.mono ?_
      clear CT CW k2
      rintro e w1 ⟨ys, th, hl, rfl, p1, c1, W1, K1⟩
      have HL : Hid (ys.map (·.1) = lw) := hl
      have hlen : ys.length = lw.length := by rw [← hl, List.length_map]
      have k2 : w1.cell? ⟨b, 2, none⟩ = some (.int .i64 s.arm) := W1.r.cell 2
      have f2 := W1.r.frozen 2
      have hne : w.heap.size ≠ b := fun e => W1.ob (e ▸ ho6)
      have RF1 := K1.rw RF ho6
      have HK1 : Hid (Kf off w w1) := HK0.out.trans (K1.sub hso)
      have ew : IntKind.i64.wrap (s.arm - 1) = s.arm - 1 := by rw [IntKind.wrap_i64]; omega
      have RF2 := RF1.setOther hne 2 (.int .i64 (s.arm - 1))
      have W2 := W1.cell { s with ys := ys, th := th, arm := s.arm - 1 } rfl 2 (.int .i64 (s.arm - 1)) rfl
      have HK2 : Hid (Kf off w (w1.setCell ⟨b, 2, none⟩ (.int .i64 (s.arm - 1)))) := HK1.out.trans (Kf.sub (W1.kfc 2 _) hso)
      clear W1 K1 RF RF1 hl HK0 HK1
      generalize hW1 : w1.setCell ⟨b, 2, none⟩ (.int .i64 (s.arm - 1)) = w2 at RF2 W2 HK2
      have d2 := W2.disk
      simp only at d2
      rw [hlen] at d2
      have z2 : (Try.prog.info? 26).map (·.size) = some [Value.slice p1 lw.length c1, .int .i64 s.room, .int .i64 (s.arm - 1), .bool s.dead].length := size26
      have HF : Hid (FHas (w2.setRow w.heap.size #[.slice p1 lw.length c1, .int .i64 s.room, .int .i64 (s.arm - 1), .bool s.dead]) (.slice p1 lw.length c1) lw) := by
        have := (W2.away ho6 #[.slice p1 lw.length c1, .int .i64 s.room, .int .i64 (s.arm - 1), .bool s.dead]).has
        simp only [HL.out, hlen] at this
        exact this
      have HK3 : Hid (Kf off w (w2.setRow w.heap.size #[.slice p1 lw.length c1, .int .i64 s.room, .int .i64 (s.arm - 1), .bool s.dead])) := HK2.out.trans (Kf.grown (grown_row _ _ _) fun j e => by
        cases e
        exact hn6)
      have RF3 := RF2.row #[.slice p1 lw.length c1, .int .i64 s.room, .int .i64 (s.arm - 1), .bool s.dead]
      clear W2 HK2
      go_wp2_with (first | rw [hW1] | refine load_m 26 _ rfl rfl _ _ rfl d2 Try.underlying26 rfl z2 ?_ | refine store_r rfl 26 _ _ rfl _ _ rfl rfl RF2 size26 rfl (by simp [Value.oneCell']) ?_)
      refine bodyPost_ret (results_rt rfl rfl RF3 rfl Try.underlying26 size26) rfl ⟨p1, c1, rfl, HF.out, HK3.out⟩
    · rw [if_neg hp]
      have g0 : (s.arm == 0) = false := by rw [beq_eq_false_iff_ne]; exact h0
      go_enter Try.func37, Try.ntmps37
      go_wp2_with (first | rw [hW])
      clear hW
      refine CW.mono ?_
      clear CT CW k2
      rintro e w1 ⟨ys, th, hl, rfl, p1, c1, W1, K1⟩
      have HL : Hid (ys.map (·.1) = lw) := hl
      have hlen : ys.length = lw.length := by rw [← hl, List.length_map]
      have k2 : w1.cell? ⟨b, 2, none⟩ = some (.int .i64 s.arm) := W1.r.cell 2
      have f2 := W1.r.frozen 2
      have hne : w.heap.size ≠ b := fun e => W1.ob (e ▸ ho6)
      have RF1 := K1.rw RF ho6
      have HK1 : Hid (Kf off w w1) := HK0.out.trans (K1.sub hso)
      have d2 := W1.disk
      simp only at d2
      rw [hlen] at d2
      have z2 : (Try.prog.info? 26).map (·.size) = some [Value.slice p1 lw.length c1, .int .i64 s.room, .int .i64 s.arm, .bool s.dead].length := size26
      have HF : Hid (FHas (w1.setRow w.heap.size #[.slice p1 lw.length c1, .int .i64 s.room, .int .i64 s.arm, .bool s.dead]) (.slice p1 lw.length c1) lw) := by
        have := (W1.away ho6 #[.slice p1 lw.length c1, .int .i64 s.room, .int .i64 s.arm, .bool s.dead]).has
        simp only [HL.out, hlen] at this
        exact this
      have HK3 : Hid (Kf off w (w1.setRow w.heap.size #[.slice p1 lw.length c1, .int .i64 s.room, .int .i64 s.arm, .bool s.dead])) := HK1.out.trans (Kf.grown (grown_row _ _ _) fun j e => by
        cases e
        exact hn6)
      have RF3 := RF1.row #[.slice p1 lw.length c1, .int .i64 s.room, .int .i64 s.arm, .bool s.dead]
      clear W1 K1 RF hl HK0 HK1
      go_wp2_with (first | refine load_m 26 _ rfl rfl _ _ rfl d2 Try.underlying26 rfl z2 ?_ | refine store_r rfl 26 _ _ rfl _ _ rfl rfl RF1 size26 rfl (by simp [Value.oneCell']) ?_)
      refine bodyPost_ret (results_rt rfl rfl RF3 rfl Try.underlying26 size26) rfl ⟨p1, c1, rfl, HF.out, HK3.out⟩
end Go.Proofs.Ytjjncmenkepcoaa
/- A disk at work: the closures that are handed to do. -/
namespace Go.Proofs.Ytjjncmenkepcoaa
open Go.RowKit

theorem nothing_any (w : World) : Calls Try.prog 41 #[] w fun e w' => e = .returned (.tuple #[]) ∧ w' = w := by
  go_enter Try.func41, Try.ntmps41
  go_wp2
  refine bodyPost_end (v := .tuple #[]) (by simp [results, Try.results41, go_sem]) rfl ⟨rfl, rfl⟩
theorem nothing_cls {w : World} {B b : Nat} {off : Nat → Prop} {s : St} {p : Option Addr} {c : Nat} : Cls w B b off s p c 41 #[] (s.ys.map (·.1)) := fun off' w' _ hW _ _ => (nothing_any w').mono fun e w2 ⟨h1, h2⟩ => by
  subst h2
  exact ⟨s.ys, s.th, rfl, h1, p, c, hW, Kf.refl _ _⟩
set_option maxHeartbeats 1000000 in
set_option maxRecDepth 100000 in
theorem putc_any {w : World} {B b : Nat} {off : Nat → Prop} {s : St} {p : Option Addr} {c : Nat} {A C : List (FV × Value)} {M : Option (FV × Value)} (h : Wk w B b off s p c) (hs : Spl s A M C) (hn : s.ys.length ≤ 90) {bw bd : Nat} {u : Value} {l : List UInt8} (hw : Rw w bw 61 #[.pointer (some ⟨b, 0, none⟩)]) (hd : Rw w bd 22 #[u]) (ow : off bw) (od : off bd) (hu : DB w u l) (hl : l.length ≤ 5000000) :
    Calls Try.prog 38 #[.pointer (some ⟨bw, 0, none⟩), .pointer (some ⟨bd, 0, none⟩)] w fun e w' => ∃ u', PuPost B b off (s.with (A ++ (⟨nmM s.x M, l, l.length⟩, u') :: C)) w e w' := by
  obtain ⟨pu, cu, rfl⟩ := SHas.slice hu
  have hS : w.drew.cell? ⟨bw, 0, none⟩ = some (.pointer (some ⟨b, 0, none⟩)) ∧ w.drew.cell? ⟨bd, 0, none⟩ = some (.slice pu l.length cu) := ⟨hw.cell 0, hd.cell 0⟩
  have hWd : Hid (Wk w.drew B b off s p c) := h.drew
  have hRd : Hid (Rw w.drew bw 61 #[.pointer (some ⟨b, 0, none⟩)] ∧ Rw w.drew bd 22 #[.slice pu l.length cu]) := ⟨hw, hd⟩
  have hud : DB w.drew (.slice pu l.length cu) l := SHas.drew hu
  have HKd : Hid (Kf off w w.drew) := Kf.of (Below.refl _ _).drew
  clear h hw hd hu
  go_enter Try.func38, Try.ntmps38
  go_wp2_with fail
  refine HeldI.region (fun w' : World => w'.cell? ⟨bw, 0, none⟩ = some (.pointer (some ⟨b, 0, none⟩)) ∧ w'.cell? ⟨bd, 0, none⟩ = some (.slice pu l.length cu)) (by kernel_rfl) ?_
  generalize w.drew = wd at hS hWd hRd hud HKd ⊢
  refine HeldI.ce 0 (fun _ h => h.1) hS ?_
  refine HeldI.ce 1 (fun _ h => h.2) hS ?_
  refine HeldI.ce 3 (fun _ h => h.2) hS ?_
  refine HeldI.pu 4 hS ?_
  refine HeldI.kn 2 (cloneBytes_any _ l wd hud hl) ?_
  rintro e w1 ⟨v, rfl, hov, hb1⟩
  refine ⟨_, rfl, ⟨cell_later hb1 hS.1, cell_later hb1 hS.2⟩, ?_⟩
  have hW1 := hWd.out.later hb1
  have hBs : B ≤ wd.heap.size := by have := hWd.out.bB; have := hWd.out.r.lt; omega
  have hfr : ∀ j, v.ownBlock = some j → wd.heap.size ≤ j := fun j e => (hov.lt j e).1
  have CP := put_any (hW1.wp hs) hs hn v l (l.length : Int) (own_base hov hBs) (fun j e hj => by
    have := hWd.out.ol j hj
    have := hfr j e
    omega) (fun y hy j e e2 => by
    have := (hWd.out.dl (hs.mem hy) e2).2
    have := hfr j e
    omega)
  refine HeldI.kn 5 CP ?_
  rintro e w2 ⟨rfl, p2, c2, W2, K2⟩
  have R1 := K2.rw (hRd.out.1.later hb1) ow
  have R2 := K2.rw (hRd.out.2.later hb1) od
  refine ⟨_, rfl, ⟨R1.cell 0, R2.cell 0⟩, ?_⟩
  have HK2 : Hid (Kf off w w2) := (HKd.out.trans (Kf.of hb1)).trans K2
  have HW2 : Hid (Wk w2 B b off (s.with (A ++ (⟨nmM s.x M, l, l.length⟩, v) :: C)) p2 c2) := W2
  clear W2 K2 R1 R2 CP hfr hov hW1 hud hRd hWd hS HKd
  refine HeldI.dn ?_
  go_wp2_with fail
  refine bodyPost_end (v := .tuple #[]) (by simp [results, Try.results38, go_sem]) rfl ⟨v, rfl, p2, c2, HW2.out, HK2.out⟩
theorem putc_cls {w : World} {B b : Nat} {off : Nat → Prop} {s : St} {p : Option Addr} {c : Nat} {A C : List (FV × Value)} {M : Option (FV × Value)} (hs : Spl s A M C) (hn : s.ys.length ≤ 90) {bw bd : Nat} {u : Value} {l : List UInt8} (hw : Rw w bw 61 #[.pointer (some ⟨b, 0, none⟩)]) (hd : Rw w bd 22 #[u]) (ow : off bw) (od : off bd) (hu : DB w u l) (hl : l.length ≤ 5000000) :
    Cls w B b off s p c 38 #[.pointer (some ⟨bw, 0, none⟩), .pointer (some ⟨bd, 0, none⟩)] (A.map (·.1) ++ ⟨nmM s.x M, l, l.length⟩ :: C.map (·.1)) := fun off' w' h1 hW hb _ => (putc_any hW hs hn (hw.later hb) (hd.later hb) (h1 _ ow) (h1 _ od) (SHas.later hu hb) hl).mono fun e w2 ⟨u', h⟩ => ⟨_, true, by simp, h⟩
set_option maxHeartbeats 1000000 in
set_option maxRecDepth 100000 in
theorem syncc_any {w : World} {B b : Nat} {off : Nat → Prop} {s : St} {p : Option Addr} {c : Nat} {A C : List (FV × Value)} {y : FV × Value} (h : Wk w B b off s p c) (hs : Spl s A (some y) C) (hn : s.ys.length ≤ 90) {bw : Nat} (hw : Rw w bw 61 #[.pointer (some ⟨b, 0, none⟩)]) (ow : off bw) :
    Calls Try.prog 53 #[.pointer (some ⟨bw, 0, none⟩)] w fun e w' => PuPost B b off (s.with (A ++ (⟨y.1.x, y.1.d, y.1.d.length⟩, y.2) :: C)) w e w' := by
  obtain ⟨⟨x0, l, k0⟩, v⟩ := y
  have hS : w.drew.cell? ⟨bw, 0, none⟩ = some (.pointer (some ⟨b, 0, none⟩)) := hw.cell 0
  have hWd : Hid (Wk w.drew B b off s p c) := h.drew
  have hRd : Hid (Rw w.drew bw 61 #[.pointer (some ⟨b, 0, none⟩)]) := hw
  have HKd : Hid (Kf off w w.drew) := Kf.of (Below.refl _ _).drew
  have hy : (⟨x0, l, k0⟩, v) ∈ s.ys := by rw [hs.ys]; simp
  obtain ⟨p1, c1, rfl⟩ : ∃ p c, v = .slice p l.length c := own_sl (h.g.o _ hy)
  have EF := fun w' => field57_1 x0 p1 l.length c1 k0 w'
  have hdf : ∀ z, z ∈ A ∨ z ∈ C → Dif (⟨x0, l, k0⟩, .slice p1 l.length c1) z := by
    have h1 := h.g.n
    rw [hs.ys] at h1
    simp only [Option.toList_some, List.singleton_append] at h1
    rw [List.pairwise_append] at h1
    obtain ⟨_, h2, h3⟩ := h1
    rintro z (hz | hz)
    · exact (h3 z hz _ (by simp)).symm
    · exact (List.pairwise_cons.1 h2).1 z hz
  clear h hw
  go_enter Try.func53, Try.ntmps53
  go_wp2_with fail
  refine HeldI.region (fun w' : World => w'.cell? ⟨bw, 0, none⟩ = some (.pointer (some ⟨b, 0, none⟩))) (by kernel_rfl) ?_
  generalize w.drew = wd at hS hWd hRd HKd ⊢
  refine HeldI.ce 0 (fun _ h => h) hS ?_
  refine HeldI.ce 1 (fun _ h => h) hS ?_
  refine HeldI.ce 4 (fun _ h => h) hS ?_
  refine HeldI.kn 2 (file_any hWd.out hs) ?_
  rintro e w1 ⟨rfl, hb1⟩
  have hS1 := cell_later hb1 hS
  refine ⟨_, rfl, hS1, ?_⟩
  have hW1 : Hid (Wk w1 B b off s p c) := hWd.out.later hb1
  refine HeldI.pu 3 hS1 ?_
  refine HeldI.kn 5 (file_any hW1.out hs) ?_
  rintro e w2 ⟨rfl, hb2⟩
  have hS2 := cell_later hb2 hS1
  refine ⟨_, rfl, hS2, ?_⟩
  have hW2 : Hid (Wk w2 B b off s p c) := hW1.out.later hb2
  refine HeldI.pu 6 hS2 ?_
  refine HeldI.pu 7 hS2 ?_
  have CP := put_any (hW2.out.wp hs) hs hn (.slice p1 l.length c1) l (l.length : Int) (hW2.out.g.o _ hy) (fun j e hj => hW2.out.od _ hy j e hj) (fun z hz j e e2 => hdf z hz j e e2)
  refine HeldI.kn 8 CP ?_
  rintro e w3 ⟨rfl, p2, c2, W3, K3⟩
  have R1 := K3.rw ((hRd.out.later hb1).later hb2) ow
  refine ⟨_, rfl, R1.cell 0, ?_⟩
  have HK3 : Hid (Kf off w w3) := ((HKd.out.trans (Kf.of hb1)).trans (Kf.of hb2)).trans K3
  have HW3 : Hid (Wk w3 B b off (s.with (A ++ (⟨x0, l, l.length⟩, .slice p1 l.length c1) :: C)) p2 c2) := W3
  clear W3 K3 R1 CP hW1 hW2 hRd hWd hS hS1 hS2 HKd hdf
  refine HeldI.dn ?_
  go_wp2_with fail
  refine bodyPost_end (v := .tuple #[]) (by simp [results, Try.results53, go_sem]) rfl ⟨rfl, p2, c2, HW3.out, HK3.out⟩
theorem syncc_cls {w : World} {B b : Nat} {off : Nat → Prop} {s : St} {p : Option Addr} {c : Nat} {A C : List (FV × Value)} {y : FV × Value} (hs : Spl s A (some y) C) (hn : s.ys.length ≤ 90) {bw : Nat} (hw : Rw w bw 61 #[.pointer (some ⟨b, 0, none⟩)]) (ow : off bw) :
    Cls w B b off s p c 53 #[.pointer (some ⟨bw, 0, none⟩)] (A.map (·.1) ++ ⟨y.1.x, y.1.d, y.1.d.length⟩ :: C.map (·.1)) := fun off' w' h1 hW hb _ => (syncc_any hW hs hn (hw.later hb) (h1 _ ow)).mono fun e w2 h => ⟨_, true, by simp, h⟩
end Go.Proofs.Ytjjncmenkepcoaa
/- A disk at work: the closures of Append and of Drop. -/
namespace Go.Proofs.Ytjjncmenkepcoaa
open Go.RowKit

theorem run_appB {w : World} {B : Nat} {v vx : Value} {l m : List UInt8} (ty : TypeId) (hown : w.ownsRow B 5 1 v l.length (cel l)) (hx : DB w vx m) (hlen : l.length + m.length ≤ 10000000) (hB : B ≤ w.heap.size) : ∃ v' w', (Builtin.append_ #[22, 22] ty #[v, vx]).run Try.prog w = .ok v' w' ∧ w'.ownsRow B 5 1 v' (l ++ m).length (cel (l ++ m)) ∧ w.grownBy w' v.ownBlock ∧ (v'.ownBlock = v.ownBlock ∨ v'.ownBlock = some w.heap.size) := by
  obtain ⟨i, hi, e⟩ := Option.map_eq_some_iff.1 info5
  simp only [Prod.mk.injEq] at e
  rw [List.length_append, cel_append]
  have hmx : l.length + m.length ≤ maxLen := Nat.le_trans hlen (by decide)
  obtain ⟨hm, hl, ⟨rfl, h0⟩ | ⟨ad, c, rfl, hc, hd⟩⟩ := hx
  · obtain rfl := List.length_eq_zero_iff.1 h0
    refine ⟨v, w, run_append_owned_none (P := Try.prog) (w := w) B 22 ty 5 i 1 Try.underlying22 hi v l.length _ hown, ?_, World.grownBy.refl _ _, .inl rfl⟩
    simpa [cel] using hown
  · have hz : ∀ j u, (cel m)[j]? = some u → w.cell? (ad.add j) = some u := fun j u hu => by
      have hz : 0 < m.length := by
        have := (List.getElem?_eq_some_iff.1 hu).1
        rw [cel_length] at this
        omega
      obtain ⟨g, o', rfl, hr⟩ := hd hz
      rw [Addr.add_mid]
      exact hr j u hu
    obtain ⟨v', w', h1, h2, h3, _, h5⟩ := Go.run_append_own_at (P := Try.prog) w B 22 ty 5 i _ 1 1 Try.underlying22 hi e.1 e.2.1 e.2.2 rfl (by decide) v l.length _ hown ad m.length c (cel m) hl hz (cel_one m) hmx (by omega) hB
    exact ⟨v', w', h1, h2, h3, h5⟩
section
variable {w w' : World} {B b : Nat} {off : Nat → Prop} {s : St} {p : Option Addr} {c : Nat} {A C : List (FV × Value)} {M : Option (FV × Value)}
theorem Wk.fo (h : Wk w B b off s p c) (hs : Spl s A M C) : ∀ j, (flM M).2.ownBlock = some j → ¬ off j := by
  cases M with
  | none => intro j e; cases e
  | some y =>
    have hy : y ∈ s.ys := by rw [hs.ys]; simp
    exact fun j e => h.od y hy j e
theorem Wk.fb (h : Wk w B b off s p c) (hs : Spl s A M C) : ∀ j, (flM M).2.ownBlock = some j → b ≠ j := by
  cases M with
  | none => intro j e; cases e
  | some y =>
    have hy : y ∈ s.ys := by rw [hs.ys]; simp
    exact fun j e => h.bd hy e
theorem Wk.fd (h : Wk w B b off s p c) (hs : Spl s A M C) : ∀ z, z ∈ A ∨ z ∈ C → ∀ j, (flM M).2.ownBlock = some j → z.2.ownBlock ≠ some j := by
  cases M with
  | none => intro z _ j e; cases e
  | some y =>
    have h1 := h.g.n
    rw [hs.ys] at h1
    simp only [Option.toList_some, List.singleton_append] at h1
    rw [List.pairwise_append] at h1
    obtain ⟨_, h2, h3⟩ := h1
    rintro z (hz | hz) j e
    · exact (h3 z hz y (by simp)).symm j e
    · exact (List.pairwise_cons.1 h2).1 z hz j e
/-- What is appended to the bytes of the file at work leaves the rest. -/
theorem Wk.grow (h : Wk w B b off s p c) (hs : Spl s A M C) (hg : w.grownBy w' (flM M).2.ownBlock) : Wp w' B b off s p c A C := by
  refine ⟨(hg.block b h.r.lt fun e => h.fb hs b e.symm rfl).trans h.r, own_keep h.g.r fun k e => hg.block k (h.gl e).2 fun e2 => ?_, fun y hy => own_keep (h.g.o y (hs.mem hy)) fun k e => hg.block k (h.dl (hs.mem hy) e).2 fun e2 => h.fd hs y hy k e2.symm e, (h.wp hs).gn, h.bB, h.ob, h.og, fun y hy => h.od y (hs.mem hy), fun k hk => Nat.lt_of_lt_of_le (h.ol k hk) hg.size⟩
  obtain ⟨_, c1, h1⟩ := own_heap h.g.r e
  obtain ⟨_, c2, h2⟩ := own_heap (h.fl hs) e2.symm
  rw [h1] at h2
  simp at h2
end
set_option maxHeartbeats 1000000 in
set_option maxRecDepth 100000 in
theorem appc_any {w : World} {B b : Nat} {off : Nat → Prop} {s : St} {p : Option Addr} {c : Nat} {A C : List (FV × Value)} {M : Option (FV × Value)} (h : Wk w B b off s p c) (hs : Spl s A M C) (hn : s.ys.length ≤ 90) {bw bf bd : Nat} {u : Value} {l : List UInt8} (hw : Rw w bw 61 #[.pointer (some ⟨b, 0, none⟩)]) (hf : Rw w bf 57 #[.string (flM M).1.x, (flM M).2, .int .i64 (flM M).1.k]) (hd : Rw w bd 22 #[u]) (ow : off bw) (of : off bf) (od : off bd) (hu : DB w u l) (hl : (flM M).1.d.length + l.length ≤ 10000000) :
    Calls Try.prog 51 #[.pointer (some ⟨bw, 0, none⟩), .pointer (some ⟨bf, 0, none⟩), .pointer (some ⟨bd, 0, none⟩)] w fun e w' => ∃ u', PuPost B b off (s.with (A ++ (⟨nmM s.x M, (flM M).1.d ++ l, (flM M).1.k⟩, u') :: C)) w e w' := by
  obtain ⟨pu, cu, rfl⟩ := SHas.slice hu
  have HF1 : Hid (w.drew.ownsRow B 5 1 (flM M).2 (flM M).1.d.length (cel (flM M).1.d)) := h.fl hs
  have HFO : Hid (∀ j, (flM M).2.ownBlock = some j → ¬ off j) := h.fo hs
  have HFD : Hid (∀ z, z ∈ A ∨ z ∈ C → ∀ j, (flM M).2.ownBlock = some j → z.2.ownBlock ≠ some j) := h.fd hs
  have hWd : Hid (Wk w.drew B b off s p c) := h.drew
  have HG : Hid (∀ wd w' : World, Wk wd B b off s p c → wd.grownBy w' (flM M).2.ownBlock → Wp w' B b off s p c A C) := fun wd w' hW hg => hW.grow hs hg
  obtain ⟨f, HFM⟩ := hid_ex (flM M)
  rw [HFM.out] at HF1 HFO HFD HG hl hf ⊢
  clear HFM
  obtain ⟨⟨fx, fd, fk⟩, fv⟩ := f
  replace HF1 : Hid (w.drew.ownsRow B 5 1 fv fd.length (cel fd)) := HF1
  replace HFO : Hid (∀ j, fv.ownBlock = some j → ¬ off j) := HFO
  replace HFD : Hid (∀ z, z ∈ A ∨ z ∈ C → ∀ j, fv.ownBlock = some j → z.2.ownBlock ≠ some j) := HFD
  replace HG : Hid (∀ wd w' : World, Wk wd B b off s p c → wd.grownBy w' fv.ownBlock → Wp w' B b off s p c A C) := HG
  replace hl : fd.length + l.length ≤ 10000000 := hl
  replace hf : Rw w bf 57 #[.string fx, fv, .int .i64 fk] := hf
  show Calls Try.prog 51 _ w fun e w' => ∃ u', PuPost B b off (s.with (A ++ (⟨nmM s.x M, fd ++ l, fk⟩, u') :: C)) w e w'
  obtain ⟨p1, c1, rfl⟩ : ∃ p c, fv = .slice p fd.length c := own_sl HF1.out
  have hS : w.drew.cell? ⟨bw, 0, none⟩ = some (.pointer (some ⟨b, 0, none⟩)) ∧ w.drew.cell? ⟨bd, 0, none⟩ = some (.slice pu l.length cu) ∧ w.drew.cell? ⟨bf, 1, none⟩ = some (.slice p1 fd.length c1) ∧ w.drew.cell? ⟨bf, 2, none⟩ = some (.int .i64 fk) := ⟨hw.cell 0, hd.cell 0, hf.cell 1, hf.cell 2⟩
  have hRd : Hid (Rw w.drew bw 61 #[.pointer (some ⟨b, 0, none⟩)] ∧ Rw w.drew bd 22 #[.slice pu l.length cu] ∧ Rw w.drew bf 57 #[.string fx, .slice p1 fd.length c1, .int .i64 fk]) := ⟨hw, hd, hf⟩
  have hud : DB w.drew (.slice pu l.length cu) l := SHas.drew hu
  have HKd : Hid (Kf off w w.drew) := Kf.of (Below.refl _ _).drew
  clear h hw hd hu hf
  go_enter Try.func51, Try.ntmps51
  go_wp2_with fail
  refine HeldI.region (fun w' : World => w'.cell? ⟨bw, 0, none⟩ = some (.pointer (some ⟨b, 0, none⟩)) ∧ w'.cell? ⟨bd, 0, none⟩ = some (.slice pu l.length cu) ∧ w'.cell? ⟨bf, 1, none⟩ = some (.slice p1 fd.length c1) ∧ w'.cell? ⟨bf, 2, none⟩ = some (.int .i64 fk)) (by kernel_rfl) ?_
  generalize w.drew = wd at hS hWd hRd hud HKd HF1 ⊢
  refine HeldI.ce 0 (fun _ h => h.1) hS ?_
  refine HeldI.pu 1 hS ?_
  refine HeldI.ce 2 (fun _ h => h.2.2.1) hS ?_
  refine HeldI.ce 3 (fun _ h => h.2.1) hS ?_
  refine HeldI.pu 5 hS ?_
  refine HeldI.ce 6 (fun _ h => h.2.2.2) hS ?_
  have hBs : B ≤ wd.heap.size := by have := hWd.out.bB; have := hWd.out.r.lt; omega
  obtain ⟨v5, w5, hrun, O5, hg5, hb5⟩ := run_appB 22 HF1.out hud hl hBs
  have hK5 : Kf off wd w5 := Kf.grown hg5 fun g e => HFO.out g e
  have R1 := hK5.rw hRd.out.1 ow
  have R2 := hK5.rw hRd.out.2.1 od
  have R3 := hK5.rw hRd.out.2.2 of
  have hS5 : w5.cell? ⟨bw, 0, none⟩ = some (.pointer (some ⟨b, 0, none⟩)) ∧ w5.cell? ⟨bd, 0, none⟩ = some (.slice pu l.length cu) ∧ w5.cell? ⟨bf, 1, none⟩ = some (.slice p1 fd.length c1) ∧ w5.cell? ⟨bf, 2, none⟩ = some (.int .i64 fk) := ⟨R1.cell 0, R2.cell 0, R3.cell 1, R3.cell 2⟩
  refine HeldI.ap 4 hrun hS5 ?_
  have W5 := HG.out wd w5 hWd.out hg5
  have CP := put_any W5 hs hn v5 (fd ++ l) fk O5 (fun j e hj => by
    rcases hb5 with h | h
    · exact HFO.out j (h ▸ e) hj
    · rw [h] at e
      cases e
      have := hWd.out.ol _ hj
      omega) (fun y hy j e e2 => by
    rcases hb5 with h | h
    · exact HFD.out y hy j (h ▸ e) e2
    · rw [h] at e
      cases e
      have := (hWd.out.dl (hs.mem hy) e2).2
      omega)
  refine HeldI.kn 7 CP ?_
  rintro e w2 ⟨rfl, p2, c2, W2, K2⟩
  have Q1 := K2.rw R1 ow
  have Q2 := K2.rw R2 od
  have Q3 := K2.rw R3 of
  refine ⟨_, rfl, ⟨Q1.cell 0, Q2.cell 0, Q3.cell 1, Q3.cell 2⟩, ?_⟩
  have HK2 : Hid (Kf off w w2) := (HKd.out.trans hK5).trans K2
  have HW2 : Hid (Wk w2 B b off (s.with (A ++ (⟨nmM s.x M, fd ++ l, fk⟩, v5) :: C)) p2 c2) := W2
  clear W2 K2 R1 R2 R3 Q1 Q2 Q3 CP W5 hS5 hK5 hb5 hg5 O5 hrun hud hRd hWd hS HKd HF1 HFO HFD HG
  refine HeldI.dn ?_
  go_wp2_with fail
  refine bodyPost_end (v := .tuple #[]) (by simp [results, Try.results51, go_sem]) rfl ⟨v5, rfl, p2, c2, HW2.out, HK2.out⟩
theorem appc_cls {w : World} {B b : Nat} {off : Nat → Prop} {s : St} {p : Option Addr} {c : Nat} {A C : List (FV × Value)} {M : Option (FV × Value)} (hs : Spl s A M C) (hn : s.ys.length ≤ 90) {bw bf bd : Nat} {u : Value} {l : List UInt8} (hw : Rw w bw 61 #[.pointer (some ⟨b, 0, none⟩)]) (hf : Rw w bf 57 #[.string (flM M).1.x, (flM M).2, .int .i64 (flM M).1.k]) (hd : Rw w bd 22 #[u]) (ow : off bw) (of : off bf) (od : off bd) (hu : DB w u l) (hl : (flM M).1.d.length + l.length ≤ 10000000) :
    Cls w B b off s p c 51 #[.pointer (some ⟨bw, 0, none⟩), .pointer (some ⟨bf, 0, none⟩), .pointer (some ⟨bd, 0, none⟩)] (A.map (·.1) ++ ⟨nmM s.x M, (flM M).1.d ++ l, (flM M).1.k⟩ :: C.map (·.1)) := fun off' w' h1 hW hb _ => (appc_any hW hs hn (hw.later hb) (hf.later hb) (hd.later hb) (h1 _ ow) (h1 _ of) (h1 _ od) (SHas.later hu hb) hl).mono fun e w2 ⟨u', h⟩ => ⟨_, true, by simp, h⟩
set_option maxHeartbeats 1000000 in
set_option maxRecDepth 100000 in
theorem dropc_any {w : World} {B b : Nat} {off : Nat → Prop} {s : St} {p : Option Addr} {c : Nat} {A C : List (FV × Value)} {y : FV × Value} (h : Wk w B b off s p c) (hs : Spl s A (some y) C) (hn : s.ys.length ≤ 90) {bw : Nat} (hw : Rw w bw 61 #[.pointer (some ⟨b, 0, none⟩)]) (ow : off bw) :
    Calls Try.prog 54 #[.pointer (some ⟨bw, 0, none⟩)] w (PuPost B b off { s with ys := A ++ C } w) := by
  have hys : s.ys = A ++ y :: C := hs.ys
  obtain ⟨room, arm, dead, x, pl, th, ys⟩ := s
  have hpl : pl = A.length := hs.pl
  simp only at hys
  subst hys hpl
  have hk : A.length < (A ++ y :: C).length := by simp
  obtain ⟨g, rfl⟩ : ∃ g, p = some ⟨g, 0, none⟩ := by
    rcases h.g.r.2 with ⟨e, h0⟩ | ⟨g, cap, cur, e, _⟩
    · have h0' : (A ++ y :: C).length = 0 := h0
      omega
    · simp only [Value.slice.injEq] at e
      exact ⟨g, e.1⟩
  have hS : w.drew.cell? ⟨bw, 0, none⟩ = some (.pointer (some ⟨b, 0, none⟩)) ∧ w.drew.cell? ⟨b, 5, none⟩ = some (.int .i64 A.length) := ⟨hw.cell 0, h.r.cell 5⟩
  have k0 : w.drew.cell? ⟨b, 0, none⟩ = some (.slice (some ⟨g, 0, none⟩) (A ++ y :: C).length c) := h.r.cell 0
  have hWd : Hid (Wk w.drew B b off ⟨room, arm, dead, x, A.length, th, A ++ y :: C⟩ (some ⟨g, 0, none⟩) c) := h.drew
  have hRd : Hid (Rw w.drew bw 61 #[.pointer (some ⟨b, 0, none⟩)]) := hw
  have HKd : Hid (Kf off w w.drew) := Kf.of (Below.refl _ _).drew
  have HN : Hid ((A ++ y :: C).length ≤ 90) := hn
  have hA : A.length ≤ 90 := by
    have h1 := HN.out
    rw [List.length_append] at h1
    omega
  have ew : IntKind.i64.wrap ((A.length : Int) + 1) = (A.length : Int) + 1 := by rw [IntKind.wrap_i64]; omega
  clear hA
  clear h hw hs hn hk
  go_enter Try.func54, Try.ntmps54
  go_wp2_with fail
  refine HeldI.region (fun w' : World => w'.cell? ⟨bw, 0, none⟩ = some (.pointer (some ⟨b, 0, none⟩)) ∧ w'.cell? ⟨b, 5, none⟩ = some (.int .i64 A.length)) (by kernel_rfl) ?_
  generalize w.drew = wd at hS hWd hRd HKd k0 ⊢
  refine HeldI.ce 0 (fun _ h => h.1) hS ?_
  refine HeldI.ce 1 (fun _ h => h.1) hS ?_
  refine HeldI.pu 2 hS ?_
  refine HeldI.pu 3 hS ?_
  refine HeldI.pu 4 hS ?_
  refine HeldI.ce 6 (fun _ h => h.1) hS ?_
  refine HeldI.pu 7 hS ?_
  refine HeldI.pu 8 hS ?_
  refine HeldI.ce 9 (fun _ h => h.2) hS ?_
  refine HeldI.ce 10 (fun _ h => h.1) hS ?_
  refine HeldI.pu 11 hS ?_
  refine HeldI.pu 12 hS ?_
  refine HeldI.ce 13 (fun _ h => h.2) hS ?_
  refine HeldI.pu 14 hS ?_
  refine HeldI.vl (w1 := wd) (v := .slice (some ⟨g, 0, none⟩) (A ++ y :: C).length c) 5 ?hv5 hS ?_
  case hv5 => go_simp
  have CD := delete_any (hWd.out.g.r) (FV.ones fun y hy => own_sh (hWd.out.g.o y hy)) HN.out
  refine HeldI.kn 15 CD ?_
  rintro e w1 ⟨rfl, O1, G1⟩
  have hgo : ¬ off g := hWd.out.og g rfl
  have hbg : b ≠ g := hWd.out.bg rfl
  have K1 : Kf off wd w1 := Kf.grown G1 fun j e => by
    cases e
    exact hgo
  have R1 := K1.rw hRd.out ow
  have Rb : Rw w1 b 66 (wkc (some ⟨g, 0, none⟩) c ⟨room, arm, dead, x, A.length, th, A ++ y :: C⟩) := (G1.block b hWd.out.r.lt fun e => by
    cases e
    exact hbg rfl).trans hWd.out.r
  have hS1 : w1.cell? ⟨bw, 0, none⟩ = some (.pointer (some ⟨b, 0, none⟩)) ∧ w1.cell? ⟨b, 5, none⟩ = some (.int .i64 A.length) := ⟨R1.cell 0, Rb.cell 5⟩
  refine ⟨_, rfl, hS1, ?_⟩
  refine HeldI.pu 16 hS1 ?_
  refine HeldI.pu 17 hS1 ?_
  refine HeldI.pu 18 hS1 ?_
  have hbwb : bw ≠ b := fun e => hWd.out.ob (e ▸ ow)
  have Rb2 := Rb.set 0 (.slice (some ⟨g, 0, none⟩) (A ++ C).length c)
  have R2 := R1.setOther hbwb 0 (.slice (some ⟨g, 0, none⟩) (A ++ C).length c)
  refine HeldI.ss 19 (store_b24 (Rb.cell 0) (Rb.frozen 0) (some ⟨g, 0, none⟩) (A ++ C).length c) ⟨R2.cell 0, Rb2.cell 5⟩ ?_
  obtain ⟨_, cur, hcur⟩ := row_cur hWd.out.g.r
  have hin : ∀ z, z ∈ A ++ C → z ∈ A ++ y :: C := fun z hz => (List.mem_append.1 hz).elim (List.mem_append_left _) fun hz => List.mem_append_right _ (List.mem_cons_of_mem _ hz)
  have HT1 : OwnG w1 B (.slice (some ⟨g, 0, none⟩) (A ++ C).length c) (A ++ C) := ⟨O1, fun z hz => own_apart (hWd.out.g.o z (hin z hz)) G1 hcur (by decide), pair_out (M := some y) hWd.out.g.n⟩
  have HW2 : Hid (Wk (w1.setCell ⟨b, 0, none⟩ (.slice (some ⟨g, 0, none⟩) (A ++ C).length c)) B b off ⟨room, arm, dead, x, A.length, th, A ++ C⟩ (some ⟨g, 0, none⟩) c) := ⟨Rb2, HT1.box Rb 0 _, hWd.out.bB, hWd.out.ob, hWd.out.og, fun z hz => hWd.out.od z (hin z hz), fun k hk => by
    have := hWd.out.ol k hk
    have := G1.size
    simp
    omega⟩
  have HK2 : Hid (Kf off w (w1.setCell ⟨b, 0, none⟩ (.slice (some ⟨g, 0, none⟩) (A ++ C).length c))) := (HKd.out.trans K1).trans (Kf.grown (grown_cell _ _ _ _) fun j e => by
    cases e
    exact hWd.out.ob)
  clear HT1 Rb Rb2 R1 R2 K1 O1 G1 CD hS hS1 hRd hWd HKd k0 hcur
  refine HeldI.dn ?_
  go_wp2_with fail
  refine bodyPost_end (v := .tuple #[]) (by simp [results, Try.results54, go_sem]) rfl ⟨rfl, _, _, HW2.out, HK2.out⟩
theorem dropc_cls {w : World} {B b : Nat} {off : Nat → Prop} {s : St} {p : Option Addr} {c : Nat} {A C : List (FV × Value)} {y : FV × Value} (hs : Spl s A (some y) C) (hn : s.ys.length ≤ 90) {bw : Nat} (hw : Rw w bw 61 #[.pointer (some ⟨b, 0, none⟩)]) (ow : off bw) :
    Cls w B b off s p c 54 #[.pointer (some ⟨bw, 0, none⟩)] (A.map (·.1) ++ C.map (·.1)) := fun off' w' h1 hW hb _ => (dropc_any hW hs hn (hw.later hb) (h1 _ ow)).mono fun e w2 h => ⟨_, s.th, by simp, h⟩
end Go.Proofs.Ytjjncmenkepcoaa
/- A disk at work is made: atWork, onFile. -/
namespace Go.Proofs.Ytjjncmenkepcoaa
open Go.RowKit

/-- A disk at work is the disk, and at that file. -/
structure Ofd (s : St) (d : DV) (x : ByteArray) : Prop where
  fs : s.ys.map (·.1) = d.fs
  room : s.room = d.room
  arm : s.arm = d.arm
  dead : s.dead = d.dead
  sx : s.x = x
  fd : Fdx d.fs x s.pl s.th
theorem split_at {s : St} (h1 : s.pl ≤ s.ys.length) (h2 : s.th = true → s.pl < s.ys.length) : ∃ A M C, Spl s A M C := by
  cases ht : s.th with
  | false => exact ⟨s.ys.take s.pl, none, s.ys.drop s.pl, by simp, by simp [h1], by rw [ht]; rfl⟩
  | true =>
    have h3 := h2 ht
    refine ⟨s.ys.take s.pl, some s.ys[s.pl], s.ys.drop (s.pl + 1), ?_, by simp [h1], by rw [ht]; rfl⟩
    simp
/-- What atWork and onFile answer. -/
def AwPost (d : DV) (x : ByteArray) (E : St → Int) (w : World) (e : Ending) (w' : World) : Prop := ∃ b s p c A M C, e = .returned (.tuple #[.pointer (some ⟨b, 0, none⟩), .int .i64 (E s)]) ∧ Wk w' w.heap.size b (fun k => k < w.heap.size) s p c ∧ Spl s A M C ∧ Ofd s d x ∧ Below w.heap.size w w'
set_option maxHeartbeats 1000000 in
set_option maxRecDepth 100000 in
theorem atWork_any (d : DV) (sl : Value) (x : ByteArray) (w : World) (h : FHas w sl d.fs) (hn : d.fs.length ≤ 1000) (hus : us d.fs ≤ 5000000) : Calls Try.prog 35 #[DKV.of sl d, .string x] w (AwPost d x (fun _ => askD d x) w) := by
  obtain ⟨q, c0, rfl⟩ := h.slice
  have H : Hid (FHas w (.slice q d.fs.length c0) d.fs) := h
  have R0 := rw_new w 26 #[.slice q d.fs.length c0, .int .i64 d.room, .int .i64 d.arm, .bool d.dead]
  have hbel := bel_alloc (Below.refl w.heap.size w) (.cells #[.slice q d.fs.length c0, .int .i64 d.room, .int .i64 d.arm, .bool d.dead] 26)
  generalize hW : w.alloc (.cells #[.slice q d.fs.length c0, .int .i64 d.room, .int .i64 d.arm, .bool d.dead] 26) = w0 at R0 hbel
  have C1 := copyDisk_any d _ w0 (h.later hbel) hn hus
  clear h
  obtain ⟨z, HZ⟩ := hid_ex (askD d x)
  rw [HZ.out]
  go_enter Try.func35, Try.ntmps35
  go_wp2_with (first | rw [hW] | refine load_r 26 _ rfl rfl _ rfl R0 Try.underlying26 rfl size26 ?_)
  clear hW
  refine C1.mono ?_
  clear C1
  rintro e w1 ⟨p, c, ys, rfl, hm, hG, hb1⟩
  have HM : Hid (ys.map (·.1) = d.fs) := hm
  have hlen : ys.length = d.fs.length := by rw [← hm, List.length_map]
  have hw0 : w.heap.size < w0.heap.size := R0.lt
  replace R0 := R0.later hb1
  replace hbel := below_on hbel hb1
  replace hG := hG.base (Nat.le_of_lt hw0)
  clear hb1 hw0 hm
  have R2 := rw_new w1 66 #[.slice p d.fs.length c, .int .i64 d.room, .int .i64 d.arm, .bool d.dead, .string x, .int .i64 0, .bool false]
  have hb2 := bel_alloc (Below.refl w1.heap.size w1) (.cells #[.slice p d.fs.length c, .int .i64 d.room, .int .i64 d.arm, .bool d.dead, .string x, .int .i64 0, .bool false] 66)
  have hw1 : w.heap.size < w1.heap.size := R0.lt
  generalize hW2 : w1.alloc (.cells #[.slice p d.fs.length c, .int .i64 d.room, .int .i64 d.arm, .bool d.dead, .string x, .int .i64 0, .bool false] 66) = w2 at R2 hb2
  have hG2 := hG.later hb2
  have hW2' : Wk w2 w.heap.size w1.heap.size (fun k => k < w.heap.size) ⟨d.room, d.arm, d.dead, x, 0, false, ys⟩ p c := by
    refine ⟨by rw [← hlen] at R2; exact R2, by rw [← hlen] at hG2; exact hG2, by omega, (show ¬ w1.heap.size < w.heap.size by omega), fun k e hk => ?_, fun y hy k e hk => ?_, fun k hk => ?_⟩
    · have h1 := (hG2.r.lt k (by rw [← hlen]; exact e)).1
      have h2 : k < w.heap.size := hk
      omega
    · have h1 := ((hG2.o y hy).lt k e).1
      have h2 : k < w.heap.size := hk
      omega
    · have h2 : k < w.heap.size := hk
      have := hb2.size
      omega
  have HW2 : Hid (Wk w2 w.heap.size w1.heap.size (fun k => k < w.heap.size) ⟨d.room, d.arm, d.dead, x, 0, false, ys⟩ p c) := hW2'
  have C2 := find_any d.fs (.slice p d.fs.length c) x w2 (by have := hG2.has; rw [HM.out] at this; exact this) (by omega)
  replace R0 := R0.later hb2
  replace hbel := below_on hbel hb2
  have k0 : w2.cell? ⟨w1.heap.size, 0, none⟩ = some (.slice p d.fs.length c) := R2.cell 0
  clear R2 hG hG2 hb2 hW2'
  go_wp2_with (first | rw [hW2])
  clear hW2 k0
  refine C2.mono ?_
  clear C2
  rintro e w3 ⟨pl, th, rfl, hfd, hb3⟩
  have HFD : Hid (Fdx d.fs x pl th) := hfd
  replace R0 := R0.later hb3
  replace hbel := below_on hbel hb3
  have W3 := HW2.out.later hb3
  have k5 : w3.cell? ⟨w1.heap.size, 5, none⟩ = some (.int .i64 0) := W3.r.cell 5
  have f5 := W3.r.frozen 5
  have hne : w.heap.size ≠ w1.heap.size := by omega
  have W4 := W3.cell ⟨d.room, d.arm, d.dead, x, pl, false, ys⟩ rfl 5 (.int .i64 pl) rfl
  have R4 := R0.setOther hne 5 (.int .i64 pl)
  have hb4 := hbel.setCell (p := ⟨w1.heap.size, 5, none⟩) (Nat.le_of_lt hw1) (.int .i64 pl)
  generalize hW4 : w3.setCell ⟨w1.heap.size, 5, none⟩ (.int .i64 pl) = w4 at W4 R4 hb4
  have k6 : w4.cell? ⟨w1.heap.size, 6, none⟩ = some (.bool false) := W4.r.cell 6
  have f6 := W4.r.frozen 6
  have W5 := W4.cell ⟨d.room, d.arm, d.dead, x, pl, th, ys⟩ rfl 6 (.bool th) rfl
  have R5 := R4.setOther hne 6 (.bool th)
  have hb5 := hb4.setCell (p := ⟨w1.heap.size, 6, none⟩) (Nat.le_of_lt hw1) (.bool th)
  generalize hW5 : w4.setCell ⟨w1.heap.size, 6, none⟩ (.bool th) = w5 at W5 R5 hb5
  have HW5 : Hid (Wk w5 w.heap.size w1.heap.size (fun k => k < w.heap.size) ⟨d.room, d.arm, d.dead, x, pl, th, ys⟩ p c) := W5
  have C3 := refused_any d _ x w5 (H.out.later hb5) (by omega)
  rw [HZ.out] at C3
  clear W3 W4 W5 R0 R4 HW2 hbel hb4 hfd hb3
  go_wp2_with (first | rw [hW4] | rw [hW5] | refine load_r 26 _ rfl rfl _ rfl R5 Try.underlying26 rfl size26 ?_)
  clear hW4 hW5 k5 f5 k6 f6
  refine C3.mono ?_
  clear C3
  rintro e w6 ⟨rfl, hb6⟩
  have HW6 : Hid (Wk w6 w.heap.size w1.heap.size (fun k => k < w.heap.size) ⟨d.room, d.arm, d.dead, x, pl, th, ys⟩ p c) := HW5.out.later hb6
  have hbx := below_on hb5 hb6
  obtain ⟨A, M, C, hs⟩ := split_at (s := ⟨d.room, d.arm, d.dead, x, pl, th, ys⟩) (by show pl ≤ ys.length; rw [hlen]; exact HFD.out.le) (fun ht => by
    obtain ⟨h, _⟩ := HFD.out.is.1 ht
    show pl < ys.length
    rw [hlen]
    exact h)
  have HS : Hid (Spl ⟨d.room, d.arm, d.dead, x, pl, th, ys⟩ A M C) := hs
  clear hs HW5 R5 hb5 hb6
  go_wp2_with fail
  refine bodyPost_ret (v := .tuple #[.pointer (some ⟨w1.heap.size, 0, none⟩), .int .i64 z]) (by simp [results, Try.results35, go_sem]) rfl ⟨w1.heap.size, _, p, c, A, M, C, rfl, HW6.out, HS.out, ⟨HM.out, rfl, rfl, rfl, rfl, HFD.out⟩, hbx⟩
set_option maxHeartbeats 1000000 in
set_option maxRecDepth 100000 in
theorem onFile_any (d : DV) (sl : Value) (x : ByteArray) (w : World) (h : FHas w sl d.fs) (hn : d.fs.length ≤ 1000) (hus : us d.fs ≤ 5000000) : Calls Try.prog 52 #[DKV.of sl d, .string x] w (AwPost d x (fun s => if askD d x = 0 ∧ s.th = false then 7 else askD d x) w) := by
  obtain ⟨q, c0, rfl⟩ := h.slice
  have R0 := rw_new w 26 #[.slice q d.fs.length c0, .int .i64 d.room, .int .i64 d.arm, .bool d.dead]
  have hbel := bel_alloc (Below.refl w.heap.size w) (.cells #[.slice q d.fs.length c0, .int .i64 d.room, .int .i64 d.arm, .bool d.dead] 26)
  generalize hW : w.alloc (.cells #[.slice q d.fs.length c0, .int .i64 d.room, .int .i64 d.arm, .bool d.dead] 26) = w0 at R0 hbel
  have C1 := atWork_any d _ x w0 (h.later hbel) hn hus
  clear h
  obtain ⟨E, HE0⟩ := hid_ex (fun s : St => if askD d x = 0 ∧ s.th = false then 7 else askD d x)
  rw [HE0.out]
  obtain ⟨z, HZ⟩ := hid_ex (askD d x)
  rw [HZ.out] at C1 HE0
  go_enter Try.func52, Try.ntmps52
  go_wp2_with (first | rw [hW] | refine load_r 26 _ rfl rfl _ rfl R0 Try.underlying26 rfl size26 ?_)
  clear hW
  refine C1.mono ?_
  clear C1
  rintro e w1 ⟨b, s, p, c, A, M, C, rfl, hW, hs, ho, hb1⟩
  have hw0 : w.heap.size < w0.heap.size := R0.lt
  have HW : Hid (Wk w1 w.heap.size b (fun k => k < w.heap.size) s p c) := ⟨hW.r, hW.g.base (Nat.le_of_lt hw0), Nat.le_trans (Nat.le_of_lt hw0) hW.bB, fun e => hW.ob (Nat.lt_trans e hw0), fun k e hk => hW.og k e (Nat.lt_trans hk hw0), fun y hy k e hk => hW.od y hy k e (Nat.lt_trans hk hw0), fun k hk => hW.ol k (Nat.lt_trans hk hw0)⟩
  have HS : Hid (Spl s A M C) := hs
  have HO : Hid (Ofd s d x) := ho
  have hbx := below_on hbel hb1
  have k6 : w1.cell? ⟨b, 6, none⟩ = some (.bool s.th) := hW.r.cell 6
  clear hW hs ho hb1 hbel R0 hw0
  by_cases h0 : z = 0
  · subst h0
    cases ht : s.th
    · rw [ht] at k6
      have HE : Hid (E s = 7) := by
        show _ = _
        rw [← HE0.out]
        exact if_pos ⟨rfl, ht⟩
      go_wp2_with fail
      refine bodyPost_ret (v := .tuple #[.pointer (some ⟨b, 0, none⟩), .int .i64 7]) (by simp [results, Try.results52, go_sem]) rfl ⟨b, s, p, c, A, M, C, by rw [HE.out], HW.out, HS.out, HO.out, hbx⟩
    · rw [ht] at k6
      have HE : Hid (E s = 0) := by
        show _ = _
        rw [← HE0.out]
        exact if_neg fun e => by rw [ht] at e; cases e.2
      go_wp2_with fail
      refine bodyPost_ret (v := .tuple #[.pointer (some ⟨b, 0, none⟩), .int .i64 0]) (by simp [results, Try.results52, go_sem]) rfl ⟨b, s, p, c, A, M, C, by rw [HE.out], HW.out, HS.out, HO.out, hbx⟩
  · have g0 : (z == 0) = false := by rw [beq_eq_false_iff_ne]; exact h0
    have HE : Hid (E s = z) := by
      show _ = _
      rw [← HE0.out]
      exact if_neg fun e => h0 e.1
    go_wp2_with fail
    refine bodyPost_ret (v := .tuple #[.pointer (some ⟨b, 0, none⟩), .int .i64 z]) (by simp [results, Try.results52, go_sem]) rfl ⟨b, s, p, c, A, M, C, by rw [HE.out], HW.out, HS.out, HO.out, hbx⟩
end Go.Proofs.Ytjjncmenkepcoaa
