import Derived.Test.YtmcajjdijjcpkaaQStampTells8
import Derived.Test.YtmcajjdijjcpkaaQStampTells10
/- What StampTells compares, at every two stamps: the program's answer and the document's are one. -/
namespace Go.Proofs.Ytmcajjdijjcpkaa
open Go.RowKit
open Idn (ID)

theorem both_fork (t u : Tr) : ∃ (A : ID) (X : EV) (B : ID) (Y : EV) (E : Int), ∀ (n : Int) (p : Option Addr) (l c : Nat) (n' : Int) (p' : Option Addr) (l' c' : Nat) (w : World), Lies w t (TV n p l c) → Lies w u (TV n' p' l' c') → Calls Try.prog 15 #[SV n p l c n' p' l' c'] w (GivesSSE A X B Y E w) ∧ Calls Try.prog 16 #[SV n p l c n' p' l' c'] w (GivesSSE A X B Y E w) := by
  cases hb : (Idn.okT t && okT u)
  · exact ⟨zI, zE, zI, zE, 3, fun n p l c n' p' l' c' w ht hu => ⟨fork_bad t u n p l c n' p' l' c' w ht hu hb, rfork_bad t u n p l c n' p' l' c' w ht hu hb⟩⟩
  · obtain ⟨k1, k2⟩ : Idn.okT t = true ∧ okT u = true := by simpa using hb
    exact ⟨_, _, _, _, _, fun n p l c n' p' l' c' w ht hu => ⟨fork_ok (Idn.idOf t) (evOf u) n p l c n' p' l' c' w (okI_of ht k1).1 (ok_of hu k2).1 (okI_of ht k1).2 (ok_of hu k2).2, rfork_ok (Idn.idOf t) (evOf u) n p l c n' p' l' c' w (okI_of ht k1).1 (ok_of hu k2).1 (okI_of ht k1).2 (ok_of hu k2).2⟩⟩
theorem both_event (t u : Tr) : ∃ (A : ID) (X : EV) (E : Int), ∀ (n : Int) (p : Option Addr) (l c : Nat) (n' : Int) (p' : Option Addr) (l' c' : Nat) (w : World), Lies w t (TV n p l c) → Lies w u (TV n' p' l' c') → Calls Try.prog 18 #[SV n p l c n' p' l' c'] w (GivesSE A X E w) ∧ Calls Try.prog 19 #[SV n p l c n' p' l' c'] w (GivesSE A X E w) := by
  cases hb : (Idn.okT t && okT u)
  · exact ⟨zI, zE, 3, fun n p l c n' p' l' c' w ht hu => ⟨event_bad t u n p l c n' p' l' c' w ht hu hb, revent_bad t u n p l c n' p' l' c' w ht hu hb⟩⟩
  · obtain ⟨k1, k2⟩ : Idn.okT t = true ∧ okT u = true := by simpa using hb
    exact ⟨_, _, _, fun n p l c n' p' l' c' w ht hu => ⟨event_ok (Idn.idOf t) (evOf u) n p l c n' p' l' c' w (okI_of ht k1).1 (ok_of hu k2).1 (okI_of ht k1).2 (ok_of hu k2).2, revent_ok (Idn.idOf t) (evOf u) n p l c n' p' l' c' w (okI_of ht k1).1 (ok_of hu k2).1 (okI_of ht k1).2 (ok_of hu k2).2⟩⟩
theorem both_join (t u t' u' : Tr) : ∃ (A : ID) (X : EV) (E : Int), ∀ (n : Int) (p : Option Addr) (l c : Nat) (n' : Int) (p' : Option Addr) (l' c' : Nat) (m : Int) (q : Option Addr) (k d : Nat) (m' : Int) (q' : Option Addr) (k' d' : Nat) (w : World), Lies w t (TV n p l c) → Lies w u (TV n' p' l' c') → Lies w t' (TV m q k d) → Lies w u' (TV m' q' k' d') → Calls Try.prog 11 #[SV n p l c n' p' l' c', SV m q k d m' q' k' d'] w (GivesSE A X E w) ∧ Calls Try.prog 17 #[SV n p l c n' p' l' c', SV m q k d m' q' k' d'] w (GivesSE A X E w) := by
  cases hb : ((Idn.okT t && okT u) && (Idn.okT t' && okT u'))
  · exact ⟨zI, zE, 3, fun n p l c n' p' l' c' m q k d m' q' k' d' w ht hu ht' hu' => ⟨join_bad t u t' u' n p l c n' p' l' c' m q k d m' q' k' d' w ht hu ht' hu' hb, rjoin_bad t u t' u' n p l c n' p' l' c' m q k d m' q' k' d' w ht hu ht' hu' hb⟩⟩
  · obtain ⟨⟨k1, k2⟩, k3, k4⟩ : (Idn.okT t = true ∧ okT u = true) ∧ (Idn.okT t' = true ∧ okT u' = true) := by simpa using hb
    exact ⟨_, _, _, fun n p l c n' p' l' c' m q k d m' q' k' d' w ht hu ht' hu' => ⟨join_ok (Idn.idOf t) (Idn.idOf t') (evOf u) (evOf u') n p l c n' p' l' c' m q k d m' q' k' d' w (okI_of ht k1).1 (ok_of hu k2).1 (okI_of ht' k3).1 (ok_of hu' k4).1 (okI_of ht k1).2 (ok_of hu k2).2 (okI_of ht' k3).2 (ok_of hu' k4).2, rjoin_ok (Idn.idOf t) (Idn.idOf t') (evOf u) (evOf u') n p l c n' p' l' c' m q k d m' q' k' d' w (okI_of ht k1).1 (ok_of hu k2).1 (okI_of ht' k3).1 (ok_of hu' k4).1 (okI_of ht k1).2 (ok_of hu k2).2 (okI_of ht' k3).2 (ok_of hu' k4).2⟩⟩
/-- What Peek of a stamp of any form comes to. -/
def pkF (i : Nat) (u : Tr) : Facts.Fact := ([i], fun vs w => ∃ m q k d, vs = [SV 0 none 0 0 m q k d] ∧ Lies w u (TV m q k d))
theorem pkF_get {i : Nat} {u : Tr} {x : Nat → Value} {w : World} (h : Facts.holds (pkF i u) x w) : ∃ m q k d, x i = SV 0 none 0 0 m q k d ∧ Lies w u (TV m q k d) := by simpa [Facts.holds, pkF] using h
theorem pkF_put {i : Nat} {u : Tr} {x : Nat → Value} {w : World} {m : Int} {q : Option Addr} {k d : Nat} (h : Lies w u (TV m q k d)) : Facts.holds (pkF i u) (Facts.put x i (SV 0 none 0 0 m q k d)) w := ⟨m, q, k, d, by simp [pkF, Facts.put], h⟩
theorem pkF_stays (i : Nat) (u : Tr) : staysF (pkF i u) := fun _ _ _ ⟨m, q, k, d, e, h⟩ hb => ⟨m, q, k, d, e, h.later hb⟩
theorem Facts.call0V {Q : Exit → Act → World → Prop} {S : World → Prop} {md : Region.Mode} {A : (Nat → Value) → Act} {F : List Facts.Fact} {i : Nat} {o : Oper} (hS : Calm.Stays S) (hF : Facts.Stay F) (hA : ∀ x u, (A x).put o.dst u = A (Facts.put x i u)) {fn : FuncId} {ts : Array TypeId} (ho : o.op = .call { callee := .value (.func fn), args := #[], argTypes := ts }) (hf : Calm.enters Try.prog fn = true) {v : Value} (hz : F[i]? = some (eqF i v))
    (h : ∀ x w, S w → (∀ e ∈ o.after, Region.binds md e = true → ∀ f, F[e.on]? = some f → Facts.holds f x w) → Calls Try.prog fn #[] w fun e w' => e = .returned v ∧ Below w.heap.size w w') : Facts.StepOk Try.prog md Q S A F i o :=
  Facts.call (f := fn) hS hF hA fun x w hSw hdep => ⟨#[], by
    have e : ∀ args, (callFunc fn args).run Try.prog w = .ok (.enter fn args) w := fun args => Calm.enters_run hf args w
    unfold execOp
    simp [ho, go_sem, Act.eval, e], (h x w hSw hdep).mono fun e w' ⟨he, hb⟩ => ⟨_, he, hb, fun f hf' => by
      rw [hz] at hf'
      obtain rfl := Option.some.inj hf'
      simp [Facts.holds, eqF, Facts.put]⟩⟩
theorem same_peek {u : Tr} {m : Int} {q : Option Addr} {k d : Nat} {m' : Int} {q' : Option Addr} {k' d' : Nat} {w : World} (h : Lies w u (TV m q k d)) (h' : Lies w u (TV m' q' k' d')) : Calls Try.prog 21 #[SV 0 none 0 0 m q k d, SV 0 none 0 0 m' q' k' d'] w (Tells (.bool true) w) := by
  have := rSame_any true true 0 none 0 0 m q k d 0 none 0 0 m' q' k' d' w (fun w1 hb => by
    have := Idn.same_any zI zI 0 none 0 0 0 none 0 0 w1 (zI_is _) (zI_is _)
    rwa [Idn.eqb_refl] at this) (fun w1 hb => same_tr u m q k d m' q' k' d' w1 (h.later hb) (h'.later hb))
  simpa using this
theorem same_seed (w : World) : Calls Try.prog 21 #[SV 1 none 0 0 0 none 0 0, SV 1 none 0 0 0 none 0 0] w (Tells (.bool true) w) := rSame_is (Idn.is_leaf _ true _ _) (is_leaf _ 0 _ _) (Idn.is_leaf _ true _ _) (is_leaf _ 0 _ _)

set_option maxHeartbeats 16000000 in
set_option maxRecDepth 100000 in
theorem tells_any (Xa Ya Xb Yb : Tr) (na : Int) (pa : Option Addr) (la ca : Nat) (ma : Int) (qa : Option Addr) (ka da : Nat) (nb : Int) (pb : Option Addr) (lb cb : Nat) (mb : Int) (qb : Option Addr) (kb db : Nat) (w : World) (ta : Lies w Xa (TV na pa la ca)) (ua : Lies w Ya (TV ma qa ka da)) (tb : Lies w Xb (TV nb pb lb cb)) (ub : Lies w Yb (TV mb qb kb db)) :
    Calls Try.prog 4 #[SV na pa la ca ma qa ka da, SV nb pb lb cb mb qb kb db] w (Tells (.bool true) w) := by
  obtain ⟨ba, bb, hbel⟩ := two_r w 26 #[.int .i64 na, .slice pa la ca, .int .i64 ma, .slice qa ka da] 26 #[.int .i64 nb, .slice pb lb cb, .int .i64 mb, .slice qb kb db] _ rfl
  replace ta := ta.later hbel
  replace ua := ua.later hbel
  replace tb := tb.later hbel
  replace ub := ub.later hbel
  obtain ⟨FA, FX, FB, FY, FE, rF⟩ := both_fork Xa Ya
  obtain ⟨JA, JX, JE, rJ0⟩ := both_join Xa Ya Xb Yb
  obtain ⟨EA, EX, EE, rE⟩ := both_event Xa Ya
  have H1 : Hid (∀ (w : World), Lies w Xa (TV na pa la ca) → Lies w Ya (TV ma qa ka da) → Calls Try.prog 15 #[SV na pa la ca ma qa ka da] w (GivesSSE FA FX FB FY FE w)) := fun w h h' => (rF _ _ _ _ _ _ _ _ w h h').1
  have H2 : Hid (∀ (w : World), Lies w Xa (TV na pa la ca) → Lies w Ya (TV ma qa ka da) → Calls Try.prog 16 #[SV na pa la ca ma qa ka da] w (GivesSSE FA FX FB FY FE w)) := fun w h h' => (rF _ _ _ _ _ _ _ _ w h h').2
  have H3 : Hid (∀ (w : World), Lies w Xa (TV na pa la ca) → Lies w Ya (TV ma qa ka da) → Lies w Xb (TV nb pb lb cb) → Lies w Yb (TV mb qb kb db) → Calls Try.prog 11 #[SV na pa la ca ma qa ka da, SV nb pb lb cb mb qb kb db] w (GivesSE JA JX JE w)) := fun w h h' g g' => (rJ0 _ _ _ _ _ _ _ _ _ _ _ _ _ _ _ _ w h h' g g').1
  have H4 : Hid (∀ (w : World), Lies w Xa (TV na pa la ca) → Lies w Ya (TV ma qa ka da) → Lies w Xb (TV nb pb lb cb) → Lies w Yb (TV mb qb kb db) → Calls Try.prog 17 #[SV na pa la ca ma qa ka da, SV nb pb lb cb mb qb kb db] w (GivesSE JA JX JE w)) := fun w h h' g g' => (rJ0 _ _ _ _ _ _ _ _ _ _ _ _ _ _ _ _ w h h' g g').2
  have H5 : Hid (∀ (w : World), Lies w Xa (TV na pa la ca) → Lies w Ya (TV ma qa ka da) → Calls Try.prog 18 #[SV na pa la ca ma qa ka da] w (GivesSE EA EX EE w)) := fun w h h' => (rE _ _ _ _ _ _ _ _ w h h').1
  have H6 : Hid (∀ (w : World), Lies w Xa (TV na pa la ca) → Lies w Ya (TV ma qa ka da) → Calls Try.prog 19 #[SV na pa la ca ma qa ka da] w (GivesSE EA EX EE w)) := fun w h h' => (rE _ _ _ _ _ _ _ _ w h h').2
  clear rF rJ0 rE
  go_enter Try.func4, Try.ntmps4
  go_wp2_with (first | refine load_s _ rfl rfl _ rfl ba ?_ | refine load_s _ rfl rfl _ rfl bb ?_ | refine load_t _ rfl rfl _ _ rfl (Sx.tat0 ba) ?_ | refine load_t _ rfl rfl _ _ rfl (Sx.tat0 bb) ?_ | refine load_t _ rfl rfl _ _ rfl (Sx.tat1 ba) ?_ | refine load_t _ rfl rfl _ _ rfl (Sx.tat1 bb) ?_)
  refine (few_s Xa Ya na pa la ca ma qa ka da _ ta ua).mono ?_
  rintro e w1 ⟨fw, rfl, hsz, hb1⟩
  have HFa : Hid (fw = true → sz Xa ≤ 120 ∧ sz Ya ≤ 120) := hsz
  clear hsz
  replace ta := ta.later hb1
  replace tb := tb.later hb1
  replace ua := ua.later hb1
  replace ub := ub.later hb1
  replace ba := Rw.later ba hb1
  replace bb := Rw.later bb hb1
  replace hbel := below_on hbel hb1
  clear hb1
  cases fw
  case' false =>
    clear ta tb ua ub ba bb
    go_wp2_with fail
    refine (heads_any _).mono ?_
    rintro e w9 ⟨rfl, hb1⟩
    go_wp2
    go_ret
    exact ⟨rfl, below_on hbel hb1⟩
  go_wp2_with (first | refine load_s _ rfl rfl _ rfl ba ?_ | refine load_s _ rfl rfl _ rfl bb ?_ | refine load_t _ rfl rfl _ _ rfl (Sx.tat0 ba) ?_ | refine load_t _ rfl rfl _ _ rfl (Sx.tat0 bb) ?_ | refine load_t _ rfl rfl _ _ rfl (Sx.tat1 ba) ?_ | refine load_t _ rfl rfl _ _ rfl (Sx.tat1 bb) ?_)
  refine (few_s Xb Yb nb pb lb cb mb qb kb db _ tb ub).mono ?_
  rintro e w2 ⟨fw, rfl, hsz, hb1⟩
  have HFb : Hid (fw = true → sz Xb ≤ 120 ∧ sz Yb ≤ 120) := hsz
  clear hsz
  replace ta := ta.later hb1
  replace tb := tb.later hb1
  replace ua := ua.later hb1
  replace ub := ub.later hb1
  replace ba := Rw.later ba hb1
  replace bb := Rw.later bb hb1
  replace hbel := below_on hbel hb1
  clear hb1
  cases fw
  case' false =>
    clear ta tb ua ub ba bb
    go_wp2_with fail
    refine (heads_any _).mono ?_
    rintro e w9 ⟨rfl, hb1⟩
    go_wp2
    go_ret
    exact ⟨rfl, below_on hbel hb1⟩
  have HZ : Hid (sz Ya ≤ 120) := (HFa.out (by first | rfl | trivial)).2
  clear HFa HFb
  go_wp2_with (first | refine load_s _ rfl rfl _ rfl ba ?_ | refine load_s _ rfl rfl _ rfl bb ?_ | refine load_t _ rfl rfl _ _ rfl (Sx.tat0 ba) ?_ | refine load_t _ rfl rfl _ _ rfl (Sx.tat0 bb) ?_ | refine load_t _ rfl rfl _ _ rfl (Sx.tat1 ba) ?_ | refine load_t _ rfl rfl _ _ rfl (Sx.tat1 bb) ?_)
  refine (H1.out _ ta ua).mono ?_
  rintro e w3 ⟨nP, pP, lP, cP, mP, qP, kP, dP, nQ, pQ, lQ, cQ, mQ, qQ, kQ, dQ, rfl, iP, jP, iQ, jQ, hb1⟩
  replace ta := ta.later hb1
  replace tb := tb.later hb1
  replace ua := ua.later hb1
  replace ub := ub.later hb1
  replace ba := Rw.later ba hb1
  replace bb := Rw.later bb hb1
  replace hbel := below_on hbel hb1
  clear hb1
  have zP := s_two0 w3
  have zQ := s_two1 w3 #[.int .i64 nP, .slice pP lP cP, .int .i64 mP, .slice qP kP dP]
  obtain ⟨bP, bQ, hb1⟩ := s_two w3 nP pP lP cP mP qP kP dP nQ pQ lQ cQ mQ qQ kQ dQ _ rfl
  generalize hwP : (((w3.alloc (.cells #[.int .i64 0, .slice none 0 0, .int .i64 0, .slice none 0 0] 26)).alloc (.cells #[.int .i64 0, .slice none 0 0, .int .i64 0, .slice none 0 0] 26)).setRow w3.heap.size #[.int .i64 nP, .slice pP lP cP, .int .i64 mP, .slice qP kP dP]).setRow (w3.heap.size + 1) #[.int .i64 nQ, .slice pQ lQ cQ, .int .i64 mQ, .slice qQ kQ dQ] = vP at bP bQ hb1
  replace ta := ta.later hb1
  replace tb := tb.later hb1
  replace ua := ua.later hb1
  replace ub := ub.later hb1
  replace iP := iP.later hb1
  replace jP := jP.later hb1
  replace iQ := iQ.later hb1
  replace jQ := jQ.later hb1
  replace ba := Rw.later ba hb1
  replace bb := Rw.later bb hb1
  replace hbel := below_on hbel hb1
  clear hb1
  go_wp2_with (first | rw [hwP] | refine store_s rfl _ _ rfl _ nP pP lP cP mP qP kP dP rfl rfl zP ?_ | refine store_s rfl _ _ rfl _ nQ pQ lQ cQ mQ qQ kQ dQ rfl rfl zQ ?_ | refine load_s _ rfl rfl _ rfl ba ?_ | refine load_s _ rfl rfl _ rfl bb ?_ | refine load_s _ rfl rfl _ rfl bP ?_ | refine load_s _ rfl rfl _ rfl bQ ?_ | refine load_t _ rfl rfl _ _ rfl (Sx.tat0 ba) ?_ | refine load_t _ rfl rfl _ _ rfl (Sx.tat0 bb) ?_ | refine load_t _ rfl rfl _ _ rfl (Sx.tat0 bP) ?_ | refine load_t _ rfl rfl _ _ rfl (Sx.tat0 bQ) ?_ | refine load_t _ rfl rfl _ _ rfl (Sx.tat1 ba) ?_ | refine load_t _ rfl rfl _ _ rfl (Sx.tat1 bb) ?_ | refine load_t _ rfl rfl _ _ rfl (Sx.tat1 bP) ?_ | refine load_t _ rfl rfl _ _ rfl (Sx.tat1 bQ) ?_)
  clear zP zQ hwP
  generalize w3.heap.size = rP at bP bQ ⊢
  refine (H2.out _ ta ua).mono ?_
  rintro e w4 ⟨nR, pR, lR, cR, mR, qR, kR, dR, nS, pS, lS, cS, mS, qS, kS, dS, rfl, iR, jR, iS, jS, hb1⟩
  replace ta := ta.later hb1
  replace tb := tb.later hb1
  replace ua := ua.later hb1
  replace ub := ub.later hb1
  replace iP := iP.later hb1
  replace jP := jP.later hb1
  replace iQ := iQ.later hb1
  replace jQ := jQ.later hb1
  replace ba := Rw.later ba hb1
  replace bb := Rw.later bb hb1
  replace bP := Rw.later bP hb1
  replace bQ := Rw.later bQ hb1
  replace hbel := below_on hbel hb1
  clear hb1
  have zR := s_two0 w4
  have zS := s_two1 w4 #[.int .i64 nR, .slice pR lR cR, .int .i64 mR, .slice qR kR dR]
  obtain ⟨bR, bS, hb1⟩ := s_two w4 nR pR lR cR mR qR kR dR nS pS lS cS mS qS kS dS _ rfl
  generalize hwR : (((w4.alloc (.cells #[.int .i64 0, .slice none 0 0, .int .i64 0, .slice none 0 0] 26)).alloc (.cells #[.int .i64 0, .slice none 0 0, .int .i64 0, .slice none 0 0] 26)).setRow w4.heap.size #[.int .i64 nR, .slice pR lR cR, .int .i64 mR, .slice qR kR dR]).setRow (w4.heap.size + 1) #[.int .i64 nS, .slice pS lS cS, .int .i64 mS, .slice qS kS dS] = vR at bR bS hb1
  replace ta := ta.later hb1
  replace tb := tb.later hb1
  replace ua := ua.later hb1
  replace ub := ub.later hb1
  replace iP := iP.later hb1
  replace jP := jP.later hb1
  replace iQ := iQ.later hb1
  replace jQ := jQ.later hb1
  replace iR := iR.later hb1
  replace jR := jR.later hb1
  replace iS := iS.later hb1
  replace jS := jS.later hb1
  replace ba := Rw.later ba hb1
  replace bb := Rw.later bb hb1
  replace bP := Rw.later bP hb1
  replace bQ := Rw.later bQ hb1
  replace hbel := below_on hbel hb1
  clear hb1
  go_wp2_with (first | rw [hwR] | refine store_s rfl _ _ rfl _ nR pR lR cR mR qR kR dR rfl rfl zR ?_ | refine store_s rfl _ _ rfl _ nS pS lS cS mS qS kS dS rfl rfl zS ?_ | refine load_s _ rfl rfl _ rfl ba ?_ | refine load_s _ rfl rfl _ rfl bb ?_ | refine load_s _ rfl rfl _ rfl bP ?_ | refine load_s _ rfl rfl _ rfl bQ ?_ | refine load_s _ rfl rfl _ rfl bR ?_ | refine load_s _ rfl rfl _ rfl bS ?_ | refine load_t _ rfl rfl _ _ rfl (Sx.tat0 ba) ?_ | refine load_t _ rfl rfl _ _ rfl (Sx.tat0 bb) ?_ | refine load_t _ rfl rfl _ _ rfl (Sx.tat0 bP) ?_ | refine load_t _ rfl rfl _ _ rfl (Sx.tat0 bQ) ?_ | refine load_t _ rfl rfl _ _ rfl (Sx.tat0 bR) ?_ | refine load_t _ rfl rfl _ _ rfl (Sx.tat0 bS) ?_ | refine load_t _ rfl rfl _ _ rfl (Sx.tat1 ba) ?_ | refine load_t _ rfl rfl _ _ rfl (Sx.tat1 bb) ?_ | refine load_t _ rfl rfl _ _ rfl (Sx.tat1 bP) ?_ | refine load_t _ rfl rfl _ _ rfl (Sx.tat1 bQ) ?_ | refine load_t _ rfl rfl _ _ rfl (Sx.tat1 bR) ?_ | refine load_t _ rfl rfl _ _ rfl (Sx.tat1 bS) ?_)
  clear zR zS hwR
  generalize w4.heap.size = rR at bR bS ⊢
  refine (H3.out _ ta ua tb ub).mono ?_
  rintro e w5 ⟨nJ, pJ, lJ, cJ, mJ, qJ, kJ, dJ, rfl, iJ, jJ, hb1⟩
  replace ta := ta.later hb1
  replace tb := tb.later hb1
  replace ua := ua.later hb1
  replace ub := ub.later hb1
  replace iP := iP.later hb1
  replace jP := jP.later hb1
  replace iQ := iQ.later hb1
  replace jQ := jQ.later hb1
  replace iR := iR.later hb1
  replace jR := jR.later hb1
  replace iS := iS.later hb1
  replace jS := jS.later hb1
  replace ba := Rw.later ba hb1
  replace bb := Rw.later bb hb1
  replace bP := Rw.later bP hb1
  replace bQ := Rw.later bQ hb1
  replace bR := Rw.later bR hb1
  replace bS := Rw.later bS hb1
  replace hbel := below_on hbel hb1
  clear hb1
  have zJ := rw_new w5 26 #[.int .i64 0, .slice none 0 0, .int .i64 0, .slice none 0 0]
  obtain ⟨bJ, hb1⟩ := s_new w5 nJ pJ lJ cJ mJ qJ kJ dJ _ rfl
  generalize hwJ : (w5.alloc (.cells #[.int .i64 0, .slice none 0 0, .int .i64 0, .slice none 0 0] 26)).setRow w5.heap.size #[.int .i64 nJ, .slice pJ lJ cJ, .int .i64 mJ, .slice qJ kJ dJ] = vJ at bJ hb1
  replace ta := ta.later hb1
  replace tb := tb.later hb1
  replace ua := ua.later hb1
  replace ub := ub.later hb1
  replace iP := iP.later hb1
  replace jP := jP.later hb1
  replace iQ := iQ.later hb1
  replace jQ := jQ.later hb1
  replace iR := iR.later hb1
  replace jR := jR.later hb1
  replace iS := iS.later hb1
  replace jS := jS.later hb1
  replace iJ := iJ.later hb1
  replace jJ := jJ.later hb1
  replace ba := Rw.later ba hb1
  replace bb := Rw.later bb hb1
  replace bP := Rw.later bP hb1
  replace bQ := Rw.later bQ hb1
  replace bR := Rw.later bR hb1
  replace bS := Rw.later bS hb1
  replace hbel := below_on hbel hb1
  clear hb1
  go_wp2_with (first | rw [hwJ] | refine store_s rfl _ _ rfl _ nJ pJ lJ cJ mJ qJ kJ dJ rfl rfl zJ ?_ | refine load_s _ rfl rfl _ rfl ba ?_ | refine load_s _ rfl rfl _ rfl bb ?_ | refine load_s _ rfl rfl _ rfl bP ?_ | refine load_s _ rfl rfl _ rfl bQ ?_ | refine load_s _ rfl rfl _ rfl bR ?_ | refine load_s _ rfl rfl _ rfl bS ?_ | refine load_s _ rfl rfl _ rfl bJ ?_ | refine load_t _ rfl rfl _ _ rfl (Sx.tat0 ba) ?_ | refine load_t _ rfl rfl _ _ rfl (Sx.tat0 bb) ?_ | refine load_t _ rfl rfl _ _ rfl (Sx.tat0 bP) ?_ | refine load_t _ rfl rfl _ _ rfl (Sx.tat0 bQ) ?_ | refine load_t _ rfl rfl _ _ rfl (Sx.tat0 bR) ?_ | refine load_t _ rfl rfl _ _ rfl (Sx.tat0 bS) ?_ | refine load_t _ rfl rfl _ _ rfl (Sx.tat0 bJ) ?_ | refine load_t _ rfl rfl _ _ rfl (Sx.tat1 ba) ?_ | refine load_t _ rfl rfl _ _ rfl (Sx.tat1 bb) ?_ | refine load_t _ rfl rfl _ _ rfl (Sx.tat1 bP) ?_ | refine load_t _ rfl rfl _ _ rfl (Sx.tat1 bQ) ?_ | refine load_t _ rfl rfl _ _ rfl (Sx.tat1 bR) ?_ | refine load_t _ rfl rfl _ _ rfl (Sx.tat1 bS) ?_ | refine load_t _ rfl rfl _ _ rfl (Sx.tat1 bJ) ?_)
  clear zJ hwJ
  generalize w5.heap.size = rJ at bJ ⊢
  refine (H4.out _ ta ua tb ub).mono ?_
  rintro e w6 ⟨nK, pK, lK, cK, mK, qK, kK, dK, rfl, iK, jK, hb1⟩
  replace ta := ta.later hb1
  replace tb := tb.later hb1
  replace ua := ua.later hb1
  replace ub := ub.later hb1
  replace iP := iP.later hb1
  replace jP := jP.later hb1
  replace iQ := iQ.later hb1
  replace jQ := jQ.later hb1
  replace iR := iR.later hb1
  replace jR := jR.later hb1
  replace iS := iS.later hb1
  replace jS := jS.later hb1
  replace iJ := iJ.later hb1
  replace jJ := jJ.later hb1
  replace ba := Rw.later ba hb1
  replace bb := Rw.later bb hb1
  replace bP := Rw.later bP hb1
  replace bQ := Rw.later bQ hb1
  replace bR := Rw.later bR hb1
  replace bS := Rw.later bS hb1
  replace bJ := Rw.later bJ hb1
  replace hbel := below_on hbel hb1
  clear hb1
  have zK := rw_new w6 26 #[.int .i64 0, .slice none 0 0, .int .i64 0, .slice none 0 0]
  obtain ⟨bK, hb1⟩ := s_new w6 nK pK lK cK mK qK kK dK _ rfl
  generalize hwK : (w6.alloc (.cells #[.int .i64 0, .slice none 0 0, .int .i64 0, .slice none 0 0] 26)).setRow w6.heap.size #[.int .i64 nK, .slice pK lK cK, .int .i64 mK, .slice qK kK dK] = vK at bK hb1
  replace ta := ta.later hb1
  replace tb := tb.later hb1
  replace ua := ua.later hb1
  replace ub := ub.later hb1
  replace iP := iP.later hb1
  replace jP := jP.later hb1
  replace iQ := iQ.later hb1
  replace jQ := jQ.later hb1
  replace iR := iR.later hb1
  replace jR := jR.later hb1
  replace iS := iS.later hb1
  replace jS := jS.later hb1
  replace iJ := iJ.later hb1
  replace jJ := jJ.later hb1
  replace iK := iK.later hb1
  replace jK := jK.later hb1
  replace ba := Rw.later ba hb1
  replace bb := Rw.later bb hb1
  replace bP := Rw.later bP hb1
  replace bQ := Rw.later bQ hb1
  replace bR := Rw.later bR hb1
  replace bS := Rw.later bS hb1
  replace bJ := Rw.later bJ hb1
  replace hbel := below_on hbel hb1
  clear hb1
  go_wp2_with (first | rw [hwK] | refine store_s rfl _ _ rfl _ nK pK lK cK mK qK kK dK rfl rfl zK ?_ | refine load_s _ rfl rfl _ rfl ba ?_ | refine load_s _ rfl rfl _ rfl bb ?_ | refine load_s _ rfl rfl _ rfl bP ?_ | refine load_s _ rfl rfl _ rfl bQ ?_ | refine load_s _ rfl rfl _ rfl bR ?_ | refine load_s _ rfl rfl _ rfl bS ?_ | refine load_s _ rfl rfl _ rfl bJ ?_ | refine load_s _ rfl rfl _ rfl bK ?_ | refine load_t _ rfl rfl _ _ rfl (Sx.tat0 ba) ?_ | refine load_t _ rfl rfl _ _ rfl (Sx.tat0 bb) ?_ | refine load_t _ rfl rfl _ _ rfl (Sx.tat0 bP) ?_ | refine load_t _ rfl rfl _ _ rfl (Sx.tat0 bQ) ?_ | refine load_t _ rfl rfl _ _ rfl (Sx.tat0 bR) ?_ | refine load_t _ rfl rfl _ _ rfl (Sx.tat0 bS) ?_ | refine load_t _ rfl rfl _ _ rfl (Sx.tat0 bJ) ?_ | refine load_t _ rfl rfl _ _ rfl (Sx.tat0 bK) ?_ | refine load_t _ rfl rfl _ _ rfl (Sx.tat1 ba) ?_ | refine load_t _ rfl rfl _ _ rfl (Sx.tat1 bb) ?_ | refine load_t _ rfl rfl _ _ rfl (Sx.tat1 bP) ?_ | refine load_t _ rfl rfl _ _ rfl (Sx.tat1 bQ) ?_ | refine load_t _ rfl rfl _ _ rfl (Sx.tat1 bR) ?_ | refine load_t _ rfl rfl _ _ rfl (Sx.tat1 bS) ?_ | refine load_t _ rfl rfl _ _ rfl (Sx.tat1 bJ) ?_ | refine load_t _ rfl rfl _ _ rfl (Sx.tat1 bK) ?_)
  clear zK hwK
  generalize w6.heap.size = rK at bK ⊢
  refine (H5.out _ ta ua).mono ?_
  rintro e w7 ⟨nX, pX, lX, cX, mX, qX, kX, dX, rfl, iX, jX, hb1⟩
  replace ta := ta.later hb1
  replace tb := tb.later hb1
  replace ua := ua.later hb1
  replace ub := ub.later hb1
  replace iP := iP.later hb1
  replace jP := jP.later hb1
  replace iQ := iQ.later hb1
  replace jQ := jQ.later hb1
  replace iR := iR.later hb1
  replace jR := jR.later hb1
  replace iS := iS.later hb1
  replace jS := jS.later hb1
  replace iJ := iJ.later hb1
  replace jJ := jJ.later hb1
  replace iK := iK.later hb1
  replace jK := jK.later hb1
  replace ba := Rw.later ba hb1
  replace bb := Rw.later bb hb1
  replace bP := Rw.later bP hb1
  replace bQ := Rw.later bQ hb1
  replace bR := Rw.later bR hb1
  replace bS := Rw.later bS hb1
  replace bJ := Rw.later bJ hb1
  replace bK := Rw.later bK hb1
  replace hbel := below_on hbel hb1
  clear hb1
  have zX := rw_new w7 26 #[.int .i64 0, .slice none 0 0, .int .i64 0, .slice none 0 0]
  obtain ⟨bX, hb1⟩ := s_new w7 nX pX lX cX mX qX kX dX _ rfl
  generalize hwX : (w7.alloc (.cells #[.int .i64 0, .slice none 0 0, .int .i64 0, .slice none 0 0] 26)).setRow w7.heap.size #[.int .i64 nX, .slice pX lX cX, .int .i64 mX, .slice qX kX dX] = vX at bX hb1
  replace ta := ta.later hb1
  replace tb := tb.later hb1
  replace ua := ua.later hb1
  replace ub := ub.later hb1
  replace iP := iP.later hb1
  replace jP := jP.later hb1
  replace iQ := iQ.later hb1
  replace jQ := jQ.later hb1
  replace iR := iR.later hb1
  replace jR := jR.later hb1
  replace iS := iS.later hb1
  replace jS := jS.later hb1
  replace iJ := iJ.later hb1
  replace jJ := jJ.later hb1
  replace iK := iK.later hb1
  replace jK := jK.later hb1
  replace iX := iX.later hb1
  replace jX := jX.later hb1
  replace ba := Rw.later ba hb1
  replace bb := Rw.later bb hb1
  replace bP := Rw.later bP hb1
  replace bQ := Rw.later bQ hb1
  replace bR := Rw.later bR hb1
  replace bS := Rw.later bS hb1
  replace bJ := Rw.later bJ hb1
  replace bK := Rw.later bK hb1
  replace hbel := below_on hbel hb1
  clear hb1
  go_wp2_with (first | rw [hwX] | refine store_s rfl _ _ rfl _ nX pX lX cX mX qX kX dX rfl rfl zX ?_ | refine load_s _ rfl rfl _ rfl ba ?_ | refine load_s _ rfl rfl _ rfl bb ?_ | refine load_s _ rfl rfl _ rfl bP ?_ | refine load_s _ rfl rfl _ rfl bQ ?_ | refine load_s _ rfl rfl _ rfl bR ?_ | refine load_s _ rfl rfl _ rfl bS ?_ | refine load_s _ rfl rfl _ rfl bJ ?_ | refine load_s _ rfl rfl _ rfl bK ?_ | refine load_s _ rfl rfl _ rfl bX ?_ | refine load_t _ rfl rfl _ _ rfl (Sx.tat0 ba) ?_ | refine load_t _ rfl rfl _ _ rfl (Sx.tat0 bb) ?_ | refine load_t _ rfl rfl _ _ rfl (Sx.tat0 bP) ?_ | refine load_t _ rfl rfl _ _ rfl (Sx.tat0 bQ) ?_ | refine load_t _ rfl rfl _ _ rfl (Sx.tat0 bR) ?_ | refine load_t _ rfl rfl _ _ rfl (Sx.tat0 bS) ?_ | refine load_t _ rfl rfl _ _ rfl (Sx.tat0 bJ) ?_ | refine load_t _ rfl rfl _ _ rfl (Sx.tat0 bK) ?_ | refine load_t _ rfl rfl _ _ rfl (Sx.tat0 bX) ?_ | refine load_t _ rfl rfl _ _ rfl (Sx.tat1 ba) ?_ | refine load_t _ rfl rfl _ _ rfl (Sx.tat1 bb) ?_ | refine load_t _ rfl rfl _ _ rfl (Sx.tat1 bP) ?_ | refine load_t _ rfl rfl _ _ rfl (Sx.tat1 bQ) ?_ | refine load_t _ rfl rfl _ _ rfl (Sx.tat1 bR) ?_ | refine load_t _ rfl rfl _ _ rfl (Sx.tat1 bS) ?_ | refine load_t _ rfl rfl _ _ rfl (Sx.tat1 bJ) ?_ | refine load_t _ rfl rfl _ _ rfl (Sx.tat1 bK) ?_ | refine load_t _ rfl rfl _ _ rfl (Sx.tat1 bX) ?_)
  clear zX hwX
  generalize w7.heap.size = rX at bX ⊢
  refine (H6.out _ ta ua).mono ?_
  rintro e w8 ⟨nY, pY, lY, cY, mY, qY, kY, dY, rfl, iY, jY, hb1⟩
  replace ta := ta.later hb1
  replace tb := tb.later hb1
  replace ua := ua.later hb1
  replace ub := ub.later hb1
  replace iP := iP.later hb1
  replace jP := jP.later hb1
  replace iQ := iQ.later hb1
  replace jQ := jQ.later hb1
  replace iR := iR.later hb1
  replace jR := jR.later hb1
  replace iS := iS.later hb1
  replace jS := jS.later hb1
  replace iJ := iJ.later hb1
  replace jJ := jJ.later hb1
  replace iK := iK.later hb1
  replace jK := jK.later hb1
  replace iX := iX.later hb1
  replace jX := jX.later hb1
  replace ba := Rw.later ba hb1
  replace bb := Rw.later bb hb1
  replace bP := Rw.later bP hb1
  replace bQ := Rw.later bQ hb1
  replace bR := Rw.later bR hb1
  replace bS := Rw.later bS hb1
  replace bJ := Rw.later bJ hb1
  replace bK := Rw.later bK hb1
  replace bX := Rw.later bX hb1
  replace hbel := below_on hbel hb1
  clear hb1
  have zY := rw_new w8 26 #[.int .i64 0, .slice none 0 0, .int .i64 0, .slice none 0 0]
  obtain ⟨bY, hb1⟩ := s_new w8 nY pY lY cY mY qY kY dY _ rfl
  generalize hwY : (w8.alloc (.cells #[.int .i64 0, .slice none 0 0, .int .i64 0, .slice none 0 0] 26)).setRow w8.heap.size #[.int .i64 nY, .slice pY lY cY, .int .i64 mY, .slice qY kY dY] = vY at bY hb1
  replace ta := ta.later hb1
  replace tb := tb.later hb1
  replace ua := ua.later hb1
  replace ub := ub.later hb1
  replace iP := iP.later hb1
  replace jP := jP.later hb1
  replace iQ := iQ.later hb1
  replace jQ := jQ.later hb1
  replace iR := iR.later hb1
  replace jR := jR.later hb1
  replace iS := iS.later hb1
  replace jS := jS.later hb1
  replace iJ := iJ.later hb1
  replace jJ := jJ.later hb1
  replace iK := iK.later hb1
  replace jK := jK.later hb1
  replace iX := iX.later hb1
  replace jX := jX.later hb1
  replace iY := iY.later hb1
  replace jY := jY.later hb1
  replace ba := Rw.later ba hb1
  replace bb := Rw.later bb hb1
  replace bP := Rw.later bP hb1
  replace bQ := Rw.later bQ hb1
  replace bR := Rw.later bR hb1
  replace bS := Rw.later bS hb1
  replace bJ := Rw.later bJ hb1
  replace bK := Rw.later bK hb1
  replace bX := Rw.later bX hb1
  replace hbel := below_on hbel hb1
  clear hb1
  go_wp2_with (first | rw [hwY] | refine store_s rfl _ _ rfl _ nY pY lY cY mY qY kY dY rfl rfl zY ?_ | refine load_s _ rfl rfl _ rfl ba ?_ | refine load_s _ rfl rfl _ rfl bb ?_ | refine load_s _ rfl rfl _ rfl bP ?_ | refine load_s _ rfl rfl _ rfl bQ ?_ | refine load_s _ rfl rfl _ rfl bR ?_ | refine load_s _ rfl rfl _ rfl bS ?_ | refine load_s _ rfl rfl _ rfl bJ ?_ | refine load_s _ rfl rfl _ rfl bK ?_ | refine load_s _ rfl rfl _ rfl bX ?_ | refine load_s _ rfl rfl _ rfl bY ?_ | refine load_t _ rfl rfl _ _ rfl (Sx.tat0 ba) ?_ | refine load_t _ rfl rfl _ _ rfl (Sx.tat0 bb) ?_ | refine load_t _ rfl rfl _ _ rfl (Sx.tat0 bP) ?_ | refine load_t _ rfl rfl _ _ rfl (Sx.tat0 bQ) ?_ | refine load_t _ rfl rfl _ _ rfl (Sx.tat0 bR) ?_ | refine load_t _ rfl rfl _ _ rfl (Sx.tat0 bS) ?_ | refine load_t _ rfl rfl _ _ rfl (Sx.tat0 bJ) ?_ | refine load_t _ rfl rfl _ _ rfl (Sx.tat0 bK) ?_ | refine load_t _ rfl rfl _ _ rfl (Sx.tat0 bX) ?_ | refine load_t _ rfl rfl _ _ rfl (Sx.tat0 bY) ?_ | refine load_t _ rfl rfl _ _ rfl (Sx.tat1 ba) ?_ | refine load_t _ rfl rfl _ _ rfl (Sx.tat1 bb) ?_ | refine load_t _ rfl rfl _ _ rfl (Sx.tat1 bP) ?_ | refine load_t _ rfl rfl _ _ rfl (Sx.tat1 bQ) ?_ | refine load_t _ rfl rfl _ _ rfl (Sx.tat1 bR) ?_ | refine load_t _ rfl rfl _ _ rfl (Sx.tat1 bS) ?_ | refine load_t _ rfl rfl _ _ rfl (Sx.tat1 bJ) ?_ | refine load_t _ rfl rfl _ _ rfl (Sx.tat1 bK) ?_ | refine load_t _ rfl rfl _ _ rfl (Sx.tat1 bX) ?_ | refine load_t _ rfl rfl _ _ rfl (Sx.tat1 bY) ?_)
  clear zY hwY
  generalize w8.heap.size = rY at bY ⊢
  clear H1 H2 H3 H4 H5 H6
  have sPR := fun w1 (hb : Below vY.heap.size vY w1) => rSame_is (iP.later hb) (jP.later hb) (iR.later hb) (jR.later hb)
  have sQS := fun w1 (hb : Below vY.heap.size vY w1) => rSame_is (iQ.later hb) (jQ.later hb) (iS.later hb) (jS.later hb)
  have sJK := fun w1 (hb : Below vY.heap.size vY w1) => rSame_is (iJ.later hb) (jJ.later hb) (iK.later hb) (jK.later hb)
  have sXY := fun w1 (hb : Below vY.heap.size vY w1) => rSame_is (iX.later hb) (jX.later hb) (iY.later hb) (jY.later hb)
  have cA1 := fun w1 (hb : Below vY.heap.size vY w1) => sCheck_tr Xa Ya na pa la ca ma qa ka da w1 (ta.later hb) (ua.later hb)
  have cA2 := fun w1 (hb : Below vY.heap.size vY w1) => check_s Xa Ya na pa la ca ma qa ka da w1 (ta.later hb) (ua.later hb)
  have cL1 := fun w1 (hb : Below vY.heap.size vY w1) => sLeq_tr Xa Ya Xb Yb na pa la ca ma qa ka da nb pb lb cb mb qb kb db w1 (ta.later hb) (ua.later hb) (tb.later hb) (ub.later hb)
  have cL2 := fun w1 (hb : Below vY.heap.size vY w1) => rLeq_tr Xa Ya Xb Yb na pa la ca ma qa ka da nb pb lb cb mb qb kb db w1 (ta.later hb) (ua.later hb) (tb.later hb) (ub.later hb)
  have cP1 := fun w1 (hb : Below vY.heap.size vY w1) => peek_tr Ya na pa la ca ma qa ka da w1 (ua.later hb) HZ.out
  generalize ((Idn.okT Xa && okT Ya) && ((Idn.okT Xb && okT Yb) && lqT Ya Yb)) = bL at cL1 cL2
  generalize (Idn.okT Xa && okT Ya) = bC at cA1 cA2
  have hbL : (bL == bL) = true := by simp
  have hbC : (bC == bC) = true := by simp
  clear ta tb ub iP jP iQ jQ iR jR iS jS iJ jJ iK jK iX jX iY jY HZ
  have hbase := Below.refl vY.heap.size vY
  have hS : Calm.Stays (fun w' => Below vY.heap.size vY w') := fun wa wb h hb => below_on h hb
  have hF : Facts.Stay [eqF 0 (SV na pa la ca ma qa ka da), eqF 1 (.bool bC), eqF 2 (SV na pa la ca ma qa ka da), eqF 3 (.bool bC), eqF 4 (.bool true), eqF 5 (.bool true), eqF 6 (SV nP pP lP cP mP qP kP dP), eqF 7 (SV nR pR lR cR mR qR kR dR), eqF 8 (.bool true), eqF 9 (.bool true), eqF 10 (.bool true), eqF 11 (SV nQ pQ lQ cQ mQ qQ kQ dQ), eqF 12 (SV nS pS lS cS mS qS kS dS), eqF 13 (.bool true), eqF 14 (.bool true), eqF 15 (.bool true), eqF 16 (.int .i64 FE), eqF 17 (.int .i64 FE), eqF 18 (.bool true), eqF 19 (.bool true), eqF 20 (.bool true), eqF 21 (SV nJ pJ lJ cJ mJ qJ kJ dJ), eqF 22 (SV nK pK lK cK mK qK kK dK), eqF 23 (.bool true), eqF 24 (.bool true), eqF 25 (.bool true), eqF 26 (.int .i64 JE), eqF 27 (.int .i64 JE), eqF 28 (.bool true), eqF 29 (.bool true), eqF 30 (.bool true), eqF 31 (SV nX pX lX cX mX qX kX dX), eqF 32 (SV nY pY lY cY mY qY kY dY), eqF 33 (.bool true), eqF 34 (.bool true), eqF 35 (.bool true), eqF 36 (.int .i64 EE), eqF 37 (.int .i64 EE), eqF 38 (.bool true), eqF 39 (.bool true), eqF 40 (.bool true), eqF 41 (SV na pa la ca ma qa ka da), pkF 42 Ya, eqF 43 (SV na pa la ca ma qa ka da), eqF 44 (SV 0 none 0 0 ma qa ka da), eqF 45 (.bool true), eqF 46 (.bool true), eqF 47 (.bool true), eqF 48 (SV na pa la ca ma qa ka da), eqF 49 (SV nb pb lb cb mb qb kb db), eqF 50 (.bool bL), eqF 51 (SV na pa la ca ma qa ka da), eqF 52 (SV nb pb lb cb mb qb kb db), eqF 53 (.bool bL), eqF 54 (.bool true), eqF 55 (.bool true), eqF 56 (.bool true), eqF 57 (SV 1 none 0 0 0 none 0 0), eqF 58 (SV 1 none 0 0 0 none 0 0), eqF 59 (.bool true), eqF 60 (.bool true), eqF 61 (.bool true), eqF 62 (.bool true), eqF 63 (.bool true), eqF 64 (.bool true)] := stay_of (by simp only [List.forall_mem_cons]; exact ⟨eqF_stays _ _, eqF_stays _ _, eqF_stays _ _, eqF_stays _ _, eqF_stays _ _, eqF_stays _ _, eqF_stays _ _, eqF_stays _ _, eqF_stays _ _, eqF_stays _ _, eqF_stays _ _, eqF_stays _ _, eqF_stays _ _, eqF_stays _ _, eqF_stays _ _, eqF_stays _ _, eqF_stays _ _, eqF_stays _ _, eqF_stays _ _, eqF_stays _ _, eqF_stays _ _, eqF_stays _ _, eqF_stays _ _, eqF_stays _ _, eqF_stays _ _, eqF_stays _ _, eqF_stays _ _, eqF_stays _ _, eqF_stays _ _, eqF_stays _ _, eqF_stays _ _, eqF_stays _ _, eqF_stays _ _, eqF_stays _ _, eqF_stays _ _, eqF_stays _ _, eqF_stays _ _, eqF_stays _ _, eqF_stays _ _, eqF_stays _ _, eqF_stays _ _, eqF_stays _ _, pkF_stays _ _, eqF_stays _ _, eqF_stays _ _, eqF_stays _ _, eqF_stays _ _, eqF_stays _ _, eqF_stays _ _, eqF_stays _ _, eqF_stays _ _, eqF_stays _ _, eqF_stays _ _, eqF_stays _ _, eqF_stays _ _, eqF_stays _ _, eqF_stays _ _, eqF_stays _ _, eqF_stays _ _, eqF_stays _ _, eqF_stays _ _, eqF_stays _ _, eqF_stays _ _, eqF_stays _ _, eqF_stays _ _, fun _ h => by cases h⟩)
  refine FactsG.region (by kernel_rfl) (by kernel_rfl) (fun w' => Below vY.heap.size vY w') (fun x => { tmps := #[SV na pa la ca ma qa ka da, SV nb pb lb cb mb qb kb db, Value.pointer (some { block := w.heap.size, off := 0 }), Value.pointer (some { block := w.heap.size + 1, off := 0 }), x 64, Value.pointer (some { block := rP, off := 0 }), Value.pointer (some { block := rP + 1, off := 0 }), Value.int IntKind.i64 FE, Value.pointer (some { block := rR, off := 0 }), Value.pointer (some { block := rR + 1, off := 0 }), Value.int IntKind.i64 FE, Value.pointer (some { block := rJ, off := 0 }), Value.int IntKind.i64 JE, Value.pointer (some { block := rK, off := 0 }), Value.int IntKind.i64 JE, Value.pointer (some { block := rX, off := 0 }), Value.int IntKind.i64 EE, Value.pointer (some { block := rY, off := 0 }), Value.int IntKind.i64 EE, SV na pa la ca ma qa ka da, Value.bool true, Value.bool false, Value.bool false, SV nb pb lb cb mb qb kb db, Value.bool true, Value.bool false, Value.bool false, undef, Value.tuple #[SV nP pP lP cP mP qP kP dP, SV nQ pQ lQ cQ mQ qQ kQ dQ, Value.int IntKind.i64 FE], SV na pa la ca ma qa ka da, Value.tuple #[SV nP pP lP cP mP qP kP dP, SV nQ pQ lQ cQ mQ qQ kQ dQ, Value.int IntKind.i64 FE], SV nP pP lP cP mP qP kP dP, SV nQ pQ lQ cQ mQ qQ kQ dQ, Value.int IntKind.i64 FE, Value.tuple #[SV nR pR lR cR mR qR kR dR, SV nS pS lS cS mS qS kS dS, Value.int IntKind.i64 FE], SV na pa la ca ma qa ka da, Value.tuple #[SV nR pR lR cR mR qR kR dR, SV nS pS lS cS mS qS kS dS, Value.int IntKind.i64 FE], SV nR pR lR cR mR qR kR dR, SV nS pS lS cS mS qS kS dS, Value.int IntKind.i64 FE, Value.tuple #[SV nJ pJ lJ cJ mJ qJ kJ dJ, Value.int IntKind.i64 JE], SV na pa la ca ma qa ka da, SV nb pb lb cb mb qb kb db, Value.tuple #[SV nJ pJ lJ cJ mJ qJ kJ dJ, Value.int IntKind.i64 JE], SV nJ pJ lJ cJ mJ qJ kJ dJ, Value.int IntKind.i64 JE, Value.tuple #[SV nK pK lK cK mK qK kK dK, Value.int IntKind.i64 JE], SV na pa la ca ma qa ka da, SV nb pb lb cb mb qb kb db, Value.tuple #[SV nK pK lK cK mK qK kK dK, Value.int IntKind.i64 JE], SV nK pK lK cK mK qK kK dK, Value.int IntKind.i64 JE, Value.tuple #[SV nX pX lX cX mX qX kX dX, Value.int IntKind.i64 EE], SV na pa la ca ma qa ka da, Value.tuple #[SV nX pX lX cX mX qX kX dX, Value.int IntKind.i64 EE], SV nX pX lX cX mX qX kX dX, Value.int IntKind.i64 EE, Value.tuple #[SV nY pY lY cY mY qY kY dY, Value.int IntKind.i64 EE], SV na pa la ca ma qa ka da, Value.tuple #[SV nY pY lY cY mY qY kY dY, Value.int IntKind.i64 EE], SV nY pY lY cY mY qY kY dY, Value.int IntKind.i64 EE, x 0, x 1, x 2, x 3, x 4, x 5, x 6, x 7, x 8, x 9, x 10, x 11, x 12, x 13, x 14, x 15, x 16, x 17, x 18, x 19, x 20, x 21, x 22, x 23, x 24, x 25, x 26, x 27, x 28, x 29, x 30, x 31, x 32, x 33, x 34, x 35, x 36, x 37, x 38, x 39, x 40, x 41, x 42, x 43, x 44, x 45, x 46, x 47, x 48, x 49, x 50, x 51, x 52, x 53, x 54, x 55, x 56, x 57, x 58, x 59, x 60, x 61, x 62, x 63], defers := [] }) [eqF 0 (SV na pa la ca ma qa ka da), eqF 1 (.bool bC), eqF 2 (SV na pa la ca ma qa ka da), eqF 3 (.bool bC), eqF 4 (.bool true), eqF 5 (.bool true), eqF 6 (SV nP pP lP cP mP qP kP dP), eqF 7 (SV nR pR lR cR mR qR kR dR), eqF 8 (.bool true), eqF 9 (.bool true), eqF 10 (.bool true), eqF 11 (SV nQ pQ lQ cQ mQ qQ kQ dQ), eqF 12 (SV nS pS lS cS mS qS kS dS), eqF 13 (.bool true), eqF 14 (.bool true), eqF 15 (.bool true), eqF 16 (.int .i64 FE), eqF 17 (.int .i64 FE), eqF 18 (.bool true), eqF 19 (.bool true), eqF 20 (.bool true), eqF 21 (SV nJ pJ lJ cJ mJ qJ kJ dJ), eqF 22 (SV nK pK lK cK mK qK kK dK), eqF 23 (.bool true), eqF 24 (.bool true), eqF 25 (.bool true), eqF 26 (.int .i64 JE), eqF 27 (.int .i64 JE), eqF 28 (.bool true), eqF 29 (.bool true), eqF 30 (.bool true), eqF 31 (SV nX pX lX cX mX qX kX dX), eqF 32 (SV nY pY lY cY mY qY kY dY), eqF 33 (.bool true), eqF 34 (.bool true), eqF 35 (.bool true), eqF 36 (.int .i64 EE), eqF 37 (.int .i64 EE), eqF 38 (.bool true), eqF 39 (.bool true), eqF 40 (.bool true), eqF 41 (SV na pa la ca ma qa ka da), pkF 42 Ya, eqF 43 (SV na pa la ca ma qa ka da), eqF 44 (SV 0 none 0 0 ma qa ka da), eqF 45 (.bool true), eqF 46 (.bool true), eqF 47 (.bool true), eqF 48 (SV na pa la ca ma qa ka da), eqF 49 (SV nb pb lb cb mb qb kb db), eqF 50 (.bool bL), eqF 51 (SV na pa la ca ma qa ka da), eqF 52 (SV nb pb lb cb mb qb kb db), eqF 53 (.bool bL), eqF 54 (.bool true), eqF 55 (.bool true), eqF 56 (.bool true), eqF 57 (SV 1 none 0 0 0 none 0 0), eqF 58 (SV 1 none 0 0 0 none 0 0), eqF 59 (.bool true), eqF 60 (.bool true), eqF 61 (.bool true), eqF 62 (.bool true), eqF 63 (.bool true), eqF 64 (.bool true)] (NotOne []) (notOne_symm _) _ rfl rfl (by kernel_rfl) (fun k => if k = 64 then .bool false else undef) rfl hbase.drew ⟨?_, ?_, ?_, ?_, ?_, ?_, ?_, ?_, ?_, ?_, ?_, ?_, ?_, ?_, ?_, ?_, ?_, ?_, ?_, ?_, ?_, ?_, ?_, ?_, ?_, ?_, ?_, ?_, ?_, ?_, ?_, ?_, ?_, ?_, ?_, ?_, ?_, ?_, ?_, ?_, ?_, ?_, ?_, ?_, ?_, ?_, ?_, ?_, ?_, ?_, ?_, ?_, ?_, ?_, ?_, ?_, ?_, ?_, ?_, ?_, ?_, ?_, ?_, ?_, ?_, trivial⟩ ?_
  · exact FactsG.of rfl (fun _ _ _ h => absurd h (by decide)) (fun _ _ _ _ => rfl) (Facts.loadR26 hS hF (fun _ _ => rfl) _ rfl rfl (fun x wv hSw hd => by rfl) (fun wv hSw => Rw.later ba hSw))
  · refine FactsG.of rfl (fun _ _ _ h => absurd h (by decide)) (fun _ _ _ _ => rfl) (Facts.call1V hS hF (fun _ _ => rfl) rfl (by kernel_rfl) rfl (fun x wv hSw hd => ?_))
    have d0 := eqF_get (hd ⟨0, .data⟩ (by simp) rfl _ rfl)
    have hc := cA1 wv hSw
    rw [← d0] at hc
    exact hc
  · exact FactsG.of rfl (fun _ _ _ h => absurd h (by decide)) (fun _ _ _ _ => rfl) (Facts.loadR26 hS hF (fun _ _ => rfl) _ rfl rfl (fun x wv hSw hd => by rfl) (fun wv hSw => Rw.later ba hSw))
  · refine FactsG.of rfl (fun _ _ _ h => absurd h (by decide)) (fun _ _ _ _ => rfl) (Facts.call1V hS hF (fun _ _ => rfl) rfl (by kernel_rfl) rfl (fun x wv hSw hd => ?_))
    have d2 := eqF_get (hd ⟨2, .data⟩ (by simp) rfl _ rfl)
    have hc := cA2 wv hSw
    rw [← d2] at hc
    exact hc
  · exact FactsG.of rfl (fun _ _ _ h => absurd h (by decide)) (fun _ _ _ _ => rfl) (Facts.pure hS hF (fun _ _ => rfl) rfl (fun x wv hSw hd => by
      have d1 := eqF_get (hd ⟨1, .data⟩ (by simp) rfl _ rfl)
      have d3 := eqF_get (hd ⟨3, .data⟩ (by simp) rfl _ rfl)
      simp only [d1, d3]
      go_simp <;> first | rfl | simp))
  · exact FactsG.of rfl (fun _ _ _ h => absurd h (by decide)) (fun _ _ _ _ => rfl) (Facts.pure hS hF (fun _ _ => rfl) rfl (fun x wv hSw hd => by
      have d4 := eqF_get (hd ⟨4, .data⟩ (by simp) rfl _ rfl)
      simp only [d4]
      go_simp))
  · exact FactsG.of rfl (fun _ _ _ h => absurd h (by decide)) (fun x wv hSw hd => by have dg := eqF_get (hd ⟨5, .guard⟩ (by simp) rfl _ rfl); simp only [dg]; rfl) (Facts.loadR26 hS hF (fun _ _ => rfl) _ rfl rfl (fun x wv hSw hd => by rfl) (fun wv hSw => Rw.later bP hSw))
  · exact FactsG.of rfl (fun _ _ _ h => absurd h (by decide)) (fun x wv hSw hd => by have dg := eqF_get (hd ⟨5, .guard⟩ (by simp) rfl _ rfl); simp only [dg]; rfl) (Facts.loadR26 hS hF (fun _ _ => rfl) _ rfl rfl (fun x wv hSw hd => by rfl) (fun wv hSw => Rw.later bR hSw))
  · refine FactsG.of rfl (fun _ _ _ h => absurd h (by decide)) (fun x wv hSw hd => by have dg := eqF_get (hd ⟨5, .guard⟩ (by simp) rfl _ rfl); simp only [dg]; rfl) (Facts.call2V hS hF (fun _ _ => rfl) rfl (by kernel_rfl) rfl (fun x wv hSw hd => ?_))
    have d6 := eqF_get (hd ⟨6, .data⟩ (by simp) rfl _ rfl)
    have d7 := eqF_get (hd ⟨7, .data⟩ (by simp) rfl _ rfl)
    have hc := sPR wv hSw
    rw [← d6, ← d7] at hc
    exact hc
  · exact FactsG.of rfl (fun _ _ _ h => absurd h (by decide)) (fun _ _ _ _ => rfl) (Facts.pure hS hF (fun _ _ => rfl) rfl (fun x wv hSw hd => by
      have d5 := eqF_get (hd ⟨5, .data⟩ (by simp) rfl _ rfl)
      have d8 := eqF_get (hd ⟨8, .data⟩ (by simp) rfl _ rfl)
      simp only [d5, d8]
      go_simp))
  · exact FactsG.of rfl (fun _ _ _ h => absurd h (by decide)) (fun _ _ _ _ => rfl) (Facts.pure hS hF (fun _ _ => rfl) rfl (fun x wv hSw hd => by
      have d9 := eqF_get (hd ⟨9, .data⟩ (by simp) rfl _ rfl)
      simp only [d9]
      go_simp))
  · exact FactsG.of rfl (fun _ _ _ h => absurd h (by decide)) (fun x wv hSw hd => by have dg := eqF_get (hd ⟨10, .guard⟩ (by simp) rfl _ rfl); simp only [dg]; rfl) (Facts.loadR26 hS hF (fun _ _ => rfl) _ rfl rfl (fun x wv hSw hd => by rfl) (fun wv hSw => Rw.later bQ hSw))
  · exact FactsG.of rfl (fun _ _ _ h => absurd h (by decide)) (fun x wv hSw hd => by have dg := eqF_get (hd ⟨10, .guard⟩ (by simp) rfl _ rfl); simp only [dg]; rfl) (Facts.loadR26 hS hF (fun _ _ => rfl) _ rfl rfl (fun x wv hSw hd => by rfl) (fun wv hSw => Rw.later bS hSw))
  · refine FactsG.of rfl (fun _ _ _ h => absurd h (by decide)) (fun x wv hSw hd => by have dg := eqF_get (hd ⟨10, .guard⟩ (by simp) rfl _ rfl); simp only [dg]; rfl) (Facts.call2V hS hF (fun _ _ => rfl) rfl (by kernel_rfl) rfl (fun x wv hSw hd => ?_))
    have d11 := eqF_get (hd ⟨11, .data⟩ (by simp) rfl _ rfl)
    have d12 := eqF_get (hd ⟨12, .data⟩ (by simp) rfl _ rfl)
    have hc := sQS wv hSw
    rw [← d11, ← d12] at hc
    exact hc
  · exact FactsG.of rfl (fun _ _ _ h => absurd h (by decide)) (fun _ _ _ _ => rfl) (Facts.pure hS hF (fun _ _ => rfl) rfl (fun x wv hSw hd => by
      have d10 := eqF_get (hd ⟨10, .data⟩ (by simp) rfl _ rfl)
      have d13 := eqF_get (hd ⟨13, .data⟩ (by simp) rfl _ rfl)
      simp only [d10, d13]
      go_simp))
  · exact FactsG.of rfl (fun _ _ _ h => absurd h (by decide)) (fun _ _ _ _ => rfl) (Facts.pure hS hF (fun _ _ => rfl) rfl (fun x wv hSw hd => by
      have d14 := eqF_get (hd ⟨14, .data⟩ (by simp) rfl _ rfl)
      simp only [d14]
      go_simp))
  · exact FactsG.of rfl (fun _ _ _ h => absurd h (by decide)) (fun x wv hSw hd => by have dg := eqF_get (hd ⟨15, .guard⟩ (by simp) rfl _ rfl); simp only [dg]; rfl) (Facts.pure hS hF (fun _ _ => rfl) rfl (fun x wv hSw hd => by
      go_simp))
  · exact FactsG.of rfl (fun _ _ _ h => absurd h (by decide)) (fun x wv hSw hd => by have dg := eqF_get (hd ⟨15, .guard⟩ (by simp) rfl _ rfl); simp only [dg]; rfl) (Facts.pure hS hF (fun _ _ => rfl) rfl (fun x wv hSw hd => by
      go_simp))
  · exact FactsG.of rfl (fun _ _ _ h => absurd h (by decide)) (fun x wv hSw hd => by have dg := eqF_get (hd ⟨15, .guard⟩ (by simp) rfl _ rfl); simp only [dg]; rfl) (Facts.pure hS hF (fun _ _ => rfl) rfl (fun x wv hSw hd => by
      have d16 := eqF_get (hd ⟨16, .data⟩ (by simp) rfl _ rfl)
      have d17 := eqF_get (hd ⟨17, .data⟩ (by simp) rfl _ rfl)
      simp only [d16, d17]
      go_simp <;> first | rfl | simp))
  · exact FactsG.of rfl (fun _ _ _ h => absurd h (by decide)) (fun _ _ _ _ => rfl) (Facts.pure hS hF (fun _ _ => rfl) rfl (fun x wv hSw hd => by
      have d15 := eqF_get (hd ⟨15, .data⟩ (by simp) rfl _ rfl)
      have d18 := eqF_get (hd ⟨18, .data⟩ (by simp) rfl _ rfl)
      simp only [d15, d18]
      go_simp))
  · exact FactsG.of rfl (fun _ _ _ h => absurd h (by decide)) (fun _ _ _ _ => rfl) (Facts.pure hS hF (fun _ _ => rfl) rfl (fun x wv hSw hd => by
      have d19 := eqF_get (hd ⟨19, .data⟩ (by simp) rfl _ rfl)
      simp only [d19]
      go_simp))
  · exact FactsG.of rfl (fun _ _ _ h => absurd h (by decide)) (fun x wv hSw hd => by have dg := eqF_get (hd ⟨20, .guard⟩ (by simp) rfl _ rfl); simp only [dg]; rfl) (Facts.loadR26 hS hF (fun _ _ => rfl) _ rfl rfl (fun x wv hSw hd => by rfl) (fun wv hSw => Rw.later bJ hSw))
  · exact FactsG.of rfl (fun _ _ _ h => absurd h (by decide)) (fun x wv hSw hd => by have dg := eqF_get (hd ⟨20, .guard⟩ (by simp) rfl _ rfl); simp only [dg]; rfl) (Facts.loadR26 hS hF (fun _ _ => rfl) _ rfl rfl (fun x wv hSw hd => by rfl) (fun wv hSw => Rw.later bK hSw))
  · refine FactsG.of rfl (fun _ _ _ h => absurd h (by decide)) (fun x wv hSw hd => by have dg := eqF_get (hd ⟨20, .guard⟩ (by simp) rfl _ rfl); simp only [dg]; rfl) (Facts.call2V hS hF (fun _ _ => rfl) rfl (by kernel_rfl) rfl (fun x wv hSw hd => ?_))
    have d21 := eqF_get (hd ⟨21, .data⟩ (by simp) rfl _ rfl)
    have d22 := eqF_get (hd ⟨22, .data⟩ (by simp) rfl _ rfl)
    have hc := sJK wv hSw
    rw [← d21, ← d22] at hc
    exact hc
  · exact FactsG.of rfl (fun _ _ _ h => absurd h (by decide)) (fun _ _ _ _ => rfl) (Facts.pure hS hF (fun _ _ => rfl) rfl (fun x wv hSw hd => by
      have d20 := eqF_get (hd ⟨20, .data⟩ (by simp) rfl _ rfl)
      have d23 := eqF_get (hd ⟨23, .data⟩ (by simp) rfl _ rfl)
      simp only [d20, d23]
      go_simp))
  · exact FactsG.of rfl (fun _ _ _ h => absurd h (by decide)) (fun _ _ _ _ => rfl) (Facts.pure hS hF (fun _ _ => rfl) rfl (fun x wv hSw hd => by
      have d24 := eqF_get (hd ⟨24, .data⟩ (by simp) rfl _ rfl)
      simp only [d24]
      go_simp))
  · exact FactsG.of rfl (fun _ _ _ h => absurd h (by decide)) (fun x wv hSw hd => by have dg := eqF_get (hd ⟨25, .guard⟩ (by simp) rfl _ rfl); simp only [dg]; rfl) (Facts.pure hS hF (fun _ _ => rfl) rfl (fun x wv hSw hd => by
      go_simp))
  · exact FactsG.of rfl (fun _ _ _ h => absurd h (by decide)) (fun x wv hSw hd => by have dg := eqF_get (hd ⟨25, .guard⟩ (by simp) rfl _ rfl); simp only [dg]; rfl) (Facts.pure hS hF (fun _ _ => rfl) rfl (fun x wv hSw hd => by
      go_simp))
  · exact FactsG.of rfl (fun _ _ _ h => absurd h (by decide)) (fun x wv hSw hd => by have dg := eqF_get (hd ⟨25, .guard⟩ (by simp) rfl _ rfl); simp only [dg]; rfl) (Facts.pure hS hF (fun _ _ => rfl) rfl (fun x wv hSw hd => by
      have d26 := eqF_get (hd ⟨26, .data⟩ (by simp) rfl _ rfl)
      have d27 := eqF_get (hd ⟨27, .data⟩ (by simp) rfl _ rfl)
      simp only [d26, d27]
      go_simp <;> first | rfl | simp))
  · exact FactsG.of rfl (fun _ _ _ h => absurd h (by decide)) (fun _ _ _ _ => rfl) (Facts.pure hS hF (fun _ _ => rfl) rfl (fun x wv hSw hd => by
      have d25 := eqF_get (hd ⟨25, .data⟩ (by simp) rfl _ rfl)
      have d28 := eqF_get (hd ⟨28, .data⟩ (by simp) rfl _ rfl)
      simp only [d25, d28]
      go_simp))
  · exact FactsG.of rfl (fun _ _ _ h => absurd h (by decide)) (fun _ _ _ _ => rfl) (Facts.pure hS hF (fun _ _ => rfl) rfl (fun x wv hSw hd => by
      have d29 := eqF_get (hd ⟨29, .data⟩ (by simp) rfl _ rfl)
      simp only [d29]
      go_simp))
  · exact FactsG.of rfl (fun _ _ _ h => absurd h (by decide)) (fun x wv hSw hd => by have dg := eqF_get (hd ⟨30, .guard⟩ (by simp) rfl _ rfl); simp only [dg]; rfl) (Facts.loadR26 hS hF (fun _ _ => rfl) _ rfl rfl (fun x wv hSw hd => by rfl) (fun wv hSw => Rw.later bX hSw))
  · exact FactsG.of rfl (fun _ _ _ h => absurd h (by decide)) (fun x wv hSw hd => by have dg := eqF_get (hd ⟨30, .guard⟩ (by simp) rfl _ rfl); simp only [dg]; rfl) (Facts.loadR26 hS hF (fun _ _ => rfl) _ rfl rfl (fun x wv hSw hd => by rfl) (fun wv hSw => Rw.later bY hSw))
  · refine FactsG.of rfl (fun _ _ _ h => absurd h (by decide)) (fun x wv hSw hd => by have dg := eqF_get (hd ⟨30, .guard⟩ (by simp) rfl _ rfl); simp only [dg]; rfl) (Facts.call2V hS hF (fun _ _ => rfl) rfl (by kernel_rfl) rfl (fun x wv hSw hd => ?_))
    have d31 := eqF_get (hd ⟨31, .data⟩ (by simp) rfl _ rfl)
    have d32 := eqF_get (hd ⟨32, .data⟩ (by simp) rfl _ rfl)
    have hc := sXY wv hSw
    rw [← d31, ← d32] at hc
    exact hc
  · exact FactsG.of rfl (fun _ _ _ h => absurd h (by decide)) (fun _ _ _ _ => rfl) (Facts.pure hS hF (fun _ _ => rfl) rfl (fun x wv hSw hd => by
      have d30 := eqF_get (hd ⟨30, .data⟩ (by simp) rfl _ rfl)
      have d33 := eqF_get (hd ⟨33, .data⟩ (by simp) rfl _ rfl)
      simp only [d30, d33]
      go_simp))
  · exact FactsG.of rfl (fun _ _ _ h => absurd h (by decide)) (fun _ _ _ _ => rfl) (Facts.pure hS hF (fun _ _ => rfl) rfl (fun x wv hSw hd => by
      have d34 := eqF_get (hd ⟨34, .data⟩ (by simp) rfl _ rfl)
      simp only [d34]
      go_simp))
  · exact FactsG.of rfl (fun _ _ _ h => absurd h (by decide)) (fun x wv hSw hd => by have dg := eqF_get (hd ⟨35, .guard⟩ (by simp) rfl _ rfl); simp only [dg]; rfl) (Facts.pure hS hF (fun _ _ => rfl) rfl (fun x wv hSw hd => by
      go_simp))
  · exact FactsG.of rfl (fun _ _ _ h => absurd h (by decide)) (fun x wv hSw hd => by have dg := eqF_get (hd ⟨35, .guard⟩ (by simp) rfl _ rfl); simp only [dg]; rfl) (Facts.pure hS hF (fun _ _ => rfl) rfl (fun x wv hSw hd => by
      go_simp))
  · exact FactsG.of rfl (fun _ _ _ h => absurd h (by decide)) (fun x wv hSw hd => by have dg := eqF_get (hd ⟨35, .guard⟩ (by simp) rfl _ rfl); simp only [dg]; rfl) (Facts.pure hS hF (fun _ _ => rfl) rfl (fun x wv hSw hd => by
      have d36 := eqF_get (hd ⟨36, .data⟩ (by simp) rfl _ rfl)
      have d37 := eqF_get (hd ⟨37, .data⟩ (by simp) rfl _ rfl)
      simp only [d36, d37]
      go_simp <;> first | rfl | simp))
  · exact FactsG.of rfl (fun _ _ _ h => absurd h (by decide)) (fun _ _ _ _ => rfl) (Facts.pure hS hF (fun _ _ => rfl) rfl (fun x wv hSw hd => by
      have d35 := eqF_get (hd ⟨35, .data⟩ (by simp) rfl _ rfl)
      have d38 := eqF_get (hd ⟨38, .data⟩ (by simp) rfl _ rfl)
      simp only [d35, d38]
      go_simp))
  · exact FactsG.of rfl (fun _ _ _ h => absurd h (by decide)) (fun _ _ _ _ => rfl) (Facts.pure hS hF (fun _ _ => rfl) rfl (fun x wv hSw hd => by
      have d39 := eqF_get (hd ⟨39, .data⟩ (by simp) rfl _ rfl)
      simp only [d39]
      go_simp))
  · exact FactsG.of rfl (fun _ _ _ h => absurd h (by decide)) (fun x wv hSw hd => by have dg := eqF_get (hd ⟨40, .guard⟩ (by simp) rfl _ rfl); simp only [dg]; rfl) (Facts.loadR26 hS hF (fun _ _ => rfl) _ rfl rfl (fun x wv hSw hd => by rfl) (fun wv hSw => Rw.later ba hSw))
  · refine FactsG.of rfl (fun _ _ _ h => absurd h (by decide)) (fun x wv hSw hd => by have dg := eqF_get (hd ⟨40, .guard⟩ (by simp) rfl _ rfl); simp only [dg]; rfl) (Facts.call1F hS hF (fun _ _ => rfl) rfl (by kernel_rfl) rfl (fun x wv hSw hd => ?_))
    have d41 := eqF_get (hd ⟨41, .data⟩ (by simp) rfl _ rfl)
    have hc := cP1 wv hSw
    rw [← d41] at hc
    exact hc.mono fun _ _ ⟨m, q, k, d, he, h, hb⟩ => ⟨_, he, hb, pkF_put h⟩
  · exact FactsG.of rfl (fun _ _ _ h => absurd h (by decide)) (fun x wv hSw hd => by have dg := eqF_get (hd ⟨40, .guard⟩ (by simp) rfl _ rfl); simp only [dg]; rfl) (Facts.loadR26 hS hF (fun _ _ => rfl) _ rfl rfl (fun x wv hSw hd => by rfl) (fun wv hSw => Rw.later ba hSw))
  · refine FactsG.of rfl (fun _ _ _ h => absurd h (by decide)) (fun x wv hSw hd => by have dg := eqF_get (hd ⟨40, .guard⟩ (by simp) rfl _ rfl); simp only [dg]; rfl) (Facts.call1V hS hF (fun _ _ => rfl) rfl (by kernel_rfl) rfl (fun x wv hSw hd => ?_))
    have d43 := eqF_get (hd ⟨43, .data⟩ (by simp) rfl _ rfl)
    have hc := rPeek_any na pa la ca ma qa ka da wv
    rw [← d43] at hc
    exact hc
  · refine FactsG.of rfl (fun _ _ _ h => absurd h (by decide)) (fun x wv hSw hd => by have dg := eqF_get (hd ⟨40, .guard⟩ (by simp) rfl _ rfl); simp only [dg]; rfl) (Facts.call2V hS hF (fun _ _ => rfl) rfl (by kernel_rfl) rfl (fun x wv hSw hd => ?_))
    have d44 := eqF_get (hd ⟨44, .data⟩ (by simp) rfl _ rfl)
    obtain ⟨m, q, k, d, d42, h42⟩ := pkF_get (hd ⟨42, .data⟩ (by simp) rfl _ rfl)
    have hc := same_peek h42 (ua.later hSw)
    rw [← d42, ← d44] at hc
    exact hc
  · exact FactsG.of rfl (fun _ _ _ h => absurd h (by decide)) (fun _ _ _ _ => rfl) (Facts.pure hS hF (fun _ _ => rfl) rfl (fun x wv hSw hd => by
      have d40 := eqF_get (hd ⟨40, .data⟩ (by simp) rfl _ rfl)
      have d45 := eqF_get (hd ⟨45, .data⟩ (by simp) rfl _ rfl)
      simp only [d40, d45]
      go_simp))
  · exact FactsG.of rfl (fun _ _ _ h => absurd h (by decide)) (fun _ _ _ _ => rfl) (Facts.pure hS hF (fun _ _ => rfl) rfl (fun x wv hSw hd => by
      have d46 := eqF_get (hd ⟨46, .data⟩ (by simp) rfl _ rfl)
      simp only [d46]
      go_simp))
  · exact FactsG.of rfl (fun _ _ _ h => absurd h (by decide)) (fun x wv hSw hd => by have dg := eqF_get (hd ⟨47, .guard⟩ (by simp) rfl _ rfl); simp only [dg]; rfl) (Facts.loadR26 hS hF (fun _ _ => rfl) _ rfl rfl (fun x wv hSw hd => by rfl) (fun wv hSw => Rw.later ba hSw))
  · exact FactsG.of rfl (fun _ _ _ h => absurd h (by decide)) (fun x wv hSw hd => by have dg := eqF_get (hd ⟨47, .guard⟩ (by simp) rfl _ rfl); simp only [dg]; rfl) (Facts.loadR26 hS hF (fun _ _ => rfl) _ rfl rfl (fun x wv hSw hd => by rfl) (fun wv hSw => Rw.later bb hSw))
  · refine FactsG.of rfl (fun _ _ _ h => absurd h (by decide)) (fun x wv hSw hd => by have dg := eqF_get (hd ⟨47, .guard⟩ (by simp) rfl _ rfl); simp only [dg]; rfl) (Facts.call2V hS hF (fun _ _ => rfl) rfl (by kernel_rfl) rfl (fun x wv hSw hd => ?_))
    have d48 := eqF_get (hd ⟨48, .data⟩ (by simp) rfl _ rfl)
    have d49 := eqF_get (hd ⟨49, .data⟩ (by simp) rfl _ rfl)
    have hc := cL1 wv hSw
    rw [← d48, ← d49] at hc
    exact hc
  · exact FactsG.of rfl (fun _ _ _ h => absurd h (by decide)) (fun x wv hSw hd => by have dg := eqF_get (hd ⟨47, .guard⟩ (by simp) rfl _ rfl); simp only [dg]; rfl) (Facts.loadR26 hS hF (fun _ _ => rfl) _ rfl rfl (fun x wv hSw hd => by rfl) (fun wv hSw => Rw.later ba hSw))
  · exact FactsG.of rfl (fun _ _ _ h => absurd h (by decide)) (fun x wv hSw hd => by have dg := eqF_get (hd ⟨47, .guard⟩ (by simp) rfl _ rfl); simp only [dg]; rfl) (Facts.loadR26 hS hF (fun _ _ => rfl) _ rfl rfl (fun x wv hSw hd => by rfl) (fun wv hSw => Rw.later bb hSw))
  · refine FactsG.of rfl (fun _ _ _ h => absurd h (by decide)) (fun x wv hSw hd => by have dg := eqF_get (hd ⟨47, .guard⟩ (by simp) rfl _ rfl); simp only [dg]; rfl) (Facts.call2V hS hF (fun _ _ => rfl) rfl (by kernel_rfl) rfl (fun x wv hSw hd => ?_))
    have d51 := eqF_get (hd ⟨51, .data⟩ (by simp) rfl _ rfl)
    have d52 := eqF_get (hd ⟨52, .data⟩ (by simp) rfl _ rfl)
    have hc := cL2 wv hSw
    rw [← d51, ← d52] at hc
    exact hc
  · exact FactsG.of rfl (fun _ _ _ h => absurd h (by decide)) (fun x wv hSw hd => by have dg := eqF_get (hd ⟨47, .guard⟩ (by simp) rfl _ rfl); simp only [dg]; rfl) (Facts.pure hS hF (fun _ _ => rfl) rfl (fun x wv hSw hd => by
      have d50 := eqF_get (hd ⟨50, .data⟩ (by simp) rfl _ rfl)
      have d53 := eqF_get (hd ⟨53, .data⟩ (by simp) rfl _ rfl)
      simp only [d50, d53]
      go_simp <;> first | rfl | simp))
  · exact FactsG.of rfl (fun _ _ _ h => absurd h (by decide)) (fun _ _ _ _ => rfl) (Facts.pure hS hF (fun _ _ => rfl) rfl (fun x wv hSw hd => by
      have d47 := eqF_get (hd ⟨47, .data⟩ (by simp) rfl _ rfl)
      have d54 := eqF_get (hd ⟨54, .data⟩ (by simp) rfl _ rfl)
      simp only [d47, d54]
      go_simp))
  · exact FactsG.of rfl (fun _ _ _ h => absurd h (by decide)) (fun _ _ _ _ => rfl) (Facts.pure hS hF (fun _ _ => rfl) rfl (fun x wv hSw hd => by
      have d55 := eqF_get (hd ⟨55, .data⟩ (by simp) rfl _ rfl)
      simp only [d55]
      go_simp))
  · refine FactsG.of rfl (fun _ _ _ h => absurd h (by decide)) (fun x wv hSw hd => by have dg := eqF_get (hd ⟨56, .guard⟩ (by simp) rfl _ rfl); simp only [dg]; rfl) (Facts.call0V hS hF (fun _ _ => rfl) rfl (by kernel_rfl) rfl (fun x wv hSw hd => ?_))
    have hc := seed_any wv
    exact hc
  · refine FactsG.of rfl (fun _ _ _ h => absurd h (by decide)) (fun x wv hSw hd => by have dg := eqF_get (hd ⟨56, .guard⟩ (by simp) rfl _ rfl); simp only [dg]; rfl) (Facts.call0V hS hF (fun _ _ => rfl) rfl (by kernel_rfl) rfl (fun x wv hSw hd => ?_))
    have hc := rSeed_any wv
    exact hc
  · refine FactsG.of rfl (fun _ _ _ h => absurd h (by decide)) (fun x wv hSw hd => by have dg := eqF_get (hd ⟨56, .guard⟩ (by simp) rfl _ rfl); simp only [dg]; rfl) (Facts.call2V hS hF (fun _ _ => rfl) rfl (by kernel_rfl) rfl (fun x wv hSw hd => ?_))
    have d57 := eqF_get (hd ⟨57, .data⟩ (by simp) rfl _ rfl)
    have d58 := eqF_get (hd ⟨58, .data⟩ (by simp) rfl _ rfl)
    show Calls Try.prog 21 #[x 57, x 58] wv _
    rw [d57, d58]
    exact same_seed wv
  · exact FactsG.of rfl (fun _ _ _ h => absurd h (by decide)) (fun _ _ _ _ => rfl) (Facts.pure hS hF (fun _ _ => rfl) rfl (fun x wv hSw hd => by
      have d56 := eqF_get (hd ⟨56, .data⟩ (by simp) rfl _ rfl)
      have d59 := eqF_get (hd ⟨59, .data⟩ (by simp) rfl _ rfl)
      simp only [d56, d59]
      go_simp))
  · exact FactsG.of rfl (fun _ _ _ h => absurd h (by decide)) (fun _ _ _ _ => rfl) (Facts.pure hS hF (fun _ _ => rfl) rfl (fun x wv hSw hd => by
      have d60 := eqF_get (hd ⟨60, .data⟩ (by simp) rfl _ rfl)
      simp only [d60]
      go_simp))
  · refine FactsG.of rfl (fun _ _ _ h => absurd h (by decide)) (fun x wv hSw hd => by have dg := eqF_get (hd ⟨61, .guard⟩ (by simp) rfl _ rfl); simp only [dg]; rfl) (Facts.call0V hS hF (fun _ _ => rfl) rfl (by kernel_rfl) rfl (fun x wv hSw hd => ?_))
    have hc := heads_any wv
    exact hc
  · exact FactsG.of rfl (fun _ _ _ h => absurd h (by decide)) (fun _ _ _ _ => rfl) (Facts.pure hS hF (fun _ _ => rfl) rfl (fun x wv hSw hd => by
      have d61 := eqF_get (hd ⟨61, .data⟩ (by simp) rfl _ rfl)
      have d62 := eqF_get (hd ⟨62, .data⟩ (by simp) rfl _ rfl)
      simp only [d61, d62]
      go_simp))
  · exact FactsG.of rfl (fun _ _ _ h => absurd h (by decide)) (fun _ _ _ _ => rfl) (Facts.pure hS hF (fun _ _ => rfl) rfl (fun x wv hSw hd => by
      have d63 := eqF_get (hd ⟨63, .data⟩ (by simp) rfl _ rfl)
      simp only [d63]
      go_simp))
  rintro x w9 hb9 hf _
  have e64 := eqF_get (hf 64 _ (by decide) rfl)
  simp only [e64]
  go_wp2
  go_ret
  exact ⟨rfl, below_on hbel hb9⟩
end Go.Proofs.Ytmcajjdijjcpkaa
