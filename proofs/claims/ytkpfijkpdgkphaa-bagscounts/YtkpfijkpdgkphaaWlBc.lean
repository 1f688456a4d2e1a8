/- BagsCounts: what was sent and doubled has come, was lost, or waits. -/
import Derived.Test.YtkpfijkpdgkphaaBgAc
namespace Go.Proofs.Ytkpfijkpdgkphaa
open Go.RowKit
set_option linter.unusedVariables false
set_option linter.unusedSimpArgs false

set_option maxRecDepth 100000 in
set_option maxHeartbeats 16000000 in
theorem bagsCounts_walk (n : Int) (v : Value) (L : List Ac) (w : World) (hnw : (Lit.int IntKind.i64 n).wf = true) (h : IsA w v L) :
    Calls Try.prog 6 #[.int .i64 n, v] w fun e w' => e = .returned (.bool true) ∧ Below w.heap.size w w' := by
  have H : Hid (IsA w v L) := h
  obtain ⟨a1, c1, rfl, hc1, hl1, r1⟩ := h
  clear r1 hnw
  go_enter Try.func6, Try.ntmps6
  go_wp2_with fail
  refine (new_any n _).mono ?_
  rintro e w1 ⟨hnp, hb⟩
  rcases hnp with ⟨h, rfl⟩ | ⟨m, hk, hm1, hm2, nb, F, rfl, hn, hF⟩
  · have HB1 : Hid (Below w.heap.size w w1) := hb
    clear hb
    go_wp2_with (go_at_call 10; refine (awake_any _).mono ?_; rintro e w4 ⟨rfl, hb4⟩)
    go_ret
    exact ⟨rfl, HB1.out.trans (hb4.mono HB1.out.size)⟩
  have HN1 : Hid (NetN w nb m noB F w1) := ⟨hn, hF, hb⟩
  clear hn hF hb hk
  go_wp2
  go_loopw [7, 8, 9] (fun iv ov kv wr => ∃ (k inn out : Nat) (B : Nat → List Pc) (F' : Nat → Prop), k ≤ L.length ∧ k ≤ 400 ∧ kv = .int .i64 (k : Int) ∧ iv = .int .i64 (inn : Int) ∧ ov = .int .i64 (out : Int) ∧ inn ≤ k ∧ out ≤ k ∧ Hid (NetN w nb m B F' wr) ∧ Hid (inn = out + tot m B)) (fun _ _ kv _ => 400 - (intOf kv).toNat)
  case atStart => exact ⟨0, 0, 0, noB, F, Nat.zero_le _, by omega, rfl, rfl, rfl, by omega, by omega, HN1, by show _ = _; rw [tot_none]⟩
  case round =>
    obtain ⟨k, inn, out, B, F', hkl, hk4, rfl, rfl, rfl, hin, hout, HN, HT⟩ := hrel
    by_cases hlt : k < L.length ∧ k < 400
    · obtain ⟨a2, c2, e2, _, _, r2⟩ := H.out.below HN.out.2.2
      obtain ⟨b2, o2, rfl, g2⟩ := r2.resolve_left (by intro e; subst e; simp at hlt)
      injection e2 with e2 e2l e2c
      clear e2l r2
      subst e2 e2c
      obtain ⟨pv, hcs, hIp, hok⟩ := g2 k hlt.1
      clear g2
      generalize L[k] = ac at *
      obtain ⟨kd, fr, to, i, at_, mask, p⟩ := ac
      have x0 := hcs 0 _ rfl
      have x1 := hcs 1 _ rfl
      have x2 := hcs 2 _ rfl
      have x3 := hcs 3 _ rfl
      have x4 := hcs 4 _ rfl
      have x5 := hcs 5 _ rfl
      have x6 := hcs 6 _ rfl
      simp only [Nat.add_zero] at x0 x1 x2 x3 x4 x5 x6 hIp hok
      obtain ⟨ap, cp, ep⟩ := hIp.form
      subst ep
      have HIp : Hid (IsB wr (.slice ap p.length cp) p) := hIp
      have k1 : (k : Int) < (L.length : Int) := by omega
      have k2 : (k : Int) < 400 := by omega
      have k0 : (0 : Int) ≤ (k : Int) := by omega
      clear hcs hIp hok
      obtain ⟨W4, eW4⟩ : ∃ X, X = wr.alloc (.cells #[.int .i64 kd, .int .i64 fr, .int .i64 to, .int .i64 i, .int .i64 at_, .int .i64 mask, .slice ap p.length cp] 33) := ⟨_, rfl⟩
      have hb4 : Below wr.heap.size wr W4 := by rw [eW4]; exact (Below.refl _ _).alloc (Nat.le_refl _) _
      have HN4 : Hid (NetN w nb m B F' W4) := HN.out.below hb4
      have HI4 : Hid (IsB W4 (.slice ap p.length cp) p) := HIp.out.below hb4
      have HW4 : Hid (W4 = wr.alloc (.cells #[.int .i64 kd, .int .i64 fr, .int .i64 to, .int .i64 i, .int .i64 at_, .int .i64 mask, .slice ap p.length cp] 33)) := eW4
      clear eW4 hb4 HIp
      by_cases hk0 : kd = 0
      · subst hk0
        go_wp2_with fail
        rw [← HW4.out]
        refine (send_any F' nb m B fr to _ p _ HN4.out.1 HI4.out).mono ?_
        rintro e w5 ⟨rfl, F5, hn5, _, hF5, ht5⟩
        have HN5 : Hid (NetN w nb m (sendN m B fr to p) F5 w5) := HN4.out.p hn5 hF5 ht5
        clear hn5 hF5 ht5 HW4 HN4 HI4 x0 x1 x2 x3 x4 x5 x6
        by_cases he : sendE m B fr to p = 0
        · have HTT : Hid (inn + 1 = out + tot m (sendN m B fr to p)) := by show _ = _; have h1 := tot_send m B fr to p; have h2 := HT.out; rw [if_pos he] at h1; omega
          rw [he]
          clear he
          go_wp2_with fail
          have q7 : (tot m (sendN m B fr to p) : Int) = (inn + 1 : Nat) - ((out : Nat) : Int) := by have := HTT.out; omega
          refine (len_any F5 nb m _ _ HN5.out.1).mono ?_
          rintro e w9 ⟨rfl, hb9⟩
          rw [tot_is, q7]
          have HN9 : Hid (NetN w nb m (sendN m B fr to p) F5 w9) := HN5.out.below hb9
          clear hb9 q7
          go_wp2
          go_round
          case rel => exact ⟨k + 1, inn + 1, out, _, F5, by omega, by omega, by go_num, by go_num, by go_num, by omega, by omega, HN9, HTT⟩
          case measure => simp [intOf]; omega
        · have hq : (sendE m B fr to p == 0) = false := by simpa using he
          have HTT : Hid (inn = out + tot m (sendN m B fr to p)) := by show _ = _; have h1 := tot_send m B fr to p; have h2 := HT.out; rw [if_neg he] at h1; omega
          generalize sendE m B fr to p = er at *
          clear he
          go_wp2_with fail
          have q7 : (tot m (sendN m B fr to p) : Int) = (inn : Nat) - ((out : Nat) : Int) := by have := HTT.out; omega
          refine (len_any F5 nb m _ _ HN5.out.1).mono ?_
          rintro e w9 ⟨rfl, hb9⟩
          rw [tot_is, q7]
          have HN9 : Hid (NetN w nb m (sendN m B fr to p) F5 w9) := HN5.out.below hb9
          clear hb9 q7
          go_wp2
          go_round
          case rel => exact ⟨k + 1, inn, out, _, F5, by omega, by omega, by go_num, by go_num, by go_num, by omega, by omega, HN9, HTT⟩
          case measure => simp [intOf]; omega
      by_cases hk1 : kd = 1
      · subst hk1
        go_wp2_with fail
        rw [← HW4.out]
        refine (deliver_any F' nb m B fr to i _ HN4.out.1).mono ?_
        rintro e w5 ⟨vd, rfl, hfd, hs5⟩
        obtain ⟨ad, cd, ed⟩ := hfd.form
        subst ed
        have HN5 : Hid (NetN w nb m (loseN m B fr to i) F' w5) := HN4.out.s hs5
        clear hfd hs5 HW4 HN4 HI4 x0 x1 x2 x3 x4 x5 x6
        generalize (pcAt m B fr to i).1.length = dl at *
        by_cases he : withE m B fr to i = 0
        · have HTT : Hid (inn = out + 1 + tot m (loseN m B fr to i)) := by show _ = _; have h1 := tot_lose m B fr to i; have h2 := HT.out; rw [if_pos he] at h1; omega
          rw [he]
          clear he
          go_wp2_with fail
          have q7 : (tot m (loseN m B fr to i) : Int) = (inn : Nat) - ((out + 1 : Nat) : Int) := by have := HTT.out; omega
          refine (len_any F' nb m _ _ HN5.out.1).mono ?_
          rintro e w9 ⟨rfl, hb9⟩
          rw [tot_is, q7]
          have HN9 : Hid (NetN w nb m (loseN m B fr to i) F' w9) := HN5.out.below hb9
          clear hb9 q7
          go_wp2
          go_round
          case rel => exact ⟨k + 1, inn, out + 1, _, F', by omega, by omega, by go_num, by go_num, by go_num, by omega, by omega, HN9, HTT⟩
          case measure => simp [intOf]; omega
        · have hq : (withE m B fr to i == 0) = false := by simpa using he
          have HTT : Hid (inn = out + tot m (loseN m B fr to i)) := by show _ = _; have h1 := tot_lose m B fr to i; have h2 := HT.out; rw [if_neg he] at h1; omega
          generalize withE m B fr to i = er at *
          clear he
          go_wp2_with fail
          have q7 : (tot m (loseN m B fr to i) : Int) = (inn : Nat) - ((out : Nat) : Int) := by have := HTT.out; omega
          refine (len_any F' nb m _ _ HN5.out.1).mono ?_
          rintro e w9 ⟨rfl, hb9⟩
          rw [tot_is, q7]
          have HN9 : Hid (NetN w nb m (loseN m B fr to i) F' w9) := HN5.out.below hb9
          clear hb9 q7
          go_wp2
          go_round
          case rel => exact ⟨k + 1, inn, out, _, F', by omega, by omega, by go_num, by go_num, by go_num, by omega, by omega, HN9, HTT⟩
          case measure => simp [intOf]; omega
      by_cases hk2 : kd = 2
      · subst hk2
        go_wp2_with fail
        rw [← HW4.out]
        refine (lose_any F' nb m B fr to i _ HN4.out.1).mono ?_
        rintro e w5 ⟨rfl, hs5⟩
        have HN5 : Hid (NetN w nb m (loseN m B fr to i) F' w5) := HN4.out.s hs5
        clear hs5 HW4 HN4 HI4 x0 x1 x2 x3 x4 x5 x6
        by_cases he : withE m B fr to i = 0
        · have HTT : Hid (inn = out + 1 + tot m (loseN m B fr to i)) := by show _ = _; have h1 := tot_lose m B fr to i; have h2 := HT.out; rw [if_pos he] at h1; omega
          rw [he]
          clear he
          go_wp2_with fail
          have q7 : (tot m (loseN m B fr to i) : Int) = (inn : Nat) - ((out + 1 : Nat) : Int) := by have := HTT.out; omega
          refine (len_any F' nb m _ _ HN5.out.1).mono ?_
          rintro e w9 ⟨rfl, hb9⟩
          rw [tot_is, q7]
          have HN9 : Hid (NetN w nb m (loseN m B fr to i) F' w9) := HN5.out.below hb9
          clear hb9 q7
          go_wp2
          go_round
          case rel => exact ⟨k + 1, inn, out + 1, _, F', by omega, by omega, by go_num, by go_num, by go_num, by omega, by omega, HN9, HTT⟩
          case measure => simp [intOf]; omega
        · have hq : (withE m B fr to i == 0) = false := by simpa using he
          have HTT : Hid (inn = out + tot m (loseN m B fr to i)) := by show _ = _; have h1 := tot_lose m B fr to i; have h2 := HT.out; rw [if_neg he] at h1; omega
          generalize withE m B fr to i = er at *
          clear he
          go_wp2_with fail
          have q7 : (tot m (loseN m B fr to i) : Int) = (inn : Nat) - ((out : Nat) : Int) := by have := HTT.out; omega
          refine (len_any F' nb m _ _ HN5.out.1).mono ?_
          rintro e w9 ⟨rfl, hb9⟩
          rw [tot_is, q7]
          have HN9 : Hid (NetN w nb m (loseN m B fr to i) F' w9) := HN5.out.below hb9
          clear hb9 q7
          go_wp2
          go_round
          case rel => exact ⟨k + 1, inn, out, _, F', by omega, by omega, by go_num, by go_num, by go_num, by omega, by omega, HN9, HTT⟩
          case measure => simp [intOf]; omega
      by_cases hk3 : kd = 3
      · subst hk3
        go_wp2_with fail
        rw [← HW4.out]
        refine (double_any F' nb m B fr to i _ HN4.out.1).mono ?_
        rintro e w5 ⟨rfl, F5, hn5, _, hF5, ht5⟩
        have HN5 : Hid (NetN w nb m (dblN m B fr to i) F5 w5) := HN4.out.p hn5 hF5 ht5
        clear hn5 hF5 ht5 HW4 HN4 HI4 x0 x1 x2 x3 x4 x5 x6
        by_cases he : dblE m B fr to i = 0
        · have HTT : Hid (inn + 1 = out + tot m (dblN m B fr to i)) := by show _ = _; have h1 := tot_dbl m B fr to i; have h2 := HT.out; rw [if_pos he] at h1; omega
          rw [he]
          clear he
          go_wp2_with fail
          have q7 : (tot m (dblN m B fr to i) : Int) = (inn + 1 : Nat) - ((out : Nat) : Int) := by have := HTT.out; omega
          refine (len_any F5 nb m _ _ HN5.out.1).mono ?_
          rintro e w9 ⟨rfl, hb9⟩
          rw [tot_is, q7]
          have HN9 : Hid (NetN w nb m (dblN m B fr to i) F5 w9) := HN5.out.below hb9
          clear hb9 q7
          go_wp2
          go_round
          case rel => exact ⟨k + 1, inn + 1, out, _, F5, by omega, by omega, by go_num, by go_num, by go_num, by omega, by omega, HN9, HTT⟩
          case measure => simp [intOf]; omega
        · have hq : (dblE m B fr to i == 0) = false := by simpa using he
          have HTT : Hid (inn = out + tot m (dblN m B fr to i)) := by show _ = _; have h1 := tot_dbl m B fr to i; have h2 := HT.out; rw [if_neg he] at h1; omega
          generalize dblE m B fr to i = er at *
          clear he
          go_wp2_with fail
          have q7 : (tot m (dblN m B fr to i) : Int) = (inn : Nat) - ((out : Nat) : Int) := by have := HTT.out; omega
          refine (len_any F5 nb m _ _ HN5.out.1).mono ?_
          rintro e w9 ⟨rfl, hb9⟩
          rw [tot_is, q7]
          have HN9 : Hid (NetN w nb m (dblN m B fr to i) F5 w9) := HN5.out.below hb9
          clear hb9 q7
          go_wp2
          go_round
          case rel => exact ⟨k + 1, inn, out, _, F5, by omega, by omega, by go_num, by go_num, by go_num, by omega, by omega, HN9, HTT⟩
          case measure => simp [intOf]; omega
      have HTT : Hid (inn = out + tot m B) := HT
      have z0 : (kd == 0) = false := by simpa using hk0
      have z1 : (kd == 1) = false := by simpa using hk1
      have z2 : (kd == 2) = false := by simpa using hk2
      have z3 : (kd == 3) = false := by simpa using hk3
      go_wp2_with fail
      rw [← HW4.out]
      have q7 : (tot m (B) : Int) = (inn : Nat) - ((out : Nat) : Int) := by have := HTT.out; omega
      refine (len_any F' nb m _ _ HN4.out.1).mono ?_
      rintro e w9 ⟨rfl, hb9⟩
      rw [tot_is, q7]
      have HN9 : Hid (NetN w nb m (B) F' w9) := HN4.out.below hb9
      clear hb9 q7
      go_wp2
      go_round
      case rel => exact ⟨k + 1, inn, out, _, F', by omega, by omega, by go_num, by go_num, by go_num, by omega, by omega, HN9, HTT⟩
      case measure => simp [intOf]; omega
    · have hk : ¬ (k < L.length) ∨ (k < L.length ∧ ¬ k < 400) := by omega
      have HB : Hid (Below w.heap.size w wr) := HN.out.2.2
      rcases hk with hk | ⟨hk, hk2⟩
      all_goals (
        go_wp2_with (go_at_call 10; refine (awake_any _).mono ?_; rintro e w4 ⟨rfl, hb4⟩)
        go_ret
        exact ⟨rfl, HB.out.trans (hb4.mono HB.out.size)⟩)

end Go.Proofs.Ytkpfijkpdgkphaa
