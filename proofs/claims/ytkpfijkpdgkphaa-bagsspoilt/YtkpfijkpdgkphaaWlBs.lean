/- BagsSpoilt: a frame that was spoilt is what seal.Spoil makes of it, with one byte turned; neither it nor its double is spoilt again. -/
import Derived.Test.YtkpfijkpdgkphaaBgT
namespace Go.Proofs.Ytkpfijkpdgkphaa
open Go.RowKit
set_option linter.unusedVariables false
set_option linter.unusedSimpArgs false

theorem xor_ne (c m : Nat) (hm : m ≠ 0) : c ^^^ m ≠ c := by
  intro h
  have h1 : c ^^^ (c ^^^ m) = c ^^^ c := by rw [h]
  rw [← Nat.xor_assoc, Nat.xor_self, Nat.zero_xor] at h1
  exact hm h1
/-- What a spoilt frame is: one byte is another one. -/
theorem spoilL_ok {p : List UInt8} {at_ mask : Int} (h : (spoilL p at_ mask).2 = 0) : ∃ j z, ∃ hj : j < p.length, (spoilL p at_ mask).1 = p.set j z ∧ z ≠ p[j] := by
  unfold spoilL at h ⊢
  by_cases h1 : 0 ≤ at_ ∧ at_ < (p.length : Int)
  · rw [if_pos h1] at h ⊢
    by_cases h2 : mask % 256 = 0
    · rw [if_pos h2] at h; cases h
    · rw [if_neg h2]
      obtain ⟨j, rfl⟩ := Int.eq_ofNat_of_zero_le h1.1
      have hj : j < p.length := by omega
      refine ⟨j, _, hj, rfl, fun e => ?_⟩
      have hm0 : 0 ≤ mask % 256 := by omega
      obtain ⟨m, hm⟩ := Int.eq_ofNat_of_zero_le hm0
      have hm2 : m < 256 := by omega
      rw [hm, Int.toNat_natCast] at e
      simp only [Int.toNat_natCast] at e
      rw [List.getD_eq_getElem?_getD, List.getElem?_eq_getElem hj, Option.getD_some] at e
      have e2 := congrArg UInt8.toNat e
      have hc := UInt8.toNat_lt p[j]
      rw [toNat_of (Nat.xor_lt_two_pow (n := 8) hc (by omega))] at e2
      exact xor_ne _ _ (by omega) e2
  · rw [if_neg h1] at h; cases h
theorem len_none : sumW (wall 2 (U 2 []) 2) = 0 := by decide

set_option maxRecDepth 100000 in
set_option maxHeartbeats 8000000 in
theorem bagsSpoilt_walk (v : Value) (p : List UInt8) (at_ mask : Int) (w : World) (h : IsB w v p) (hp : p.length ≤ 140737488351232) (hat : (Lit.int IntKind.i64 at_).wf = true) (hm : (Lit.int IntKind.i64 mask).wf = true) :
    Calls Try.prog 8 #[v, .int .i64 at_, .int .i64 mask] w fun e w' => e = .returned (.bool true) ∧ Below w.heap.size w w' := by
  have HM : Hid (-9223372036854775808 ≤ mask ∧ mask < 9223372036854775808) := bounds_int hm
  have H : Hid (IsB w v p) := h
  obtain ⟨a1, c1, rfl, hc1, hl1, r1⟩ := h
  clear r1 hm hat
  have HQl : Hid ((spoilL p at_ mask).1.length ≤ 281474976710656) := Nat.le_trans (spoilL_length p at_ mask) hl1
  go_enter Try.func8, Try.ntmps8
  go_wp2_with fail
  refine (new_any 2 _).mono ?_
  rintro e w1 ⟨hnp, hb⟩
  rcases hnp with ⟨h, _⟩ | ⟨k, hk, _, _, nb, F, rfl, hn, hF⟩
  · omega
  obtain rfl : k = 2 := by omega
  have HW1 : Hid (NetW w nb (U 2 []) F w1) := ⟨by rw [one_no.2]; exact hn, hF, hb⟩
  clear hn hF hb hk
  go_wp2_with fail
  refine (refSpoil_any _ p at_ mask _ (H.out.below HW1.out.2.2) (by omega) HM.out).mono ?_
  rintro e w2 ⟨vq, rfl, hoq, hb2⟩
  have HQ2 : Hid (IsBa F w2 vq (spoilL p at_ mask).1) := hoq.a HQl.out HW1.out.1.lt
  obtain ⟨aq, cq, eq⟩ := HQ2.out.form
  subst eq
  have HW2 : Hid (NetW w nb (U 2 []) F w2) := HW1.out.below hb2
  clear hoq hb2 HW1
  by_cases hlong : 65545 < p.length
  · have hS := (one_long (t := 0) (i := 2) lk10 (b := []) hlong)
    have hS1 := hS.1
    go_wp2_with fail
    refine (send_any F nb 2 (U 2 []) 1 0 _ p _ HW2.out.1 (H.out.below HW2.out.2.2)).mono ?_
    rintro e w3 ⟨rfl, F3, hn3, _, hF3, ht3⟩
    have HB3 : Hid (Below w.heap.size w w3) := (HW2.out.p hn3 hF3 ht3).2.2
    rw [hS1]
    clear hn3 hF3 ht3 hS hS1
    have ql : (65545 : Int) < (p.length : Int) := by omega
    go_wp2_with (go_at_call 10; refine (awake_any _).mono ?_; rintro e w4 ⟨rfl, hb4⟩)
    go_ret
    exact ⟨rfl, HB3.out.trans (hb4.mono HB3.out.size)⟩
  have hp2 : p.length ≤ 65545 := by omega
  obtain ⟨hs1, hs2⟩ := (one_send lk10 pl10 (b := []) (p := p) hp2 (by simp))
  have hs2' : sendN 2 (U 2 []) 1 0 p = U 2 [(p, false)] := hs2
  have HSN : Hid (sendN 2 (U 2 []) 1 0 p = U 2 [(p, false)]) := hs2'
  have HS1 : Hid (sendE 2 (U 2 []) 1 0 p = 0) := hs1
  clear hs1 hs2 hs2'
  go_wp2_with fail
  refine (send_any F nb 2 (U 2 []) 1 0 _ p _ HW2.out.1 (H.out.below HW2.out.2.2)).mono ?_
  rintro e w3 ⟨rfl, F3, hn3, _, hF3, ht3⟩
  rw [HS1.out]
  rw [HSN.out] at hn3
  have HW3 : Hid (NetW w nb (U 2 [(p, false)]) F3 w3) := HW2.out.p hn3 hF3 ht3
  have HQ3 : Hid (IsBa F3 w3 (.slice aq (spoilL p at_ mask).1.length cq) (spoilL p at_ mask).1) := HQ2.out.touch ht3 hF3
  clear hn3 hF3 ht3 HW2 HQ2 HS1 HSN
  have HSp := one_sp lk10 pl10 (b := [(p, false)]) (k := 0) (by simp) rfl at_ mask
  have HSpE : Hid (spE 2 (U 2 [(p, false)]) 1 0 0 at_ mask = (spoilL p at_ mask).2) := HSp.1
  have HSpN : Hid (spN 2 (U 2 [(p, false)]) 1 0 0 at_ mask = if (spoilL p at_ mask).2 = 0 then U 2 [((spoilL p at_ mask).1, true)] else U 2 [(p, false)]) := HSp.2
  clear HSp
  go_wp2_with fail
  refine (nspoil_any F3 nb 2 _ 1 0 0 at_ mask _ HW3.out.1).mono ?_
  rintro e w4 ⟨rfl, hs4⟩
  rw [HSpE.out]
  rw [HSpN.out] at hs4
  have HW4 := HW3.out.s hs4
  have HQ4 : Hid (IsBa F3 w4 (.slice aq (spoilL p at_ mask).1.length cq) (spoilL p at_ mask).1) := HQ3.out.touch hs4.2 (fun k h => .inl h)
  clear hs4 HSpE HSpN HW3 HQ3
  have HI4 : Hid (IsB w4 (.slice a1 p.length c1) p) := H.out.below HW4.2.2
  by_cases hz : (spoilL p at_ mask).2 = 0
  · rw [if_pos hz] at HW4
    rw [hz]
    obtain ⟨j, z, hj, ez, hzn⟩ := spoilL_ok hz
    rw [ez] at HW4 HQ4 ⊢
    have HZ : Hid (z ≠ p[j]) := hzn
    have hql : (p.set j z).length = p.length := List.length_set
    rw [hql] at HQ4 ⊢
    have HJ : Hid (j < p.length) := hj
    have HQE : Hid (∀ i (hi : i < p.length), ((p.set j z)[i]'(by rw [hql]; exact hi) == p[i]) = (if i = j then false else true)) := fun i hi => by
      by_cases hij : i = j
      · subst hij; simp [hzn]
      · rw [if_neg hij, List.getElem_set_ne (fun e => hij e.symm)]; simp
    obtain ⟨q, hq⟩ : ∃ q, q = p.set j z := ⟨_, rfl⟩
    rw [← hq] at HW4 HQ4 hql
    have HQE2 : Hid (∀ i (hi : i < p.length) (hi2 : i < q.length), (q[i] == p[i]) = (if i = j then false else true)) := by subst hq; exact fun i hi hi2 => HQE.out i hi
    have HWx : Hid (NetW w nb (U 2 [(q, true)]) F3 w4) := HW4
    clear hq ez HQE hzn HW4 hz HQl
    have P1 := one_pc lk10 pl10 (b := [(q, true)]) (k := 0) (by simp)
    have P2 := one_with lk10 pl10 (b := [(q, true)]) (k := 0) (by simp)
    have HP1 : Hid (pcAt 2 (U 2 [(q, true)]) 1 0 0 = (q, true)) := P1
    have HP2 : Hid (withE 2 (U 2 [(q, true)]) 1 0 0 = 0) := P2
    clear P1 P2
    go_wp2_with fail
    refine (peek_any F3 nb 2 _ 1 0 0 _ HWx.out.1).mono ?_
    rintro e w5 ⟨va, rfl, hfa, hb5⟩
    rw [HP1.out] at hfa
    rw [HP2.out]
    have hia : IsB w5 va q := hfa.isB (by rw [hql]; exact hl1)
    obtain ⟨aa, ca, ea⟩ := hia.form
    subst ea
    have kcA := conv_txt hia
    rw [hql] at kcA
    have hi5 := HQ4.out.below hb5
    have hi5b := hi5.isB
    have kcQ := conv_txt hi5b
    have HW5 : Hid (NetW w nb (U 2 [(q, true)]) F3 w5) := HWx.out.below hb5
    have HQ5 : Hid (IsBa F3 w5 (.slice aq p.length cq) q) := hi5
    clear hfa hb5 hia hi5 hi5b HWx HQ4 HI4
    have qs : ((txt q).toList == (txt q).toList) = true := by simp
    obtain ⟨D1, D2⟩ := one_dbl lk10 pl10 (b := [(q, true)]) (k := 0) (by simp) (by simp)
    have HD1 : Hid (dblE 2 (U 2 [(q, true)]) 1 0 0 = 0) := D1
    have HD2 : Hid (dblN 2 (U 2 [(q, true)]) 1 0 0 = U 2 [(q, true), (q, true)]) := D2
    clear D1 D2
    go_wp2_with fail
    refine (double_any F3 nb 2 _ 1 0 0 _ HW5.out.1).mono ?_
    rintro e w6 ⟨rfl, F6, hn6, _, hF6, ht6⟩
    rw [HD1.out]
    rw [HD2.out] at hn6
    have HW6 : Hid (NetW w nb (U 2 [(q, true), (q, true)]) F6 w6) := HW5.out.p hn6 hF6 ht6
    have HQ6 : Hid (IsBa F6 w6 (.slice aq p.length cq) q) := HQ5.out.touch ht6 hF6
    clear hn6 hF6 ht6 HW5 HQ5 HD1 HD2 kcA kcQ
    have T1 := one_sp2 lk10 pl10 (b := [(q, true), (q, true)]) (k := 0) (by simp) rfl at_ mask
    have T2 := one_sp2 lk10 pl10 (b := [(q, true), (q, true)]) (k := 1) (by simp) rfl 0 1
    have HT1 : Hid (spE 2 (U 2 [(q, true), (q, true)]) 1 0 0 at_ mask = 5 ∧ spN 2 (U 2 [(q, true), (q, true)]) 1 0 0 at_ mask = U 2 [(q, true), (q, true)]) := T1
    have HT2 : Hid (spE 2 (U 2 [(q, true), (q, true)]) 1 0 1 0 1 = 5 ∧ spN 2 (U 2 [(q, true), (q, true)]) 1 0 1 0 1 = U 2 [(q, true), (q, true)]) := T2
    clear T1 T2
    go_wp2_with fail
    refine (nspoil_any F6 nb 2 _ 1 0 0 at_ mask _ HW6.out.1).mono ?_
    rintro e w7 ⟨rfl, hs7⟩
    rw [HT1.out.1]
    rw [HT1.out.2] at hs7
    have HW7 : Hid (NetW w nb (U 2 [(q, true), (q, true)]) F6 w7) := HW6.out.s hs7
    have HQ7 : Hid (IsBa F6 w7 (.slice aq p.length cq) q) := HQ6.out.touch hs7.2 (fun k h => .inl h)
    clear hs7 HT1 HW6 HQ6
    go_wp2_with fail
    refine (nspoil_any F6 nb 2 _ 1 0 1 0 1 _ HW7.out.1).mono ?_
    rintro e w8 ⟨rfl, hs8⟩
    rw [HT2.out.1]
    rw [HT2.out.2] at hs8
    have HW8 : Hid (NetW w nb (U 2 [(q, true), (q, true)]) F6 w8) := HW7.out.s hs8
    have HQ8 : Hid (IsBa F6 w8 (.slice aq p.length cq) q) := HQ7.out.touch hs8.2 (fun k h => .inl h)
    clear hs8 HT2 HW7 HQ7
    have V1 := one_pc lk10 pl10 (b := [(q, true), (q, true)]) (k := 1) (by simp)
    have V2 := one_with lk10 pl10 (b := [(q, true), (q, true)]) (k := 1) (by simp)
    have V3 := one_lose lk10 pl10 (b := [(q, true), (q, true)]) (k := 1) (by simp)
    have HV1 : Hid (pcAt 2 (U 2 [(q, true), (q, true)]) 1 0 1 = (q, true) ∧ withE 2 (U 2 [(q, true), (q, true)]) 1 0 1 = 0 ∧ loseN 2 (U 2 [(q, true), (q, true)]) 1 0 1 = U 2 [(q, true)]) := ⟨V1, V2, V3⟩
    have V4 := one_lose lk10 pl10 (b := [(q, true)]) (k := 0) (by simp)
    have HV4 : Hid (loseN 2 (U 2 [(q, true)]) 1 0 0 = U 2 []) := V4
    clear V1 V2 V3 V4
    go_wp2_with fail
    refine (deliver_any F6 nb 2 _ 1 0 1 _ HW8.out.1).mono ?_
    rintro e w9 ⟨vb, rfl, hfb, hs9⟩
    rw [HV1.out.2.1]
    rw [HV1.out.1] at hfb
    rw [HV1.out.2.2] at hs9
    have HW9 : Hid (NetW w nb (U 2 [(q, true)]) F6 w9) := HW8.out.s hs9
    have HQ9 : Hid (IsBa F6 w9 (.slice aq p.length cq) q) := HQ8.out.touch hs9.2 (fun k h => .inl h)
    have HB9 : Hid (IsBa F6 w9 vb q) := hfb.a (by rw [hql]; exact hl1) HW8.out.1.lt
    obtain ⟨ab, cb, eb⟩ := HB9.out.form
    subst eb
    rw [hql] at HB9 ⊢
    clear hfb hs9 HV1 HW8 HQ8
    go_wp2_with fail
    refine (deliver_any F6 nb 2 _ 1 0 0 _ HW9.out.1).mono ?_
    rintro e w10 ⟨vc, rfl, hfc, hs10⟩
    rw [HP2.out]
    rw [HP1.out] at hfc
    rw [HV4.out] at hs10
    have HW10 : Hid (NetW w nb (U 2 []) F6 w10) := HW9.out.s hs10
    have HQ10 : Hid (IsB w10 (.slice aq p.length cq) q) := (HQ9.out.touch hs10.2 (fun k h => .inl h)).isB (F := F6)
    have HB10 : Hid (IsB w10 (.slice ab p.length cb) q) := (HB9.out.touch hs10.2 (fun k h => .inl h)).isB (F := F6)
    have HC10 : Hid (IsB w10 vc q) := hfc.isB (by rw [hql]; exact hl1)
    obtain ⟨ac, cc, ec⟩ := HC10.out.form
    subst ec
    have HI10 : Hid (IsB w10 (.slice a1 p.length c1) p) := H.out.below HW10.out.2.2
    clear hfc hs10 HV4 HP1 HP2 HW9 HQ9 HB9
    go_wp2
    go_loopw [18, 19] (fun tv iv wr => ∃ k : Nat, k ≤ p.length ∧ iv = .int .i64 (k : Int) ∧ tv = .int .i64 (if j < k then 1 else 0) ∧ Hid (Below w10.heap.size w10 wr)) (fun _ iv _ => p.length - (intOf iv).toNat)
    case atStart => exact ⟨0, Nat.zero_le _, rfl, by simp, Below.refl _ _⟩
    case round =>
      obtain ⟨k, hk, rfl, rfl, HBr⟩ := hrel
      by_cases hlt : k < p.length
      · obtain ⟨a2, c2, e2, _, _, r2⟩ := HB10.out.below HBr.out
        obtain ⟨a3, c3, e3, _, _, r3⟩ := HI10.out.below HBr.out
        have hlq : k < q.length := by rw [hql]; exact hlt
        obtain ⟨b2, o2, rfl, g2⟩ := r2.resolve_left (by intro e; subst e; simp at hlq)
        obtain ⟨b3, o3, rfl, g3⟩ := r3.resolve_left (by intro e; subst e; simp at hlt)
        injection e2 with e2 e2l e2c
        injection e3 with e3 e3l e3c
        clear e2l e3l
        subst e2 e3 e2c e3c
        have x2 := g2 k hlq
        have x3 := g3 k hlt
        have k1 : (k : Int) < (p.length : Int) := by omega
        have k0 : (0 : Int) ≤ (k : Int) := by omega
        have hqe := HQE2.out k hlt hlq
        have hqn : ((q[k].toNat : Int) == (p[k].toNat : Int)) = (if k = j then false else true) := by
          rw [← hqe]
          by_cases hq9 : q[k] = p[k]
          · rw [hq9, beq_self_eq_true, beq_self_eq_true]
          · have hq8 : q[k].toNat ≠ p[k].toNat := fun e => hq9 (UInt8.toNat_inj.1 e)
            have hq7 : ¬ ((q[k].toNat : Int) = (p[k].toNat : Int)) := by omega
            rw [beq_eq_false_iff_ne.2 hq7, beq_eq_false_iff_ne.2 hq9]
        clear g2 g3 hqe r2 r3
        generalize q[k].toNat = u at *
        generalize p[k].toNat = y at *
        by_cases hkj : k = j
        · subst hkj
          have hqn2 : ((u : Int) == (y : Int)) = false := by rw [hqn]; simp
          have c0 : (if k < k then (1 : Int) else 0) = 0 := by simp
          have c1 : (if k < k + 1 then (1 : Int) else 0) = 1 := by simp
          rw [c0]
          go_wp2
          (try go_region)
          all_goals (
            go_wp2
            go_round
            case rel => exact ⟨k + 1, by omega, by go_num, by rw [c1], by exact HBr.out.drew⟩
            case measure => simp [intOf]; omega)
        · have hqn2 : ((u : Int) == (y : Int)) = true := by rw [hqn]; simp [hkj]
          have c1 : (if j < k + 1 then (1 : Int) else 0) = (if j < k then 1 else 0) := by
            by_cases h1 : j < k
            · rw [if_pos h1, if_pos (by omega)]
            · rw [if_neg h1, if_neg (by omega)]
          generalize (if j < k then (1 : Int) else 0) = cnt at *
          go_wp2
          (try go_region)
          all_goals (
            go_wp2
            go_round
            case rel => exact ⟨k + 1, by omega, by go_num, by rw [c1], by exact HBr.out.drew⟩
            case measure => simp [intOf]; omega)
      · obtain rfl : k = p.length := by omega
        have hc : (if j < p.length then (1 : Int) else 0) = 1 := if_pos HJ.out
        rw [hc]
        have kB := conv_txt (HB10.out.below HBr.out)
        have kC := conv_txt (HC10.out.below HBr.out)
        have kQ := conv_txt (HQ10.out.below HBr.out)
        rw [hql] at kC
        have HWr : Hid (NetW w nb (U 2 []) F6 wr) := HW10.out.below HBr.out
        have HLn : Hid (sumW (wall 2 (U 2 []) 2) = 0) := len_none
        go_wp2_with fail
        refine (len_any F6 nb 2 _ _ HWr.out.1).mono ?_
        rintro e w11 ⟨rfl, hb11⟩
        rw [HLn.out]
        have HB11 : Hid (Below w.heap.size w w11) := HWr.out.2.2.trans (hb11.mono HWr.out.2.2.size)
        clear hb11
        go_wp2_with fail
        refine (awake_any _).mono ?_
        rintro e w12 ⟨rfl, hb12⟩
        have HB12 : Hid (Below w.heap.size w w12) := HB11.out.trans (hb12.mono HB11.out.size)
        clear hb12
        go_wp2
        go_ret
        exact ⟨rfl, HB12.out⟩
  · rw [if_neg hz] at HW4
    have hzq : ((spoilL p at_ mask).2 == 0) = false := by simpa using hz
    have P1 := one_pc lk10 pl10 (b := [(p, false)]) (k := 0) (by simp)
    have P2 := one_with lk10 pl10 (b := [(p, false)]) (k := 0) (by simp)
    have HP1 : Hid (pcAt 2 (U 2 [(p, false)]) 1 0 0 = (p, false)) := P1
    have HP2 : Hid (withE 2 (U 2 [(p, false)]) 1 0 0 = 0) := P2
    have HWx : Hid (NetW w nb (U 2 [(p, false)]) F3 w4) := HW4
    clear P1 P2 HW4
    go_wp2_with fail
    refine (peek_any F3 nb 2 _ 1 0 0 _ HWx.out.1).mono ?_
    rintro e w5 ⟨va, rfl, hfa, hb5⟩
    rw [HP1.out] at hfa
    rw [HP2.out]
    have hia : IsB w5 va p := hfa.isB hl1
    obtain ⟨aa, ca, ea⟩ := hia.form
    subst ea
    have kcA := conv_txt hia
    have kcP := conv_txt (HI4.out.below hb5)
    have HB5 : Hid (Below w.heap.size w w5) := HWx.out.2.2.trans (hb5.mono HWx.out.2.2.size)
    clear hfa hb5 hia HWx HI4 HQ4
    generalize (spoilL p at_ mask).2 = y at *
    generalize (spoilL p at_ mask).1 = z at *
    have qy : (y == y) = true := by simp
    have qs : ((txt p).toList == (txt p).toList) = true := by simp
    generalize txt p = t at *
    go_wp2_with (go_at_call 10; refine (awake_any _).mono ?_; rintro e w6 ⟨rfl, hb6⟩)
    go_ret
    exact ⟨rfl, HB5.out.trans (hb6.mono HB5.out.size)⟩

end Go.Proofs.Ytkpfijkpdgkphaa
