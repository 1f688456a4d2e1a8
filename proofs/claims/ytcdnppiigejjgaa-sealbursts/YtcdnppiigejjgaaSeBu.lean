/- SealBursts: a frame of which bits were turned, all within 32 neighbouring ones, is refused. -/
import Derived.Test.YtcdnppiigejjgaaPlainV
namespace Go.Proofs.Ytcdnppiigejjgaa
open Go.RowKit
set_option linter.unusedVariables false

theorem OwnB.someF {B : Nat} {w : World} {v : Value} {D : List UInt8} (h : OwnB B w v D) (hd : D ≠ []) : ∃ g cap, v = .slice (some ⟨g, 0, none⟩) D.length cap ∧ B ≤ g := by
  rcases h.2 with ⟨rfl, hn⟩ | ⟨g, cap, cur, rfl, hg, _⟩
  · exact absurd (List.eq_nil_of_length_eq_zero hn) hd
  · exact ⟨g, cap, rfl, hg⟩
theorem and_bit {M : Nat} (hM : (M : Int) < 4294967296) (k : Nat) : (M / 2 ^ k % 2 = 1 → bits .and .u32 ((M : Int) / 2 ^ k) 1 = 1) ∧ (¬ M / 2 ^ k % 2 = 1 → bits .and .u32 ((M : Int) / 2 ^ k) 1 = 0) := by
  have e : (M : Int) / 2 ^ k = ((M / 2 ^ k : Nat) : Int) := by push_cast; rfl
  have hl : M / 2 ^ k < 4294967296 := Nat.lt_of_le_of_lt (Nat.div_le_self ..) (by omega)
  rw [e, and1_u32 hl]
  exact ⟨fun h => by omega, fun h => by omega⟩
theorem OwnB.writeN {B : Nat} {w : World} {g cap n : Nat} {D : List UInt8} (h : OwnB B w (.slice (some ⟨g, 0, none⟩) n cap) D) (hn : n = D.length) (j : Nat) (c : UInt8) :
    OwnB B (w.setCell ⟨g, j, none⟩ (.int .u8 (c.toNat : Int))) (.slice (some ⟨g, 0, none⟩) n cap) (D.set j c) ∧ w.grownBy (w.setCell ⟨g, j, none⟩ (.int .u8 (c.toNat : Int))) (some g) := by
  subst hn; exact h.write j c
theorem xor_bit {c r : Nat} (hc : c < 256) (hr : r < 8) : bits .xor .u8 (c : Int) (2 ^ r % 256) = ((UInt8.ofNat (c ^^^ 2 ^ r)).toNat : Int) := by
  have hp : 2 ^ r < 256 := by
    calc 2 ^ r < 2 ^ 8 := Nat.pow_lt_pow_right (by decide) hr
      _ = 256 := rfl
  have e : ((2 : Int) ^ r % 256) = ((2 ^ r : Nat) : Int) := by
    rw [show (2 : Int) ^ r = ((2 ^ r : Nat) : Int) by push_cast; rfl]
    exact Int.emod_eq_of_lt (Int.natCast_nonneg _) (Int.ofNat_lt.2 hp)
  rw [e, xor_u8 hc hp, toNat_of (Nat.xor_lt_two_pow (n := 8) hc hp)]
theorem bounds_u32 {x : Int} (h : (Lit.int .u32 x).wf = true) : 0 ≤ x ∧ x < 4294967296 := by
  simp [Lit.wf, IntKind.min, IntKind.max, IntKind.signed, IntKind.bits] at h
  exact ⟨by omega, by omega⟩
theorem sealL_one (load : List UInt8) (h : load.length ≤ 65536) : sealL 1 load = (frameL 1 load, 0) := by unfold sealL; rw [if_pos (by omega), if_pos h]; rfl
theorem sealL_long (load : List UInt8) (h : ¬ load.length ≤ 65536) : sealL 1 load = ([], 3) := by unfold sealL; rw [if_pos (by omega), if_neg h]

set_option maxRecDepth 100000 in
set_option maxHeartbeats 4000000 in
theorem sealBursts_walk (v : Value) (load : List UInt8) (at_ mask : Int) (w : World) (h1 : IsB w v load) (hat : (Lit.int IntKind.i64 at_).wf = true) (hm : (Lit.int IntKind.u32 mask).wf = true) :
    Calls Try.prog 8 #[v, .int .i64 at_, .int .u32 mask] w fun e w' => e = .returned (.bool true) ∧ Below w.heap.size w w' := by
  have H1 : Hid (IsB w v load) := h1
  obtain ⟨a1, c1, rfl, hc1, hl1, r1⟩ := h1
  obtain ⟨hm0, hm1⟩ := bounds_u32 hm
  obtain ⟨M, rfl⟩ := Int.eq_ofNat_of_zero_le hm0
  obtain ⟨hat0, hat1⟩ := bounds_int hat
  clear r1 hat hm hm0
  by_cases hl : load.length ≤ 65536
  · have HS : Hid (sealL 1 load = (frameL 1 load, 0)) := sealL_one load hl
    have hfl := frameL_length 1 load
    have HFL : Hid ((frameL 1 load).length = load.length + 9) := hfl
    have HOS : Hid (openL (frameL 1 load) = (1, load, 0)) := open_seal (by omega) (by omega) hl
    have HBU : Hid (∀ (q : List UInt8) (m t : Nat), q.length = load.length + 9 → leL q = leL (frameL 1 load) ^^^ (2 ^ t * m) → m < 4294967296 → m ≠ 0 → t ≤ 8 * (load.length + 9) → openL q = (0, [], 2) ∨ openL q = (0, [], 9)) := fun q m t g1 g2 g3 g4 g5 => burst_open (by omega) (by omega) hl (by rw [HFL.out]; exact g1) g2 g3 g4 (by rw [HFL.out]; exact g5)
    have HFN : Hid (frameL 1 load ≠ []) := by intro e; rw [e] at hfl; simp at hfl
    generalize frameL 1 load = F at *
    go_enter Try.func8, Try.ntmps8
    go_wp2_with fail
    refine (seal_any 1 _ load _ H1.out).mono ?_
    rintro e w1 ⟨v1, rfl, ho1, hb1⟩
    rw [HS.out] at ho1 ⊢
    simp only at ho1 ⊢
    have HB1 : Hid (Below w.heap.size w w1) := hb1
    obtain ⟨g, cap, rfl, hg⟩ := ho1.someF HFN.out
    rw [HFL.out] at ho1 ⊢
    have HO1 : Hid (OwnB w.heap.size w1 (.slice (some ⟨g, 0, none⟩) (load.length + 9) cap) F) := ho1
    generalize hnn : load.length + 9 = n at *
    have hn1 : n ≤ 65545 := by omega
    have hn2 : 9 ≤ n := by omega
    have HNN : Hid (load.length + 9 = n) := hnn
    clear ho1 hb1 hfl hnn
    by_cases hneg : at_ < 0
    · go_wp2_with (go_at_call 11; refine (awake_any _).mono ?_; rintro e w5 ⟨rfl, hb5⟩)
      go_ret
      exact ⟨rfl, HB1.out.trans (hb5.mono HB1.out.size)⟩
    · obtain ⟨t, rfl⟩ := Int.eq_ofNat_of_zero_le (show 0 ≤ at_ by omega)
      have q0 : ¬ ((t : Int) < 0) := by omega
      by_cases hbig : 8 * n ≤ t
      · have q1 : 8 * (n : Int) ≤ (t : Int) := by omega
        go_wp2_with (go_at_call 11; refine (awake_any _).mono ?_; rintro e w5 ⟨rfl, hb5⟩)
        go_ret
        exact ⟨rfl, HB1.out.trans (hb5.mono HB1.out.size)⟩
      · have q1 : ¬ 8 * (n : Int) ≤ (t : Int) := by omega
        have HTN : Hid (t < 8 * n) := by show _ < _; omega
        have htb : t < 524360 := by omega
        clear hbig hneg hat0 hat1
        go_wp2
        go_loopw [9, 10] (fun b i wr => ∃ (k m : Nat) (Q : List UInt8) (tb : Bool), b = .bool tb ∧ i = .int .i64 (k : Int) ∧ k ≤ 32 ∧ Hid (m = turnL M (8 * n - t) k) ∧ Hid (tb = decide (m ≠ 0)) ∧ Hid (Q.length = n) ∧ Hid (leL Q = leL F ^^^ (2 ^ t * m)) ∧ Hid (OwnB w.heap.size wr (.slice (some ⟨g, 0, none⟩) n cap) Q) ∧ Hid (Below w.heap.size w wr)) (fun _ i _ => 32 - (intOf i).toNat)
        case atStart => exact ⟨0, 0, F, false, rfl, rfl, by omega, rfl, by rfl, by show _ = _; rw [HFL.out], by show _ = _; simp, HO1, HB1⟩
        case round =>
          obtain ⟨k, m, Q, tb, rfl, rfl, hk, HM, HT, HQL, HQ, HO, HB⟩ := hrel
          by_cases h32 : k < 32
          · by_cases hbit : M / 2 ^ k % 2 = 1
            · by_cases hin : t + k < 8 * n
              · obtain ⟨j, hj⟩ : ∃ j, j = (t + k) / 8 := ⟨_, rfl⟩
                obtain ⟨r, hr⟩ : ∃ r, r = (t + k) % 8 := ⟨_, rfl⟩
                have hr8 : r < 8 := by omega
                have hjn : j < n := by omega
                have HJR : Hid (t + k = 8 * j + r) := by show _ = _; omega
                have hjq : j < Q.length := by rw [HQL.out]; exact hjn
                have k1 : (k : Int) < 32 := by omega
                have k0 : (0 : Int) ≤ (k : Int) := by omega
                have k2 : (k : Int) ≤ 32 := by omega
                have hand : bits .and .u32 ((M : Int) / 2 ^ k) 1 = 1 := (and_bit hm1 k).1 hbit
                have q2 : (t : Int) + (k : Int) < 8 * (n : Int) := by omega
                have e1 : ((t : Int) + (k : Int)) / 8 = (j : Int) := by omega
                have e2 : ((t : Int) + (k : Int)) % 8 = (r : Int) := by omega
                have e3 : ((t : Int) + (k : Int)).tdiv 8 = (j : Int) := by rw [Int.tdiv_eq_ediv_of_nonneg (by omega)]; exact e1
                have e4 : ((t : Int) + (k : Int)).tmod 8 = (r : Int) := by rw [Int.tmod_eq_emod_of_nonneg (by omega)]; exact e2
                have h3 : (j : Int) < (n : Int) := by omega
                have h4 : (0 : Int) ≤ (j : Int) := by omega
                have r1 : (0 : Int) ≤ (r : Int) := by omega
                have r2 : (r : Int) ≤ 8 := by omega
                obtain ⟨x1, x2⟩ := HO.out.cell HQL.out.symm hjq
                obtain ⟨ty1, ty2⟩ := turnL_yes hbit (show k < 8 * n - t by omega) t
                have HT1 : Hid (turnL M (8 * n - t) (k + 1) ≠ 0) := ty1
                have HT2 : Hid (2 ^ t * turnL M (8 * n - t) (k + 1) = 2 ^ t * turnL M (8 * n - t) k ^^^ 2 ^ (t + k)) := ty2
                have hc := UInt8.toNat_lt Q[j]
                have HSET : Hid (leL (Q.set j (UInt8.ofNat (Q[j].toNat ^^^ 2 ^ r))) = leL Q ^^^ 2 ^ (8 * j + r)) := leL_set Q j r hjq hr8
                clear hbit hin ty1 ty2 hj hr
                generalize Q[j].toNat = c at *
                have hx := xor_bit hc hr8
                generalize UInt8.ofNat (c ^^^ 2 ^ r) = z at *
                obtain ⟨o2, g2⟩ := HO.out.writeN HQL.out.symm j z
                have HO2 : Hid (OwnB w.heap.size (wr.setCell ⟨g, j, none⟩ (.int .u8 (z.toNat : Int))) (.slice (some ⟨g, 0, none⟩) n cap) (Q.set j z)) := o2
                have HB2 : Hid (Below w.heap.size w (wr.setCell ⟨g, j, none⟩ (.int .u8 (z.toNat : Int)))) := HB.out.grown g2 HB.out.size (fun k e => by cases e; exact hg)
                have HQL2 : Hid ((Q.set j z).length = n) := by show _ = _; rw [List.length_set]; exact HQL.out
                have HQ2 : Hid (leL (Q.set j z) = leL F ^^^ (2 ^ t * turnL M (8 * n - t) (k + 1))) := by show _ = _; rw [HSET.out, HQ.out, HM.out, HT2.out, HJR.out, Nat.xor_assoc]
                have HTT : Hid (true = decide (turnL M (8 * n - t) (k + 1) ≠ 0)) := by show _ = _; simp [HT1.out]
                clear o2 g2
                go_wp2
                go_roundw
                case rel => exact ⟨k + 1, _, Q.set j z, true, rfl, by go_num, by omega, rfl, HTT, HQL2, HQ2, HO2, HB2⟩
                case measure => simp [intOf]; omega
              · have HT2 : Hid (turnL M (8 * n - t) (k + 1) = turnL M (8 * n - t) k) := turnL_no (by omega)
                have k1 : (k : Int) < 32 := by omega
                have k0 : (0 : Int) ≤ (k : Int) := by omega
                have k2 : (k : Int) ≤ 32 := by omega
                have hand : bits .and .u32 ((M : Int) / 2 ^ k) 1 = 1 := (and_bit hm1 k).1 hbit
                have q2 : ¬ (t : Int) + (k : Int) < 8 * (n : Int) := by omega
                clear hbit hin
                go_wp2
                go_roundw
                case rel => exact ⟨k + 1, m, Q, tb, rfl, by go_num, by omega, by show _ = _; rw [HT2.out]; exact HM.out, HT, HQL, HQ, HO, HB⟩
                case measure => simp [intOf]; omega
            · have HT2 : Hid (turnL M (8 * n - t) (k + 1) = turnL M (8 * n - t) k) := turnL_no (fun h => hbit h.1)
              have k1 : (k : Int) < 32 := by omega
              have k0 : (0 : Int) ≤ (k : Int) := by omega
              have k2 : (k : Int) ≤ 32 := by omega
              have hand : bits .and .u32 ((M : Int) / 2 ^ k) 1 = 0 := (and_bit hm1 k).2 hbit
              clear hbit
              go_wp2
              go_roundw
              case rel => exact ⟨k + 1, m, Q, tb, rfl, by go_num, by omega, by show _ = _; rw [HT2.out]; exact HM.out, HT, HQL, HQ, HO, HB⟩
              case measure => simp [intOf]; omega
          · obtain rfl : k = 32 := by omega
            have HIQ : Hid (IsB wr (.slice (some ⟨g, 0, none⟩) n cap) Q) := HO.out.isB (by rw [HQL.out]; omega)
            have k1 : ¬ (32 : Int) < 32 := by omega
            by_cases hm : m = 0
            · have HTB : Hid (tb = false) := by show _ = _; rw [HT.out, hm]; rfl
              have HQF : Hid (Q = F) := leL_inj (by rw [HQL.out, HFL.out]) (by rw [HQ.out, hm]; simp)
              have HOQ : Hid (openL Q = (1, load, 0)) := by show _ = _; rw [HQF.out]; exact HOS.out
              clear hm
              rw [HTB.out]
              go_wp2_with fail
              refine (open_any _ Q _ HIQ.out).mono ?_
              rintro e w5 ⟨v5, rfl, ho5, hb5⟩
              rw [HOQ.out] at ho5 ⊢
              simp only at ho5 ⊢
              have HB5 : Hid (Below w.heap.size w w5) := HB.out.trans (hb5.mono HB.out.size)
              have cv0 := conv_txt (H1.out.below HB5.out)
              have cv1 := conv_txt (ho5.isB hl1)
              have qt : ((txt load).toList == (txt load).toList) = true := by simp
              clear ho5 hb5
              go_wp2_with (go_at_call 11; refine (awake_any _).mono ?_; rintro e w6 ⟨rfl, hb6⟩)
              go_ret
              exact ⟨rfl, HB5.out.trans (hb6.mono HB5.out.size)⟩
            · have HTB : Hid (tb = true) := by show _ = _; rw [HT.out]; simp [hm]
              have hlt := turnL_lt M (8 * n - t) 32
              rw [← HM.out] at hlt
              have HOQ : Hid (openL Q = (0, [], 2) ∨ openL Q = (0, [], 9)) := HBU.out Q m t HQL.out HQ.out hlt hm (Nat.le_of_lt HTN.out)
              clear hm hlt
              rw [HTB.out]
              go_wp2_with fail
              refine (open_any _ Q _ HIQ.out).mono ?_
              rintro e w5 ⟨v5, rfl, ho5, hb5⟩
              have HB5 : Hid (Below w.heap.size w w5) := HB.out.trans (hb5.mono HB.out.size)
              rcases HOQ.out with hoq | hoq
              all_goals (
                rw [hoq] at ho5 ⊢
                simp only at ho5 ⊢
                obtain ⟨a5, c5, rfl⟩ := ho5.form
                simp only [List.length_nil]
                clear ho5 hb5 hoq
                go_wp2_with (go_at_call 11; refine (awake_any _).mono ?_; rintro e w6 ⟨rfl, hb6⟩)
                go_ret
                exact ⟨rfl, HB5.out.trans (hb6.mono HB5.out.size)⟩)
  · have HS : Hid (sealL 1 load = ([], 3)) := sealL_long load hl
    have q1 : (65536 : Int) < (load.length : Int) := by omega
    go_enter Try.func8, Try.ntmps8
    go_wp2_with fail
    refine (seal_any 1 _ load _ H1.out).mono ?_
    rintro e w1 ⟨v1, rfl, ho1, hb1⟩
    rw [HS.out] at ho1 ⊢
    simp only at ho1 ⊢
    have HB1 : Hid (Below w.heap.size w w1) := hb1
    clear ho1 hb1
    go_wp2_with (go_at_call 11; refine (awake_any _).mono ?_; rintro e w5 ⟨rfl, hb5⟩)
    go_ret
    exact ⟨rfl, HB1.out.trans (hb5.mono HB1.out.size)⟩

end Go.Proofs.Ytcdnppiigejjgaa
