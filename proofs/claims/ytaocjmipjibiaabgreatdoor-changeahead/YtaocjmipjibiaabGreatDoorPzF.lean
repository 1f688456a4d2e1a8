/- ChangeAhead of package topiarylaw05 is proved at this commit: for every input (a change, any) the call returns true and the arguments read as they did. The listed variables of the library start as the program's text lays them: the card ties them to this pruned copy of the project. No other condition. -/
import Derived.Test.YtaocjmipjibiaabGreatDoorBaseI
import Derived.Test.YtaocjmipjibiaabGreatDoorBaseG
import Derived.Test.YtaocjmipjibiaabGreatDoorBaseD
import Derived.Test.YtaocjmipjibiaabGreatDoorTie
import Derived.Test.YtaocjmipjibiaabGreatDoorCards
import Derived.SevenTiedAt
import Derived.Test.YtaocjmipjibiaabGreatDoorChNm
import Derived.Test.YtaocjmipjibiaabGreatDoorChRc
import Derived.Test.YtaocjmipjibiaabGreatDoorChWk
namespace Go.Proofs.YtaocjmipjibiaabGreatDoor
open Go.RowKit
set_option linter.unusedVariables false
set_option linter.unusedSimpArgs false

theorem namesL_len (c : Ch) : (S.sortL (namesL c)).length ≤ 3 := by
  have h1 : (namesL c).length ≤ 3 := by unfold namesL; exact List.length_filter_le _ _
  have h2 := S.sortL_length (namesL c) (namesL c).length (Nat.le_refl _)
  rw [List.take_length] at h2
  omega
theorem root_right {c r : Int} (h : rootB c r = true) (h2 : rightB c r = true) : False := by
  simp only [rootB, rightB, decide_eq_true_eq] at h h2
  omega
theorem ahead_less {c r c2 r2 : Int} (h : aheadB c r c2 r2 = true) : lessS c r c2 r2 = true := by
  unfold aheadB at h
  rw [Bool.and_eq_true] at h
  exact h.2
/-- Each stamp that a right change names is ahead of its own. -/
theorem names_ahead (c : Ch) (h : checkCh c = 0) (x : Int × Int) (hx : x ∈ S.sortL (namesL c)) : lessS x.1 x.2 c.ac c.ar = true := by
  obtain ⟨_, _, _, _, hn, hp, _, _⟩ := checkCh_ok c h
  have hm : x ∈ namesL c := by
    have := (S.sortL_ups (namesL c) _ (Nat.le_refl _)).2 x
    rw [List.take_length] at this
    exact this.1 hx
  unfold namesL at hm
  rw [List.mem_filter] at hm
  obtain ⟨hm, hb⟩ := hm
  unfold namB2 at hb
  rw [Bool.and_eq_true] at hb
  obtain ⟨hr, hne⟩ := hb
  simp only [List.mem_cons, List.not_mem_nil, or_false] at hm
  rcases hm with rfl | rfl | rfl
  · unfold nodeR at hn
    split at hn
    · rw [hn] at hne; cases hne
    · split at hn
      · exact ahead_less hn
      · rw [Bool.or_eq_true] at hn
        rcases hn with hn | hn
        · exact (root_right hn hr).elim
        · exact ahead_less hn
  · unfold placeR at hp
    split at hp
    · rw [Bool.and_eq_true, Bool.and_eq_true, Bool.and_eq_true] at hp
      exact hp.1.2.1
    · rw [Bool.and_eq_true] at hp
      exact (root_right hp.1 hr).elim
  · unfold placeR at hp
    split at hp
    · rw [Bool.and_eq_true] at hp
      have hp2 := hp.2
      rw [Bool.or_eq_true] at hp2
      rcases hp2 with hn | hn
      · exact (root_right hn hr).elim
      · exact ahead_less hn
    · rw [Bool.and_eq_true] at hp
      exact (root_right hp.2 hr).elim
theorem names_up (c : Ch) (k : Nat) (h : k < (S.sortL (namesL c)).length) (h2 : k - 1 < (S.sortL (namesL c)).length) (hk : 0 < k) : lessS (S.sortL (namesL c))[k - 1].1 (S.sortL (namesL c))[k - 1].2 (S.sortL (namesL c))[k].1 (S.sortL (namesL c))[k].2 = true := by
  have hu := (S.sortL_ups (namesL c) _ (Nat.le_refl _)).1
  rw [List.take_length] at hu
  exact (S.lessS_ltP _ _).2 (List.pairwise_iff_getElem.1 hu (k - 1) k h2 h (by omega))

set_option maxRecDepth 100000 in
set_option maxHeartbeats 16000000 in
theorem changeAhead_walk (ac ar sq : Int) (dv : Value) (kd nc nr pc pr fc fr : Int) (nm vl : ByteArray) (ds : List Int) (w : World) (h1 : IsI w dv ds) (hnm : nm.size ≤ 281474976710656) (he : Env w) :
    Calls Tryz.prog 4 #[.agg #[.int .i64 ac, .int .i64 ar, .int .i64 sq, dv, .int .i64 kd, .int .i64 nc, .int .i64 nr, .int .i64 pc, .int .i64 pr, .int .i64 fc, .int .i64 fr, .string nm, .string vl]] w fun e w' => e = .returned (.bool true) ∧ Below w.heap.size w w' := by
  obtain ⟨a1, c1, e1⟩ := h1.form
  subst e1
  have K0 := KeptC.start w [.int .i64 ac, .int .i64 ar, .int .i64 sq, .slice a1 ds.length c1, .int .i64 kd, .int .i64 nc, .int .i64 nr, .int .i64 pc, .int .i64 pr, .int .i64 fc, .int .i64 fr, .string nm, .string vl] 26
  have H1 : Hid (IsI w (.slice a1 ds.length c1) ds) := h1
  have HEnv : Hid (Env w) := he
  obtain ⟨NL, eNL⟩ : ∃ l, l = S.sortL (namesL ⟨ac, ar, sq, ds, kd, nc, nr, pc, pr, fc, fr, nm, vl⟩) := ⟨_, rfl⟩
  obtain ⟨ck, eck⟩ : ∃ k : Int, k = checkCh ⟨ac, ar, sq, ds, kd, nc, nr, pc, pr, fc, fr, nm, vl⟩ := ⟨_, rfl⟩
  have hNL : NL.length ≤ 3 := by rw [eNL]; exact namesL_len _
  have HAH : Hid (ck = 0 → ∀ x ∈ NL, lessS x.1 x.2 ac ar = true) := fun h x hx => names_ahead ⟨ac, ar, sq, ds, kd, nc, nr, pc, pr, fc, fr, nm, vl⟩ (eck ▸ h) x (eNL ▸ hx)
  have HUP : Hid (∀ k (h : k < NL.length) (h2 : k - 1 < NL.length), 0 < k → lessS NL[k - 1].1 NL[k - 1].2 NL[k].1 NL[k].2 = true) := by
    subst eNL
    exact fun k h h2 hk => names_up ⟨ac, ar, sq, ds, kd, nc, nr, pc, pr, fc, fr, nm, vl⟩ k h h2 hk
  have HNA : Hid (∀ W, Calls Tryz.prog 9 #[.agg #[.int .i64 ac, .int .i64 ar, .int .i64 sq, .slice a1 ds.length c1, .int .i64 kd, .int .i64 nc, .int .i64 nr, .int .i64 pc, .int .i64 pr, .int .i64 fc, .int .i64 fr, .string nm, .string vl]] W fun e w' => ∃ v', e = .returned v' ∧ S.OwnS W.heap.size w' v' NL ∧ Below W.heap.size W w') := fun W => by rw [eNL]; exact names_any ac ar sq (.slice a1 ds.length c1) kd nc nr pc pr fc fr nm vl ds W
  have HCK : Hid (∀ W, IsI W (.slice a1 ds.length c1) ds → Calls Tryz.prog 10 #[.agg #[.int .i64 ac, .int .i64 ar, .int .i64 sq, .slice a1 ds.length c1, .int .i64 kd, .int .i64 nc, .int .i64 nr, .int .i64 pc, .int .i64 pr, .int .i64 fc, .int .i64 fr, .string nm, .string vl]] W fun e w' => e = .returned (.int .i64 ck) ∧ Below W.heap.size W w') := fun W i => by rw [eck]; exact checkCh_any ac ar sq (.slice a1 ds.length c1) kd nc nr pc pr fc fr nm vl ds hnm W i
  have HRC : Hid (∀ W, IsI W (.slice a1 ds.length c1) ds → Calls Tryz.prog 11 #[.agg #[.int .i64 ac, .int .i64 ar, .int .i64 sq, .slice a1 ds.length c1, .int .i64 kd, .int .i64 nc, .int .i64 nr, .int .i64 pc, .int .i64 pr, .int .i64 fc, .int .i64 fr, .string nm, .string vl]] W fun e w' => e = .returned (.int .i64 ck) ∧ Below W.heap.size W w') := fun W i => by rw [eck]; exact refCheckCh_any ac ar sq (.slice a1 ds.length c1) kd nc nr pc pr fc fr nm vl ds hnm W i
  clear h1 he eNL eck
  go_enter Tryz.func4, Tryz.ntmps4
  go_wp2_with fail
  refine (HNA.out _).mono ?_
  rintro e w1 ⟨v1, rfl, ho1, hb1⟩
  have K1 := K0.step hb1
  have hIS := ho1.isS (by omega)
  obtain ⟨an, cn, rfl, hcn, hln, hrw⟩ := hIS
  have HRW1 : Hid (NL = [] ∨ ∃ b o, an = some ⟨b, o, none⟩ ∧ S.RowAt w1 b o NL) := hrw
  obtain ⟨k_0, k_1, k_2, k_3, k_4, k_5, k_6, k_7, k_8, k_9, k_10, k_11, k_12⟩ := K1.all
  clear ho1 hb1 hrw
  go_wp2_with fail
  refine (HCK.out _ (H1.out.below K1.2.2)).mono ?_
  rintro e w2 ⟨rfl, hb2⟩
  have K2 := K1.step hb2
  have HRW2 : Hid (NL = [] ∨ ∃ b o, an = some ⟨b, o, none⟩ ∧ S.RowAt w2 b o NL) := HRW1.out.imp id fun ⟨b, o, e, h⟩ => ⟨b, o, e, h.below hb2⟩
  clear k_0 k_1 k_2 k_3 k_4 k_5 k_6 k_7 k_8 k_9 k_10 k_11 k_12 hb2 HRW1
  by_cases hc : ck = 0
  · have HA2 : Hid (∀ x ∈ NL, lessS x.1 x.2 ac ar = true) := HAH.out hc
    subst hc
    have HK0 : Hid (KeptC w w.heap.size [.int .i64 ac, .int .i64 ar, .int .i64 sq, .slice a1 ds.length c1, .int .i64 kd, .int .i64 nc, .int .i64 nr, .int .i64 pc, .int .i64 pr, .int .i64 fc, .int .i64 fr, .string nm, .string vl] w2) := K2
    clear K0 K1 K2
    go_wp2
    go_loopw [4] (fun iv wr => ∃ k : Nat, k ≤ NL.length ∧ iv = .int .i64 (k : Int) ∧ Hid (KeptC w w.heap.size [.int .i64 ac, .int .i64 ar, .int .i64 sq, .slice a1 ds.length c1, .int .i64 kd, .int .i64 nc, .int .i64 nr, .int .i64 pc, .int .i64 pr, .int .i64 fc, .int .i64 fr, .string nm, .string vl] wr) ∧ Hid (NL = [] ∨ ∃ b o, an = some ⟨b, o, none⟩ ∧ S.RowAt wr b o NL)) (fun iv _ => NL.length - (intOf iv).toNat)
    case atStart => exact ⟨0, Nat.zero_le _, rfl, HK0, HRW2⟩
    case round =>
      obtain ⟨k, hk, rfl, HK, HRW⟩ := hrel
      by_cases hlt : k < NL.length
      · obtain ⟨b1, o1, rfl, hrow⟩ := HRW.out.resolve_left (by intro e; subst e; simp at hlt)
        have k1 : (k : Int) < (NL.length : Int) := by omega
        have k0 : (0 : Int) ≤ (k : Int) := by omega
        have HL1 : Hid (∀ W, Calls Tryz.prog 12 #[.agg #[.int .i64 NL[k].1, .int .i64 NL[k].2], .agg #[.int .i64 ac, .int .i64 ar]] W fun e w' => e = .returned (.bool true) ∧ Below W.heap.size W w') := fun W => by
          have := S.refLess_bel NL[k].1 NL[k].2 ac ar W
          rw [HA2.out _ (List.getElem_mem hlt)] at this
          exact this
        by_cases hk0 : k = 0
        · have q0 : ¬ (0 : Int) < (k : Int) := by omega
          have q0n : ¬ 0 < k := by omega
          have q0d : decide (0 < k) = false := by simp [q0n]
          have q0e : decide ((0 : Int) < (k : Int)) = false := by simp [q0n]
          clear hk0
          go_wp2_with fail
          refine wp_region_held_drew (S := fun W' => KeptC w w.heap.size [.int .i64 ac, .int .i64 ar, .int .i64 sq, .slice a1 ds.length c1, .int .i64 kd, .int .i64 nc, .int .i64 nr, .int .i64 pc, .int .i64 pr, .int .i64 fc, .int .i64 fr, .string nm, .string vl] W' ∧ S.RowAt W' b1 o1 NL) (by kernel_rfl) ⟨HK.out.drew, hrow⟩ (fun hHeld => ?_)
          refine wpAnyH_take (i := 0) (oi := ⟨some 22, _, _, _, _, _⟩) (v := ?va00) rfl (by kernel_rfl) (by kernel_rfl) (by kernel_rfl) (fun _ _ _ h => h) (Or.inl ⟨by rfl, ?hya00⟩) hHeld ?resta00
          case hya00 => (intro w hSw; (try dsimp only at hSw); have t0 := hSw.1.1 0 _ rfl; have t1 := hSw.1.1 1 _ rfl; obtain ⟨g1, g2⟩ := hSw.2 k hlt; go_simp; try with_reducible rfl)
          simp only [Act.put, List.setIfInBounds_toArray, List.set_cons_zero, List.set_cons_succ]
          refine wpAnyH_take (i := 1) (oi := ⟨some 23, _, _, _, _, _⟩) (v := ?va01) rfl (by kernel_rfl) (by kernel_rfl) (by kernel_rfl) (fun _ _ _ h => h) (Or.inl ⟨by rfl, ?hya01⟩) hHeld ?resta01
          case hya01 => (intro w hSw; (try dsimp only at hSw); have t0 := hSw.1.1 0 _ rfl; have t1 := hSw.1.1 1 _ rfl; obtain ⟨g1, g2⟩ := hSw.2 k hlt; go_simp; try with_reducible rfl)
          simp only [Act.put, List.setIfInBounds_toArray, List.set_cons_zero, List.set_cons_succ]
          refine wpAnyH_take (i := 2) (oi := ⟨some 24, _, _, _, _, _⟩) (v := ?va02) rfl (by kernel_rfl) (by kernel_rfl) (by kernel_rfl) (fun _ _ _ h => h) (Or.inl ⟨by rfl, ?hya02⟩) hHeld ?resta02
          case hya02 => (intro w hSw; (try dsimp only at hSw); have t0 := hSw.1.1 0 _ rfl; have t1 := hSw.1.1 1 _ rfl; obtain ⟨g1, g2⟩ := hSw.2 k hlt; go_simp; try with_reducible rfl)
          simp only [Act.put, List.setIfInBounds_toArray, List.set_cons_zero, List.set_cons_succ]
          refine wpAnyH_take (i := 3) (oi := ⟨some 25, _, _, _, _, _⟩) (v := ?va03) rfl (by kernel_rfl) (by kernel_rfl) (by kernel_rfl) (fun _ _ _ h => h) (Or.inl ⟨by rfl, ?hya03⟩) hHeld ?resta03
          case hya03 => (intro w hSw; (try dsimp only at hSw); have t0 := hSw.1.1 0 _ rfl; have t1 := hSw.1.1 1 _ rfl; obtain ⟨g1, g2⟩ := hSw.2 k hlt; go_simp; try with_reducible rfl)
          simp only [Act.put, List.setIfInBounds_toArray, List.set_cons_zero, List.set_cons_succ]
          refine wpAnyH_take (i := 4) (oi := ⟨some 26, _, _, _, _, _⟩) (v := ?va04) rfl (by kernel_rfl) (by kernel_rfl) (by kernel_rfl) (fun _ _ _ h => h) (Or.inl ⟨by rfl, ?hya04⟩) hHeld ?resta04
          case hya04 => (intro w hSw; (try dsimp only at hSw); have t0 := hSw.1.1 0 _ rfl; have t1 := hSw.1.1 1 _ rfl; obtain ⟨g1, g2⟩ := hSw.2 k hlt; go_simp; try with_reducible rfl)
          simp only [Act.put, List.setIfInBounds_toArray, List.set_cons_zero, List.set_cons_succ]
          refine wpAnyH_take (i := 5) (oi := ⟨some 27, _, _, _, _, _⟩) (v := ?va05) rfl (by kernel_rfl) (by kernel_rfl) (by kernel_rfl) (fun _ _ _ h => h) (Or.inl ⟨by rfl, ?hya05⟩) hHeld ?resta05
          case hya05 => (intro w hSw; (try dsimp only at hSw); have t0 := hSw.1.1 0 _ rfl; have t1 := hSw.1.1 1 _ rfl; obtain ⟨g1, g2⟩ := hSw.2 k hlt; go_simp; try with_reducible rfl)
          simp only [Act.put, List.setIfInBounds_toArray, List.set_cons_zero, List.set_cons_succ]
          refine wpAnyH_ready (rs := [6]) (by kernel_rfl) (by simp) ?_
          refine AllReadyH.cons (o := ⟨some 28, _, _, _, _, _⟩) rfl (fun K hK => ?_) AllReadyH.nil
          go_simp
          refine (HL1.out _).mono ?_
          rintro e w' ⟨rfl, hb⟩
          (try go_wp2_with fail)
          refine hK.out _ _ (⟨hHeld.1.step hb, hHeld.2.below hb⟩) (fun hHeld2 => ?_)
          clear hK K hHeld
          have hHeld := hHeld2
          clear hHeld2
          (try simp only [Act.put, List.setIfInBounds_toArray, List.set_cons_zero, List.set_cons_succ])
          refine wpAnyH_take (i := 7) (oi := ⟨some 29, _, _, _, _, _⟩) (v := ?va07) rfl (by kernel_rfl) (by kernel_rfl) (by kernel_rfl) (fun _ _ _ h => h) (Or.inl ⟨by rfl, ?hya07⟩) hHeld ?resta07
          case hya07 => (intro w hSw; (try dsimp only at hSw); have t0 := hSw.1.1 0 _ rfl; have t1 := hSw.1.1 1 _ rfl; obtain ⟨g1, g2⟩ := hSw.2 k hlt; go_simp; try with_reducible rfl)
          simp only [Act.put, List.setIfInBounds_toArray, List.set_cons_zero, List.set_cons_succ]
          refine wpAnyH_take (i := 8) (oi := ⟨some 30, _, _, _, _, _⟩) (v := ?va08) rfl (by kernel_rfl) (by kernel_rfl) (by kernel_rfl) (fun _ _ _ h => h) (Or.inl ⟨by rfl, ?hya08⟩) hHeld ?resta08
          case hya08 => (intro w hSw; (try dsimp only at hSw); have t0 := hSw.1.1 0 _ rfl; have t1 := hSw.1.1 1 _ rfl; obtain ⟨g1, g2⟩ := hSw.2 k hlt; go_simp; try with_reducible rfl)
          simp only [Act.put, List.setIfInBounds_toArray, List.set_cons_zero, List.set_cons_succ]
          refine wpAnyH_take (i := 9) (oi := ⟨some 31, _, _, _, _, _⟩) (v := ?va09) rfl (by kernel_rfl) (by kernel_rfl) (by kernel_rfl) (fun _ _ _ h => h) (Or.inl ⟨by rfl, ?hya09⟩) hHeld ?resta09
          case hya09 => (intro w hSw; (try dsimp only at hSw); have t0 := hSw.1.1 0 _ rfl; have t1 := hSw.1.1 1 _ rfl; obtain ⟨g1, g2⟩ := hSw.2 k hlt; go_simp; try with_reducible rfl)
          simp only [Act.put, List.setIfInBounds_toArray, List.set_cons_zero, List.set_cons_succ]
          refine wpAnyH_take (i := 10) (oi := ⟨some 32, _, _, _, _, _⟩) (v := ?va010) rfl (by kernel_rfl) (by kernel_rfl) (by kernel_rfl) (fun _ _ _ h => h) (Or.inl ⟨by rfl, ?hya010⟩) hHeld ?resta010
          case hya010 => (intro w hSw; (try dsimp only at hSw); have t0 := hSw.1.1 0 _ rfl; have t1 := hSw.1.1 1 _ rfl; obtain ⟨g1, g2⟩ := hSw.2 k hlt; go_simp; try with_reducible rfl)
          simp only [Act.put, List.setIfInBounds_toArray, List.set_cons_zero, List.set_cons_succ]
          refine wpAnyH_take (i := 11) (oi := ⟨some 33, _, _, _, _, _⟩) (v := ?va011) rfl (by kernel_rfl) (by kernel_rfl) (by kernel_rfl) (fun _ _ _ h => h) (Or.inl ⟨by rfl, ?hya011⟩) hHeld ?resta011
          case hya011 => (intro w hSw; (try dsimp only at hSw); have t0 := hSw.1.1 0 _ rfl; have t1 := hSw.1.1 1 _ rfl; obtain ⟨g1, g2⟩ := hSw.2 k hlt; go_simp; try with_reducible rfl)
          simp only [Act.put, List.setIfInBounds_toArray, List.set_cons_zero, List.set_cons_succ]
          refine wpAnyH_take (i := 12) (oi := ⟨some 34, _, _, _, _, _⟩) (v := undef) rfl (by kernel_rfl) (by kernel_rfl) (by kernel_rfl) (fun _ _ _ h => h) (Or.inr ⟨by rfl, rfl⟩) hHeld ?_
          simp only [Act.put, List.setIfInBounds_toArray, List.set_cons_zero, List.set_cons_succ]
          refine wpAnyH_take (i := 13) (oi := ⟨some 35, _, _, _, _, _⟩) (v := undef) rfl (by kernel_rfl) (by kernel_rfl) (by kernel_rfl) (fun _ _ _ h => h) (Or.inr ⟨by rfl, rfl⟩) hHeld ?_
          simp only [Act.put, List.setIfInBounds_toArray, List.set_cons_zero, List.set_cons_succ]
          refine wpAnyH_take (i := 14) (oi := ⟨some 36, _, _, _, _, _⟩) (v := undef) rfl (by kernel_rfl) (by kernel_rfl) (by kernel_rfl) (fun _ _ _ h => h) (Or.inr ⟨by rfl, rfl⟩) hHeld ?_
          simp only [Act.put, List.setIfInBounds_toArray, List.set_cons_zero, List.set_cons_succ]
          refine wpAnyH_take (i := 15) (oi := ⟨some 37, _, _, _, _, _⟩) (v := undef) rfl (by kernel_rfl) (by kernel_rfl) (by kernel_rfl) (fun _ _ _ h => h) (Or.inr ⟨by rfl, rfl⟩) hHeld ?_
          simp only [Act.put, List.setIfInBounds_toArray, List.set_cons_zero, List.set_cons_succ]
          refine wpAnyH_take (i := 16) (oi := ⟨some 38, _, _, _, _, _⟩) (v := undef) rfl (by kernel_rfl) (by kernel_rfl) (by kernel_rfl) (fun _ _ _ h => h) (Or.inr ⟨by rfl, rfl⟩) hHeld ?_
          simp only [Act.put, List.setIfInBounds_toArray, List.set_cons_zero, List.set_cons_succ]
          refine wpAnyH_take (i := 17) (oi := ⟨some 39, _, _, _, _, _⟩) (v := undef) rfl (by kernel_rfl) (by kernel_rfl) (by kernel_rfl) (fun _ _ _ h => h) (Or.inr ⟨by rfl, rfl⟩) hHeld ?_
          simp only [Act.put, List.setIfInBounds_toArray, List.set_cons_zero, List.set_cons_succ]
          refine wpAnyH_take (i := 18) (oi := ⟨some 40, _, _, _, _, _⟩) (v := undef) rfl (by kernel_rfl) (by kernel_rfl) (by kernel_rfl) (fun _ _ _ h => h) (Or.inr ⟨by rfl, rfl⟩) hHeld ?_
          simp only [Act.put, List.setIfInBounds_toArray, List.set_cons_zero, List.set_cons_succ]
          refine wpAnyH_take (i := 19) (oi := ⟨some 41, _, _, _, _, _⟩) (v := undef) rfl (by kernel_rfl) (by kernel_rfl) (by kernel_rfl) (fun _ _ _ h => h) (Or.inr ⟨by rfl, rfl⟩) hHeld ?_
          simp only [Act.put, List.setIfInBounds_toArray, List.set_cons_zero, List.set_cons_succ]
          refine wpAnyH_take (i := 20) (oi := ⟨some 42, _, _, _, _, _⟩) (v := undef) rfl (by kernel_rfl) (by kernel_rfl) (by kernel_rfl) (fun _ _ _ h => h) (Or.inr ⟨by rfl, rfl⟩) hHeld ?_
          simp only [Act.put, List.setIfInBounds_toArray, List.set_cons_zero, List.set_cons_succ]
          refine wpAnyH_take (i := 21) (oi := ⟨some 43, _, _, _, _, _⟩) (v := undef) rfl (by kernel_rfl) (by kernel_rfl) (by kernel_rfl) (fun _ _ _ h => h) (Or.inr ⟨by rfl, rfl⟩) hHeld ?_
          simp only [Act.put, List.setIfInBounds_toArray, List.set_cons_zero, List.set_cons_succ]
          refine wpAnyH_take (i := 22) (oi := ⟨some 44, _, _, _, _, _⟩) (v := undef) rfl (by kernel_rfl) (by kernel_rfl) (by kernel_rfl) (fun _ _ _ h => h) (Or.inr ⟨by rfl, rfl⟩) hHeld ?_
          simp only [Act.put, List.setIfInBounds_toArray, List.set_cons_zero, List.set_cons_succ]
          refine wpAnyH_take (i := 23) (oi := ⟨some 45, _, _, _, _, _⟩) (v := ?va023) rfl (by kernel_rfl) (by kernel_rfl) (by kernel_rfl) (fun _ _ _ h => h) (Or.inl ⟨by rfl, ?hya023⟩) hHeld ?resta023
          case hya023 => (intro w hSw; (try dsimp only at hSw); have t0 := hSw.1.1 0 _ rfl; have t1 := hSw.1.1 1 _ rfl; obtain ⟨g1, g2⟩ := hSw.2 k hlt; go_simp; try with_reducible rfl)
          simp only [Act.put, List.setIfInBounds_toArray, List.set_cons_zero, List.set_cons_succ]
          refine wpAnyH_take (i := 24) (oi := ⟨some 46, _, _, _, _, _⟩) (v := ?va024) rfl (by kernel_rfl) (by kernel_rfl) (by kernel_rfl) (fun _ _ _ h => h) (Or.inl ⟨by rfl, ?hya024⟩) hHeld ?resta024
          case hya024 => (intro w hSw; (try dsimp only at hSw); have t0 := hSw.1.1 0 _ rfl; have t1 := hSw.1.1 1 _ rfl; obtain ⟨g1, g2⟩ := hSw.2 k hlt; go_simp; try with_reducible rfl)
          simp only [Act.put, List.setIfInBounds_toArray, List.set_cons_zero, List.set_cons_succ]
          refine wpAnyH_done (by kernel_rfl) ?_ _
          have HK2 : Hid (KeptC w w.heap.size [.int .i64 ac, .int .i64 ar, .int .i64 sq, .slice a1 ds.length c1, .int .i64 kd, .int .i64 nc, .int .i64 nr, .int .i64 pc, .int .i64 pr, .int .i64 fc, .int .i64 fr, .string nm, .string vl] _) := hHeld.1
          have HRW2 : Hid (NL = [] ∨ ∃ b o, (some (⟨b1, o1, none⟩ : Addr)) = some ⟨b, o, none⟩ ∧ S.RowAt _ b o NL) := .inr ⟨b1, o1, rfl, hHeld.2⟩
          clear hHeld
          go_wp2
          go_roundw
          case rel => exact ⟨k + 1, by omega, by go_num, HK2, HRW2⟩
          case measure => simp [intOf]; omega
        · have q0 : (0 : Int) < (k : Int) := by omega
          have q0n : 0 < k := by omega
          have q0d : decide (0 < k) = true := by simp [q0n]
          have q0e : decide ((0 : Int) < (k : Int)) = true := by simp [q0n]
          have hlt2 : k - 1 < NL.length := by omega
          have kk0 : (0 : Int) ≤ (k : Int) - 1 := by omega
          have kk1 : (k : Int) - 1 < (NL.length : Int) := by omega
          have kk2 : ((k : Int) - 1).toNat = k - 1 := by omega
          have kk3 : (1 : Int) ≤ (k : Int) := by omega
          have kw : IntKind.i64.wrap ((k : Int) - 1) = (k : Int) - 1 := by rw [IntKind.wrap_i64]; omega
          have HL2 : Hid (∀ W, Calls Tryz.prog 12 #[.agg #[.int .i64 NL[k - 1].1, .int .i64 NL[k - 1].2], .agg #[.int .i64 NL[k].1, .int .i64 NL[k].2]] W fun e w' => e = .returned (.bool true) ∧ Below W.heap.size W w') := fun W => by
            have := S.refLess_bel NL[k - 1].1 NL[k - 1].2 NL[k].1 NL[k].2 W
            rw [HUP.out k hlt hlt2 (by omega)] at this
            exact this
          clear hk0
          go_wp2_with fail
          refine wp_region_held_drew (S := fun W' => KeptC w w.heap.size [.int .i64 ac, .int .i64 ar, .int .i64 sq, .slice a1 ds.length c1, .int .i64 kd, .int .i64 nc, .int .i64 nr, .int .i64 pc, .int .i64 pr, .int .i64 fc, .int .i64 fr, .string nm, .string vl] W' ∧ S.RowAt W' b1 o1 NL) (by kernel_rfl) ⟨HK.out.drew, hrow⟩ (fun hHeld => ?_)
          refine wpAnyH_take (i := 0) (oi := ⟨some 22, _, _, _, _, _⟩) (v := ?va10) rfl (by kernel_rfl) (by kernel_rfl) (by kernel_rfl) (fun _ _ _ h => h) (Or.inl ⟨by rfl, ?hya10⟩) hHeld ?resta10
          case hya10 => (intro w hSw; (try dsimp only at hSw); have t0 := hSw.1.1 0 _ rfl; have t1 := hSw.1.1 1 _ rfl; obtain ⟨g1, g2⟩ := hSw.2 k hlt; obtain ⟨p1, p2⟩ := hSw.2 (k - 1) hlt2; go_simp; try with_reducible rfl)
          simp only [Act.put, List.setIfInBounds_toArray, List.set_cons_zero, List.set_cons_succ]
          refine wpAnyH_take (i := 1) (oi := ⟨some 23, _, _, _, _, _⟩) (v := ?va11) rfl (by kernel_rfl) (by kernel_rfl) (by kernel_rfl) (fun _ _ _ h => h) (Or.inl ⟨by rfl, ?hya11⟩) hHeld ?resta11
          case hya11 => (intro w hSw; (try dsimp only at hSw); have t0 := hSw.1.1 0 _ rfl; have t1 := hSw.1.1 1 _ rfl; obtain ⟨g1, g2⟩ := hSw.2 k hlt; obtain ⟨p1, p2⟩ := hSw.2 (k - 1) hlt2; go_simp; try with_reducible rfl)
          simp only [Act.put, List.setIfInBounds_toArray, List.set_cons_zero, List.set_cons_succ]
          refine wpAnyH_take (i := 2) (oi := ⟨some 24, _, _, _, _, _⟩) (v := ?va12) rfl (by kernel_rfl) (by kernel_rfl) (by kernel_rfl) (fun _ _ _ h => h) (Or.inl ⟨by rfl, ?hya12⟩) hHeld ?resta12
          case hya12 => (intro w hSw; (try dsimp only at hSw); have t0 := hSw.1.1 0 _ rfl; have t1 := hSw.1.1 1 _ rfl; obtain ⟨g1, g2⟩ := hSw.2 k hlt; obtain ⟨p1, p2⟩ := hSw.2 (k - 1) hlt2; go_simp; try with_reducible rfl)
          simp only [Act.put, List.setIfInBounds_toArray, List.set_cons_zero, List.set_cons_succ]
          refine wpAnyH_take (i := 3) (oi := ⟨some 25, _, _, _, _, _⟩) (v := ?va13) rfl (by kernel_rfl) (by kernel_rfl) (by kernel_rfl) (fun _ _ _ h => h) (Or.inl ⟨by rfl, ?hya13⟩) hHeld ?resta13
          case hya13 => (intro w hSw; (try dsimp only at hSw); have t0 := hSw.1.1 0 _ rfl; have t1 := hSw.1.1 1 _ rfl; obtain ⟨g1, g2⟩ := hSw.2 k hlt; obtain ⟨p1, p2⟩ := hSw.2 (k - 1) hlt2; go_simp; try with_reducible rfl)
          simp only [Act.put, List.setIfInBounds_toArray, List.set_cons_zero, List.set_cons_succ]
          refine wpAnyH_take (i := 4) (oi := ⟨some 26, _, _, _, _, _⟩) (v := ?va14) rfl (by kernel_rfl) (by kernel_rfl) (by kernel_rfl) (fun _ _ _ h => h) (Or.inl ⟨by rfl, ?hya14⟩) hHeld ?resta14
          case hya14 => (intro w hSw; (try dsimp only at hSw); have t0 := hSw.1.1 0 _ rfl; have t1 := hSw.1.1 1 _ rfl; obtain ⟨g1, g2⟩ := hSw.2 k hlt; obtain ⟨p1, p2⟩ := hSw.2 (k - 1) hlt2; go_simp; try with_reducible rfl)
          simp only [Act.put, List.setIfInBounds_toArray, List.set_cons_zero, List.set_cons_succ]
          refine wpAnyH_take (i := 5) (oi := ⟨some 27, _, _, _, _, _⟩) (v := ?va15) rfl (by kernel_rfl) (by kernel_rfl) (by kernel_rfl) (fun _ _ _ h => h) (Or.inl ⟨by rfl, ?hya15⟩) hHeld ?resta15
          case hya15 => (intro w hSw; (try dsimp only at hSw); have t0 := hSw.1.1 0 _ rfl; have t1 := hSw.1.1 1 _ rfl; obtain ⟨g1, g2⟩ := hSw.2 k hlt; obtain ⟨p1, p2⟩ := hSw.2 (k - 1) hlt2; go_simp; try with_reducible rfl)
          simp only [Act.put, List.setIfInBounds_toArray, List.set_cons_zero, List.set_cons_succ]
          refine wpAnyH_ready (rs := [6]) (by kernel_rfl) (by simp) ?_
          refine AllReadyH.cons (o := ⟨some 28, _, _, _, _, _⟩) rfl (fun K hK => ?_) AllReadyH.nil
          go_simp
          refine (HL1.out _).mono ?_
          rintro e w' ⟨rfl, hb⟩
          (try go_wp2_with fail)
          refine hK.out _ _ (⟨hHeld.1.step hb, hHeld.2.below hb⟩) (fun hHeld2 => ?_)
          clear hK K hHeld
          have hHeld := hHeld2
          clear hHeld2
          (try simp only [Act.put, List.setIfInBounds_toArray, List.set_cons_zero, List.set_cons_succ])
          refine wpAnyH_take (i := 7) (oi := ⟨some 29, _, _, _, _, _⟩) (v := ?va17) rfl (by kernel_rfl) (by kernel_rfl) (by kernel_rfl) (fun _ _ _ h => h) (Or.inl ⟨by rfl, ?hya17⟩) hHeld ?resta17
          case hya17 => (intro w hSw; (try dsimp only at hSw); have t0 := hSw.1.1 0 _ rfl; have t1 := hSw.1.1 1 _ rfl; obtain ⟨g1, g2⟩ := hSw.2 k hlt; obtain ⟨p1, p2⟩ := hSw.2 (k - 1) hlt2; go_simp; try with_reducible rfl)
          simp only [Act.put, List.setIfInBounds_toArray, List.set_cons_zero, List.set_cons_succ]
          refine wpAnyH_take (i := 8) (oi := ⟨some 30, _, _, _, _, _⟩) (v := ?va18) rfl (by kernel_rfl) (by kernel_rfl) (by kernel_rfl) (fun _ _ _ h => h) (Or.inl ⟨by rfl, ?hya18⟩) hHeld ?resta18
          case hya18 => (intro w hSw; (try dsimp only at hSw); have t0 := hSw.1.1 0 _ rfl; have t1 := hSw.1.1 1 _ rfl; obtain ⟨g1, g2⟩ := hSw.2 k hlt; obtain ⟨p1, p2⟩ := hSw.2 (k - 1) hlt2; go_simp; try with_reducible rfl)
          simp only [Act.put, List.setIfInBounds_toArray, List.set_cons_zero, List.set_cons_succ]
          refine wpAnyH_take (i := 9) (oi := ⟨some 31, _, _, _, _, _⟩) (v := ?va19) rfl (by kernel_rfl) (by kernel_rfl) (by kernel_rfl) (fun _ _ _ h => h) (Or.inl ⟨by rfl, ?hya19⟩) hHeld ?resta19
          case hya19 => (intro w hSw; (try dsimp only at hSw); have t0 := hSw.1.1 0 _ rfl; have t1 := hSw.1.1 1 _ rfl; obtain ⟨g1, g2⟩ := hSw.2 k hlt; obtain ⟨p1, p2⟩ := hSw.2 (k - 1) hlt2; go_simp; try with_reducible rfl)
          simp only [Act.put, List.setIfInBounds_toArray, List.set_cons_zero, List.set_cons_succ]
          refine wpAnyH_take (i := 10) (oi := ⟨some 32, _, _, _, _, _⟩) (v := ?va110) rfl (by kernel_rfl) (by kernel_rfl) (by kernel_rfl) (fun _ _ _ h => h) (Or.inl ⟨by rfl, ?hya110⟩) hHeld ?resta110
          case hya110 => (intro w hSw; (try dsimp only at hSw); have t0 := hSw.1.1 0 _ rfl; have t1 := hSw.1.1 1 _ rfl; obtain ⟨g1, g2⟩ := hSw.2 k hlt; obtain ⟨p1, p2⟩ := hSw.2 (k - 1) hlt2; go_simp; try with_reducible rfl)
          simp only [Act.put, List.setIfInBounds_toArray, List.set_cons_zero, List.set_cons_succ]
          refine wpAnyH_take (i := 11) (oi := ⟨some 33, _, _, _, _, _⟩) (v := ?va111) rfl (by kernel_rfl) (by kernel_rfl) (by kernel_rfl) (fun _ _ _ h => h) (Or.inl ⟨by rfl, ?hya111⟩) hHeld ?resta111
          case hya111 => (intro w hSw; (try dsimp only at hSw); have t0 := hSw.1.1 0 _ rfl; have t1 := hSw.1.1 1 _ rfl; obtain ⟨g1, g2⟩ := hSw.2 k hlt; obtain ⟨p1, p2⟩ := hSw.2 (k - 1) hlt2; go_simp; try with_reducible rfl)
          simp only [Act.put, List.setIfInBounds_toArray, List.set_cons_zero, List.set_cons_succ]
          refine wpAnyH_take (i := 12) (oi := ⟨some 34, _, _, _, _, _⟩) (v := ?va112) rfl (by kernel_rfl) (by kernel_rfl) (by kernel_rfl) (fun _ _ _ h => h) (Or.inl ⟨by rfl, ?hya112⟩) hHeld ?resta112
          case hya112 => (intro w hSw; (try dsimp only at hSw); have t0 := hSw.1.1 0 _ rfl; have t1 := hSw.1.1 1 _ rfl; obtain ⟨g1, g2⟩ := hSw.2 k hlt; obtain ⟨p1, p2⟩ := hSw.2 (k - 1) hlt2; go_simp; try with_reducible rfl)
          simp only [Act.put, List.setIfInBounds_toArray, List.set_cons_zero, List.set_cons_succ]
          refine wpAnyH_take (i := 13) (oi := ⟨some 35, _, _, _, _, _⟩) (v := ?va113) rfl (by kernel_rfl) (by kernel_rfl) (by kernel_rfl) (fun _ _ _ h => h) (Or.inl ⟨by rfl, ?hya113⟩) hHeld ?resta113
          case hya113 => (intro w hSw; (try dsimp only at hSw); have t0 := hSw.1.1 0 _ rfl; have t1 := hSw.1.1 1 _ rfl; obtain ⟨g1, g2⟩ := hSw.2 k hlt; obtain ⟨p1, p2⟩ := hSw.2 (k - 1) hlt2; go_simp; try with_reducible rfl)
          simp only [Act.put, List.setIfInBounds_toArray, List.set_cons_zero, List.set_cons_succ]
          refine wpAnyH_take (i := 14) (oi := ⟨some 36, _, _, _, _, _⟩) (v := ?va114) rfl (by kernel_rfl) (by kernel_rfl) (by kernel_rfl) (fun _ _ _ h => h) (Or.inl ⟨by rfl, ?hya114⟩) hHeld ?resta114
          case hya114 => (intro w hSw; (try dsimp only at hSw); have t0 := hSw.1.1 0 _ rfl; have t1 := hSw.1.1 1 _ rfl; obtain ⟨g1, g2⟩ := hSw.2 k hlt; obtain ⟨p1, p2⟩ := hSw.2 (k - 1) hlt2; go_simp; try with_reducible rfl)
          simp only [Act.put, List.setIfInBounds_toArray, List.set_cons_zero, List.set_cons_succ]
          refine wpAnyH_take (i := 15) (oi := ⟨some 37, _, _, _, _, _⟩) (v := ?va115) rfl (by kernel_rfl) (by kernel_rfl) (by kernel_rfl) (fun _ _ _ h => h) (Or.inl ⟨by rfl, ?hya115⟩) hHeld ?resta115
          case hya115 => (intro w hSw; (try dsimp only at hSw); have t0 := hSw.1.1 0 _ rfl; have t1 := hSw.1.1 1 _ rfl; obtain ⟨g1, g2⟩ := hSw.2 k hlt; obtain ⟨p1, p2⟩ := hSw.2 (k - 1) hlt2; go_simp; try with_reducible rfl)
          simp only [Act.put, List.setIfInBounds_toArray, List.set_cons_zero, List.set_cons_succ]
          refine wpAnyH_take (i := 16) (oi := ⟨some 38, _, _, _, _, _⟩) (v := ?va116) rfl (by kernel_rfl) (by kernel_rfl) (by kernel_rfl) (fun _ _ _ h => h) (Or.inl ⟨by rfl, ?hya116⟩) hHeld ?resta116
          case hya116 => (intro w hSw; (try dsimp only at hSw); have t0 := hSw.1.1 0 _ rfl; have t1 := hSw.1.1 1 _ rfl; obtain ⟨g1, g2⟩ := hSw.2 k hlt; obtain ⟨p1, p2⟩ := hSw.2 (k - 1) hlt2; go_simp; try with_reducible rfl)
          simp only [Act.put, List.setIfInBounds_toArray, List.set_cons_zero, List.set_cons_succ]
          refine wpAnyH_take (i := 17) (oi := ⟨some 39, _, _, _, _, _⟩) (v := ?va117) rfl (by kernel_rfl) (by kernel_rfl) (by kernel_rfl) (fun _ _ _ h => h) (Or.inl ⟨by rfl, ?hya117⟩) hHeld ?resta117
          case hya117 => (intro w hSw; (try dsimp only at hSw); have t0 := hSw.1.1 0 _ rfl; have t1 := hSw.1.1 1 _ rfl; obtain ⟨g1, g2⟩ := hSw.2 k hlt; obtain ⟨p1, p2⟩ := hSw.2 (k - 1) hlt2; go_simp; try with_reducible rfl)
          simp only [Act.put, List.setIfInBounds_toArray, List.set_cons_zero, List.set_cons_succ]
          refine wpAnyH_take (i := 18) (oi := ⟨some 40, _, _, _, _, _⟩) (v := ?va118) rfl (by kernel_rfl) (by kernel_rfl) (by kernel_rfl) (fun _ _ _ h => h) (Or.inl ⟨by rfl, ?hya118⟩) hHeld ?resta118
          case hya118 => (intro w hSw; (try dsimp only at hSw); have t0 := hSw.1.1 0 _ rfl; have t1 := hSw.1.1 1 _ rfl; obtain ⟨g1, g2⟩ := hSw.2 k hlt; obtain ⟨p1, p2⟩ := hSw.2 (k - 1) hlt2; go_simp; try with_reducible rfl)
          simp only [Act.put, List.setIfInBounds_toArray, List.set_cons_zero, List.set_cons_succ]
          refine wpAnyH_take (i := 19) (oi := ⟨some 41, _, _, _, _, _⟩) (v := ?va119) rfl (by kernel_rfl) (by kernel_rfl) (by kernel_rfl) (fun _ _ _ h => h) (Or.inl ⟨by rfl, ?hya119⟩) hHeld ?resta119
          case hya119 => (intro w hSw; (try dsimp only at hSw); have t0 := hSw.1.1 0 _ rfl; have t1 := hSw.1.1 1 _ rfl; obtain ⟨g1, g2⟩ := hSw.2 k hlt; obtain ⟨p1, p2⟩ := hSw.2 (k - 1) hlt2; go_simp; try with_reducible rfl)
          simp only [Act.put, List.setIfInBounds_toArray, List.set_cons_zero, List.set_cons_succ]
          refine wpAnyH_take (i := 20) (oi := ⟨some 42, _, _, _, _, _⟩) (v := ?va120) rfl (by kernel_rfl) (by kernel_rfl) (by kernel_rfl) (fun _ _ _ h => h) (Or.inl ⟨by rfl, ?hya120⟩) hHeld ?resta120
          case hya120 => (intro w hSw; (try dsimp only at hSw); have t0 := hSw.1.1 0 _ rfl; have t1 := hSw.1.1 1 _ rfl; obtain ⟨g1, g2⟩ := hSw.2 k hlt; obtain ⟨p1, p2⟩ := hSw.2 (k - 1) hlt2; go_simp; try with_reducible rfl)
          simp only [Act.put, List.setIfInBounds_toArray, List.set_cons_zero, List.set_cons_succ]
          refine wpAnyH_ready (rs := [21]) (by kernel_rfl) (by simp) ?_
          refine AllReadyH.cons (o := ⟨some 43, _, _, _, _, _⟩) rfl (fun K hK => ?_) AllReadyH.nil
          go_simp
          refine (HL2.out _).mono ?_
          rintro e w' ⟨rfl, hb⟩
          (try go_wp2_with fail)
          refine hK.out _ _ (⟨hHeld.1.step hb, hHeld.2.below hb⟩) (fun hHeld2 => ?_)
          clear hK K hHeld
          have hHeld := hHeld2
          clear hHeld2
          (try simp only [Act.put, List.setIfInBounds_toArray, List.set_cons_zero, List.set_cons_succ])
          refine wpAnyH_take (i := 22) (oi := ⟨some 44, _, _, _, _, _⟩) (v := ?va122) rfl (by kernel_rfl) (by kernel_rfl) (by kernel_rfl) (fun _ _ _ h => h) (Or.inl ⟨by rfl, ?hya122⟩) hHeld ?resta122
          case hya122 => (intro w hSw; (try dsimp only at hSw); have t0 := hSw.1.1 0 _ rfl; have t1 := hSw.1.1 1 _ rfl; obtain ⟨g1, g2⟩ := hSw.2 k hlt; obtain ⟨p1, p2⟩ := hSw.2 (k - 1) hlt2; go_simp; try with_reducible rfl)
          simp only [Act.put, List.setIfInBounds_toArray, List.set_cons_zero, List.set_cons_succ]
          refine wpAnyH_take (i := 23) (oi := ⟨some 45, _, _, _, _, _⟩) (v := ?va123) rfl (by kernel_rfl) (by kernel_rfl) (by kernel_rfl) (fun _ _ _ h => h) (Or.inl ⟨by rfl, ?hya123⟩) hHeld ?resta123
          case hya123 => (intro w hSw; (try dsimp only at hSw); have t0 := hSw.1.1 0 _ rfl; have t1 := hSw.1.1 1 _ rfl; obtain ⟨g1, g2⟩ := hSw.2 k hlt; obtain ⟨p1, p2⟩ := hSw.2 (k - 1) hlt2; go_simp; try with_reducible rfl)
          simp only [Act.put, List.setIfInBounds_toArray, List.set_cons_zero, List.set_cons_succ]
          refine wpAnyH_take (i := 24) (oi := ⟨some 46, _, _, _, _, _⟩) (v := ?va124) rfl (by kernel_rfl) (by kernel_rfl) (by kernel_rfl) (fun _ _ _ h => h) (Or.inl ⟨by rfl, ?hya124⟩) hHeld ?resta124
          case hya124 => (intro w hSw; (try dsimp only at hSw); have t0 := hSw.1.1 0 _ rfl; have t1 := hSw.1.1 1 _ rfl; obtain ⟨g1, g2⟩ := hSw.2 k hlt; obtain ⟨p1, p2⟩ := hSw.2 (k - 1) hlt2; go_simp; try with_reducible rfl)
          simp only [Act.put, List.setIfInBounds_toArray, List.set_cons_zero, List.set_cons_succ]
          refine wpAnyH_done (by kernel_rfl) ?_ _
          have HK2 : Hid (KeptC w w.heap.size [.int .i64 ac, .int .i64 ar, .int .i64 sq, .slice a1 ds.length c1, .int .i64 kd, .int .i64 nc, .int .i64 nr, .int .i64 pc, .int .i64 pr, .int .i64 fc, .int .i64 fr, .string nm, .string vl] _) := hHeld.1
          have HRW2 : Hid (NL = [] ∨ ∃ b o, (some (⟨b1, o1, none⟩ : Addr)) = some ⟨b, o, none⟩ ∧ S.RowAt _ b o NL) := .inr ⟨b1, o1, rfl, hHeld.2⟩
          clear hHeld
          go_wp2
          go_roundw
          case rel => exact ⟨k + 1, by omega, by go_num, HK2, HRW2⟩
          case measure => simp [intOf]; omega
      · have k1 : ¬ (k : Int) < (NL.length : Int) := by omega
        have k3 : (NL.length : Int) ≤ 3 := by omega
        go_wp2_with fail
        refine (awake5_any _ (HEnv.out.below HK.out.2.2)).mono ?_
        rintro e w3 ⟨rfl, hb3⟩
        have HB3 : Hid (Below w.heap.size w w3) := (HK.out.step hb3).2.2
        clear hb3
        go_wp2
        go_ret
        exact ⟨rfl, HB3.out⟩
  · have qc : (ck != 0) = true := by simp [hc]
    obtain ⟨k_0, k_1, k_2, k_3, k_4, k_5, k_6, k_7, k_8, k_9, k_10, k_11, k_12⟩ := K2.all
    clear K0 K1
    go_wp2_with fail
    refine (HRC.out _ (H1.out.below K2.2.2)).mono ?_
    rintro e w3 ⟨rfl, hb3⟩
    have K3 := K2.step hb3
    clear hb3
    go_wp2_with fail
    refine (awake5_any _ (HEnv.out.below K3.2.2)).mono ?_
    rintro e w4 ⟨rfl, hb4⟩
    have K4 := K3.step hb4
    clear hb4
    go_wp2
    go_ret
    exact ⟨rfl, K4.2.2⟩

end Go.Proofs.YtaocjmipjibiaabGreatDoor

namespace Go.Proofs.YtaocjmipjibiaabGreatDoor
open Go.ChangeShapes Go.WideShapes Go.ChangeAt Go.RowKit Go.Joins
open Go.ChangeMaps (open_string shut_string)
set_option linter.unusedVariables false

set_option maxRecDepth 100000 in
theorem changeAhead_lifted (os : Os) (started : os.Started) (H : Type) (enc : TypeId × Value → H) :
    ReturnsInHanded {} Tryz.checked os 4 .any (fun w args => (Rows.changeAheadSpec.pre enc Tryz.prog Tryz.f4 [] false w args ∧ laidMetH Tryz.prog laidD w) ∧ sizedMet enc Tryz.prog Tryz.f4 (OpenSpec.ofChange Rows.changeAheadSpec) false w args)
      (Rows.changeAheadSpec.post enc Tryz.prog Tryz.f4 false true false false) := by
  refine returnsInHanded_of_change_and (C := Tryz.checked) (X := fun w _ => laidMetH Tryz.prog laidD w) (fun _ _ _ hh h => h.of_heap hh) ownI started (by kernel_rfl) Tryz.func4
    (ChangeSpec.witness_shaped (enc := enc) (C := Tryz.checked) (os := os) (X := fun w _ => laidMetH Tryz.prog laidD w) false (World.doorLaid Tryz.prog 62 os) #[.agg #[.int .i64 0, .int .i64 0, .int .i64 0, .slice none 0 0, .int .i64 0, .int .i64 0, .int .i64 0, .int .i64 0, .int .i64 0, .int .i64 0, .int .i64 0, .string ByteArray.empty, .string ByteArray.empty]] 8 rfl (World.shaped_of_RefB (by kernel_rfl) (by kernel_rfl)) (by kernel_rfl) (by kernel_rfl) (by kernel_rfl) (door_metD os _)) ?_
  intro W base args ds gs before hval0 hW _ hsz0 hL _
  have hval : ∀ (j : Nat) t v, Tryz.f4.params[j]? = some t → args[j]? = some v → Value.okWide Tryz.prog W .any base t v := hval0
  have hW' := hW
  obtain ⟨p, q, hA0, hV, rfl, hfz, hnd⟩ := hW
  have hA : DataW.TrodAll enc Tryz.prog W 0 (fun _ => true) true Tryz.f4.params.toList args.toList ds p := hA0
  rw [Tryz.params4] at hA hval
  obtain ⟨v0, d0, rfl, rfl, h0⟩ := trodAll_one hA
  obtain ⟨rfl, rfl⟩ := trodVars_none hV
  have hk0 := h0
  obtain ⟨ac0, ar0, sq0, dv0, ds0, kd0, nc0, nr0, pc0, pr0, fc0, fr0, nm0, vl0, ev0, hf0, ⟨y00, y01, y02, y03, y04, y05, y06, ey0, hd0⟩, wf0⟩ := open_change (hval 0 26 v0 rfl rfl) h0
  subst ev0 ey0
  have hsz : (DataW.weightsEach Tryz.prog (Tryz.f4.params.toList ++ Rows.changeAheadSpec.plain.varTypes Tryz.prog) (_ ++ _)).all (· ≤ reachBytes) = true := hsz0
  rw [Tryz.params4] at hsz
  have hst0 := sized_struct hsz (j := 0) (t := 26) rfl rfl Tryz.underlying26
  have len0 : ds0.length ≤ 17592186044416 := by
    rcases hd0 with ⟨_, rfl⟩ | ⟨els, sp, e, he⟩
    · simp
    · subst e
      have h1 := sized_slice hst0 (j := 2) (t := 24) rfl rfl Tryz.underlying24
      have h2 : reachBytes ≤ 140737488355328 := by decide
      rw [bytesInt] at h1
      omega
  have bn0 : nm0.size ≤ 281474976710656 := by
    have h1 := sized_string hst0 (j := 7) (t := 9) rfl rfl
    have h2 : reachBytes ≤ 140737488355328 := by decide
    have h3 : nm0.size = nm0.data.size := rfl
    rw [Array.length_toList] at h1
    omega
  have bv0 : vl0.size ≤ 281474976710656 := by
    have h1 := sized_string hst0 (j := 8) (t := 9) rfl rfl
    have h2 : reachBytes ≤ 140737488355328 := by decide
    have h3 : vl0.size = vl0.data.size := rfl
    rw [Array.length_toList] at h1
    omega
  have is0 : IsI W dv0 ds0 := by obtain ⟨a, cap, e, h1, h2⟩ := hf0; exact ⟨a, cap, e, h1, len0, h2⟩
  have hlt0 : ∀ x ∈ p, x.block < W.heap.size := fun x hx => by simpa using hW'.lt x (by simp [hx])
  clear hA0 hval0
  refine (changeAhead_walk ac0 ar0 sq0 dv0 kd0 nc0 nr0 pc0 pr0 fc0 fr0 nm0 vl0 ds0 W is0 bn0 (env_of_laid hL)).mono fun e W' ⟨he, bel⟩ => ?_
  subst he
  exact ⟨_, rfl, _, _, _, [], _, [], hW', trodAll_mk1 (shut_bool Tryz.underlying4 _), trodAll_mk1 (Below.trod laidOutI (by kernel_rfl) (of_decide_eq_true (by kernel_rfl)) hk0 bel hlt0), rfl, bel.frame _, fun h => by cases h⟩

theorem changeAhead_row : Rows.ChangeAheadSaid :=
  OpenClaim.holds_of_wide 4 Tryz.f4 rfl rfl rfl rfl rfl rfl rfl ⟨rfl, rfl, rfl, rfl, rfl⟩ rfl rfl rfl rfl rfl (by kernel_rfl) Tryz.func4 (by kernel_rfl)
    (of_decide_eq_true (by kernel_rfl)) (by unfold Func.isWrapper; first | (rw [if_pos (by decide +kernel)]; kernel_rfl) | (rw [if_neg (by decide +kernel)]; exact ⟨rfl, rfl⟩))
    (fun os started H enc _ => changeAhead_lifted os started H enc)

theorem changeAhead_holds : Rows.ChangeAheadCardSaid :=
  Claim7.holds_tied_plain_at .later [] [.data, .data, .data, .sentinel, .sentinel] true (true, "b3210078e7ed04940edeb3bd559560f89c719912f95958c7dd6b27647c114734") true
    changeAhead_row (fun _ h => by cases h) (by kernel_rfl) (fun _ h => by cases h) changeAhead_row_tie rfl ⟨rfl, rfl⟩ (by kernel_rfl) rfl
    (fun f fn hf hfn => by
      obtain rfl : f = 4 := Option.some.inj ((show Tryz.prog.funcNamed Rows.changeAheadRow.func = some 4 by kernel_rfl).symm.trans hf) |>.symm
      obtain rfl : fn = Tryz.f4 := (Option.some.inj (Tryz.func4.symm.trans hfn)).symm
      exact ⟨by kernel_rfl, fun j t ht => by
        rw [Tryz.params4] at ht
        have hm : t ∈ [26] := by simpa using Array.mem_of_getElem? ht
        have hall : ([26].all fun u => !Tryz.prog.wantsStandIn u) = true := by kernel_rfl
        exact (show Tryz.prog.wantsStandIn t = false by simpa using List.all_eq_true.1 hall t hm)⟩)
    (by kernel_rfl)
#print axioms changeAhead_holds
end Go.Proofs.YtaocjmipjibiaabGreatDoor
