/- What hasNames does. -/
import Derived.Test.YtngldpabfpcaiaaGreatTk
import Derived.Test.YtngldpabfpcaiaaGreatOlV3
import Derived.Test.YtngldpabfpcaiaaGreatOlN
namespace Go.Proofs.YtngldpabfpcaiaaGreat
open Go.RowKit
set_option linter.unusedVariables false
set_option linter.unusedSimpArgs false

def BelowH (w W : World) : Prop := Below w.heap.size w W
theorem BelowH.below {w W W' : World} (h : BelowH w W) (hb : Below W.heap.size W W') : BelowH w W' := Below.trans h (hb.mono (Below.size h))
theorem all_take {α : Type} {p : α → Bool} {l : List α} {k : Nat} (hk : k < l.length) (h : (l.take k).all p = true) (h2 : p l[k] = true) : (l.take (k + 1)).all p = true := by
  rw [List.take_succ_eq_append_getElem hk, List.all_append, h]; simp [h2]
theorem all_nat {α : Type} {p : α → Bool} {l : List α} {k : Nat} (hk : k < l.length) (h2 : p l[k] = false) : l.all p = false := by
  rw [Bool.eq_false_iff]
  intro h
  have := List.all_eq_true.1 h l[k] (List.getElem_mem hk)
  rw [h2] at this; cases this
theorem sort_mem (l : List (Int × Int)) (x : Int × Int) : x ∈ S.sortL l ↔ x ∈ l := by
  have := (S.sortL_ups l _ (Nat.le_refl _)).2 x
  rwa [List.take_length] at this
theorem all_sort (l : List (Int × Int)) (p : Int × Int → Bool) : (S.sortL l).all p = l.all p := by
  rw [Bool.eq_iff_iff]
  simp only [List.all_eq_true]
  exact ⟨fun h x hx => h x ((sort_mem l x).2 hx), fun h x hx => h x ((sort_mem l x).1 hx)⟩
theorem names_len (c : Ch) : (S.sortL (namesL c)).length ≤ 3 := by
  have h := S.sortL_length (namesL c) (namesL c).length (Nat.le_refl _)
  rw [List.take_length] at h
  have h1 : (namesL c).length ≤ 3 := by
    have := List.length_filter_le (namB2 c.ac c.ar) [(c.nc, c.nr), (c.pc, c.pr), (c.fc, c.fr)]
    exact this
  omega

set_option maxRecDepth 100000 in
set_option maxHeartbeats 4000000 in
theorem hasNames_any (F : Nat → Prop) (lb : Nat) (room : Int) (L : List Ch) (ac ar sq : Int) (dv : Value) (kd nc nr pc pr fc fr : Int) (nm vl : ByteArray) (ds : List Int) (w : World) (h : LogOk F w lb room L) (hs : Srt L) (hd : IsI w dv ds) :
    Calls Tryz.prog 43 #[.pointer (some ⟨lb, 0, none⟩), .agg #[.int .i64 ac, .int .i64 ar, .int .i64 sq, dv, .int .i64 kd, .int .i64 nc, .int .i64 nr, .int .i64 pc, .int .i64 pr, .int .i64 fc, .int .i64 fr, .string nm, .string vl]] w fun e w' => e = .returned (.bool (hasNamesB L (⟨ac, ar, sq, ds, kd, nc, nr, pc, pr, fc, fr, nm, vl⟩ : Ch))) ∧ Below w.heap.size w w' := by
  obtain ⟨mb, ord, own, D, h⟩ := h
  obtain ⟨a0, c0, e0⟩ := hd.form
  subst e0
  have K0 := KeptC.start w [.int .i64 ac, .int .i64 ar, .int .i64 sq, .slice a0 ds.length c0, .int .i64 kd, .int .i64 nc, .int .i64 nr, .int .i64 pc, .int .i64 pr, .int .i64 fc, .int .i64 fr, .string nm, .string vl] 38
  obtain ⟨W0, eW⟩ : ∃ X, X = w.alloc (.cells #[.int .i64 ac, .int .i64 ar, .int .i64 sq, .slice a0 ds.length c0, .int .i64 kd, .int .i64 nc, .int .i64 nr, .int .i64 pc, .int .i64 pr, .int .i64 fc, .int .i64 fr, .string nm, .string vl] 38) := ⟨_, rfl⟩
  have HK : Hid (KeptC w w.heap.size [.int .i64 ac, .int .i64 ar, .int .i64 sq, .slice a0 ds.length c0, .int .i64 kd, .int .i64 nc, .int .i64 nr, .int .i64 pc, .int .i64 pr, .int .i64 fc, .int .i64 fr, .string nm, .string vl] W0) := by rw [eW]; exact K0
  have HL : Hid (LogIs F W0 lb room L mb ord own D) := h.below HK.out.2.2
  have HI : Hid (IsI W0 (.slice a0 ds.length c0) ds) := hd.below HK.out.2.2
  have hlen := h.len
  have HS : Hid (Srt L) := hs
  clear K0
  obtain ⟨NL, hNL⟩ : ∃ l, l = S.sortL (namesL (⟨ac, ar, sq, ds, kd, nc, nr, pc, pr, fc, fr, nm, vl⟩ : Ch)) := ⟨_, rfl⟩
  have hn3 : NL.length ≤ 3 := by rw [hNL]; exact names_len _
  have HE : Hid (hasNamesB L (⟨ac, ar, sq, ds, kd, nc, nr, pc, pr, fc, fr, nm, vl⟩ : Ch) = NL.all (namsR L (⟨ac, ar, sq, ds, kd, nc, nr, pc, pr, fc, fr, nm, vl⟩ : Ch))) := by show _ = _; rw [hNL, all_sort]; rfl
  have HNL : Hid (NL = S.sortL (namesL (⟨ac, ar, sq, ds, kd, nc, nr, pc, pr, fc, fr, nm, vl⟩ : Ch))) := hNL
  clear hNL
  obtain ⟨k_0, k_1, k_2, k_3, k_4, k_5, k_6, k_7, k_8, k_9, k_10, k_11, k_12⟩ := HK.out.all
  go_enter Tryz.func43, Tryz.ntmps43
  go_wp2_with fail
  rw [← eW]
  clear eW
  refine (names_any ac ar sq (.slice a0 ds.length c0) kd nc nr pc pr fc fr nm vl ds _).mono ?_
  rintro e W1 ⟨nv, rfl, ho, hb⟩
  have HO : Hid (S.OwnS 0 W1 nv NL) := by rw [HNL.out]; exact ownsRow_low ho (Nat.zero_le _)
  have HK1 : Hid (KeptC w w.heap.size [.int .i64 ac, .int .i64 ar, .int .i64 sq, .slice a0 ds.length c0, .int .i64 kd, .int .i64 nc, .int .i64 nr, .int .i64 pc, .int .i64 pr, .int .i64 fc, .int .i64 fr, .string nm, .string vl] W1) := HK.out.step hb
  have HL1 : Hid (LogIs F W1 lb room L mb ord own D) := HL.out.below hb
  have HI1 : Hid (IsI W1 (.slice a0 ds.length c0) ds) := HI.out.below hb
  obtain ⟨an, cn, en⟩ := HO.out.form
  subst en
  clear ho hb HNL HK HL HI k_0 k_1 k_2 k_3 k_4 k_5 k_6 k_7 k_8 k_9 k_10 k_11 k_12
  go_wp2
  go_loopw [6, 7, 8, 12] (fun _ _ _ iv wr => ∃ k : Nat, k ≤ NL.length ∧ iv = .int .i64 (k : Int) ∧ Hid ((NL.take k).all (namsR L (⟨ac, ar, sq, ds, kd, nc, nr, pc, pr, fc, fr, nm, vl⟩ : Ch)) = true) ∧ Hid (KeptC w w.heap.size [.int .i64 ac, .int .i64 ar, .int .i64 sq, .slice a0 ds.length c0, .int .i64 kd, .int .i64 nc, .int .i64 nr, .int .i64 pc, .int .i64 pr, .int .i64 fc, .int .i64 fr, .string nm, .string vl] wr) ∧ Hid (BelowH W1 wr)) (fun _ _ _ iv _ => NL.length - (intOf iv).toNat)
  case atStart => exact ⟨0, Nat.zero_le _, rfl, rfl, HK1, Below.refl _ _⟩
  case round =>
    obtain ⟨k, hk, rfl, HT, HKr, HBr⟩ := hrel
    by_cases hlt : k < NL.length
    · obtain ⟨g5, c5, e5, y1, y2⟩ := OwnS_cells (HO.out.below HBr.out) hlt
      cases e5
      obtain ⟨p, hp⟩ : ∃ p, p = NL[k].1 := ⟨_, rfl⟩
      obtain ⟨q, hq⟩ : ∃ q, q = NL[k].2 := ⟨_, rfl⟩
      rw [← hp] at y1
      rw [← hq] at y2
      have HPQ : Hid (NL[k] = (p, q)) := by rw [hp, hq]; exact rfl
      clear hp hq
      have kk1 : (k : Int) < (NL.length : Int) := by omega
      have kk0 : (0 : Int) ≤ (k : Int) := by omega
      obtain ⟨W4, eW4⟩ : ∃ X, X = wr.alloc (.cells #[.int .i64 p, .int .i64 q] 36) := ⟨_, rfl⟩
      have hb4 : Below wr.heap.size wr W4 := by rw [eW4]; exact (Below.refl _ _).alloc (Nat.le_refl _) _
      have hSBx : Hid (KeptD wr wr.heap.size [.int .i64 p, .int .i64 q] W4) := by rw [eW4]; exact KeptC.start wr [.int .i64 p, .int .i64 q] 36
      have HKx : Hid (KeptD w w.heap.size [.int .i64 ac, .int .i64 ar, .int .i64 sq, .slice a0 ds.length c0, .int .i64 kd, .int .i64 nc, .int .i64 nr, .int .i64 pc, .int .i64 pr, .int .i64 fc, .int .i64 fr, .string nm, .string vl] W4) := HKr.out.step hb4
      have HBx : Hid (BelowH W1 W4) := HBr.out.below hb4
      have HLx : Hid (LogIs F W4 lb room L mb ord own D) := HL1.out.below HBx.out
      have HIx : Hid (IsI W4 (.slice a0 ds.length c0) ds) := HI1.out.below HBx.out
      clear hb4
      rcases getD_get HLx.out HS.out p q with ⟨x, hgd, hgl, hx⟩ | ⟨hgd, hgl⟩
      · obtain ⟨⟨ac2, ar2, sq2, ds2, kd2, nc2, nr2, pc2, pr2, fc2, fr2, nm2, vl2⟩, dv2⟩ := x
        have hdx := HLx.out.hdep _ hx
        have hi2 : IsI W4 dv2 ds2 := hdx.1.isI hdx.2.2
        obtain ⟨a2, c2, e2⟩ := hi2.form
        subst e2
        have HGD : Hid (getD D p q = some ((⟨ac2, ar2, sq2, ds2, kd2, nc2, nr2, pc2, pr2, fc2, fr2, nm2, vl2⟩ : Ch), .slice a2 ds2.length c2)) := hgd
        have HG : Hid (getL L p q = some (⟨ac2, ar2, sq2, ds2, kd2, nc2, nr2, pc2, pr2, fc2, fr2, nm2, vl2⟩ : Ch)) := hgl
        have HI2 : Hid (IsI W4 (.slice a2 ds2.length c2) ds2) := hi2
        clear hgd hgl hx hdx hi2
        go_wp2
        rw [← eW4]
        clear eW4
        refine wp_region_held_drew (S := fun W' => KeptC w w.heap.size [.int .i64 ac, .int .i64 ar, .int .i64 sq, .slice a0 ds.length c0, .int .i64 kd, .int .i64 nc, .int .i64 nr, .int .i64 pc, .int .i64 pr, .int .i64 fc, .int .i64 fr, .string nm, .string vl] W' ∧ LogIs F W' lb room L mb ord own D ∧ KeptC wr wr.heap.size [.int .i64 p, .int .i64 q] W') (by kernel_rfl) ⟨HKx.out.step (Below.refl _ _).drew, HLx.out.below (Below.refl _ _).drew, hSBx.out.step (Below.refl _ _).drew⟩ (fun hHeld => ?_)
        obtain ⟨Us3u0, eW⟩ : ∃ X, X = W4.drew := ⟨_, rfl⟩
        have hb : Below W4.heap.size W4 Us3u0 := by rw [eW]; exact (Below.refl _ _).drew
        replace HKx : Hid (KeptD w w.heap.size [.int .i64 ac, .int .i64 ar, .int .i64 sq, .slice a0 ds.length c0, .int .i64 kd, .int .i64 nc, .int .i64 nr, .int .i64 pc, .int .i64 pr, .int .i64 fc, .int .i64 fr, .string nm, .string vl] Us3u0) := HKx.out.below hb
        replace HLx : Hid (LogIs F Us3u0 lb room L mb ord own D) := HLx.out.below hb
        replace HIx : Hid (IsI Us3u0 (.slice a0 ds.length c0) ds) := HIx.out.below hb
        replace HBx : Hid (BelowH W1 Us3u0) := HBx.out.below hb
        replace HI2 : Hid (IsI Us3u0 (.slice a2 ds2.length c2) ds2) := HI2.out.below hb
        replace hSBx : Hid (KeptD wr wr.heap.size [.int .i64 p, .int .i64 q] Us3u0) := hSBx.out.below hb
        rw [← eW] at hHeld ⊢
        clear eW hb
        refine tkW 0 (some 17) (v := ?_) ?_ hHeld ?_
        rotate_left
        · (intro w _; go_simp; try with_reducible rfl)
        refine tkW 1 (some 18) (v := ?_) ?_ hHeld ?_
        rotate_left
        · (intro w hSw; (try dsimp only at hSw); obtain ⟨hk, hlg, hsb⟩ := hSw; obtain ⟨k_0, k_1, k_2, k_3, k_4, k_5, k_6, k_7, k_8, k_9, k_10, k_11, k_12⟩ := hk.all; have s_0 := hsb.1 0 _ rfl; have s_1 := hsb.1 1 _ rfl; have lc1 := hlg.cell1; have hlk : (Instr.lookup 73 (.map (some mb)) (.agg #[.int .i64 p, .int .i64 q]) true).run Tryz.prog w = .ok (.tuple #[.agg #[.int .i64 ac2, .int .i64 ar2, .int .i64 sq2, .slice a2 ds2.length c2, .int .i64 kd2, .int .i64 nc2, .int .i64 nr2, .int .i64 pc2, .int .i64 pr2, .int .i64 fc2, .int .i64 fr2, .string nm2, .string vl2], .bool true]) w := (by have h0 := look_st hlg.hmap p q; rw [HGD.out] at h0; exact h0); go_simp; try with_reducible rfl)
        refine tkW 2 (some 19) (v := ?_) ?_ hHeld ?_
        rotate_left
        · (intro w _; go_simp; try with_reducible rfl)
        refine tkW 3 (some 20) (v := ?_) ?_ hHeld ?_
        rotate_left
        · (intro w hSw; (try dsimp only at hSw); obtain ⟨hk, hlg, hsb⟩ := hSw; obtain ⟨k_0, k_1, k_2, k_3, k_4, k_5, k_6, k_7, k_8, k_9, k_10, k_11, k_12⟩ := hk.all; have s_0 := hsb.1 0 _ rfl; have s_1 := hsb.1 1 _ rfl; have lc1 := hlg.cell1; have hlk : (Instr.lookup 73 (.map (some mb)) (.agg #[.int .i64 p, .int .i64 q]) true).run Tryz.prog w = .ok (.tuple #[.agg #[.int .i64 ac2, .int .i64 ar2, .int .i64 sq2, .slice a2 ds2.length c2, .int .i64 kd2, .int .i64 nc2, .int .i64 nr2, .int .i64 pc2, .int .i64 pr2, .int .i64 fc2, .int .i64 fr2, .string nm2, .string vl2], .bool true]) w := (by have h0 := look_st hlg.hmap p q; rw [HGD.out] at h0; exact h0); go_simp; try with_reducible rfl)
        refine tkW 4 (some 21) (v := ?_) ?_ hHeld ?_
        rotate_left
        · (intro w hSw; (try dsimp only at hSw); obtain ⟨hk, hlg, hsb⟩ := hSw; obtain ⟨k_0, k_1, k_2, k_3, k_4, k_5, k_6, k_7, k_8, k_9, k_10, k_11, k_12⟩ := hk.all; have s_0 := hsb.1 0 _ rfl; have s_1 := hsb.1 1 _ rfl; have lc1 := hlg.cell1; have hlk : (Instr.lookup 73 (.map (some mb)) (.agg #[.int .i64 p, .int .i64 q]) true).run Tryz.prog w = .ok (.tuple #[.agg #[.int .i64 ac2, .int .i64 ar2, .int .i64 sq2, .slice a2 ds2.length c2, .int .i64 kd2, .int .i64 nc2, .int .i64 nr2, .int .i64 pc2, .int .i64 pr2, .int .i64 fc2, .int .i64 fr2, .string nm2, .string vl2], .bool true]) w := (by have h0 := look_st hlg.hmap p q; rw [HGD.out] at h0; exact h0); go_simp; try with_reducible rfl)
        refine tkW 5 (some 22) (v := ?_) ?_ hHeld ?_
        rotate_left
        · (intro w hSw; (try dsimp only at hSw); obtain ⟨hk, hlg, hsb⟩ := hSw; obtain ⟨k_0, k_1, k_2, k_3, k_4, k_5, k_6, k_7, k_8, k_9, k_10, k_11, k_12⟩ := hk.all; have s_0 := hsb.1 0 _ rfl; have s_1 := hsb.1 1 _ rfl; have lc1 := hlg.cell1; have hlk : (Instr.lookup 73 (.map (some mb)) (.agg #[.int .i64 p, .int .i64 q]) true).run Tryz.prog w = .ok (.tuple #[.agg #[.int .i64 ac2, .int .i64 ar2, .int .i64 sq2, .slice a2 ds2.length c2, .int .i64 kd2, .int .i64 nc2, .int .i64 nr2, .int .i64 pc2, .int .i64 pr2, .int .i64 fc2, .int .i64 fr2, .string nm2, .string vl2], .bool true]) w := (by have h0 := look_st hlg.hmap p q; rw [HGD.out] at h0; exact h0); go_simp; try with_reducible rfl)
        refine tkW 6 (some 16) (v := ?_) ?_ hHeld ?_
        rotate_left
        · (intro w _; go_simp; try with_reducible rfl)
        refine tkW 7 (some 23) (v := ?_) ?_ hHeld ?_
        rotate_left
        · (intro w _; go_simp; try with_reducible rfl)
        refine tkW 8 (some 24) (v := ?_) ?_ hHeld ?_
        rotate_left
        · (intro w _; go_simp; try with_reducible rfl)
        refine wpAnyH_ready (rs := [9]) (by kernel_rfl) (by simp) ?_
        refine AllReadyH.cons (o := ⟨some 7, _, _, _, _, _⟩) rfl (fun K hK => ?_) AllReadyH.nil
        go_simp
        refine hK.out _ _ (⟨hHeld.1.step ((Below.refl _ _).alloc (Nat.le_refl _) _), hHeld.2.1.below ((Below.refl _ _).alloc (Nat.le_refl _) _), hHeld.2.2.step ((Below.refl _ _).alloc (Nat.le_refl _) _)⟩) (fun hHeld2 => ?_)
        clear hK K hHeld
        have hHeld := hHeld2
        clear hHeld2
        (try simp only [Act.put, List.setIfInBounds_toArray, List.set_cons_zero, List.set_cons_succ])
        refine wpAnyH_ready (rs := [10]) (by kernel_rfl) (by simp) ?_
        refine AllReadyH.cons (o := ⟨none, _, _, _, _, _⟩) rfl (fun K hK => ?_) AllReadyH.nil
        refine step_store_new rfl 38 (.tmp 7) (.tmp 23) rfl _ _ rfl rfl sizeChange rfl (by simp [Value.oneCell']) ?_
        obtain ⟨Us3u2, eW⟩ : ∃ Y, Y = Us3u0.alloc (.cells #[.int .i64 ac2, .int .i64 ar2, .int .i64 sq2, .slice a2 ds2.length c2, .int .i64 kd2, .int .i64 nc2, .int .i64 nr2, .int .i64 pc2, .int .i64 pr2, .int .i64 fc2, .int .i64 fr2, .string nm2, .string vl2] 38) := ⟨_, rfl⟩
        have hb : Below Us3u0.heap.size Us3u0 Us3u2 := by rw [eW]; exact (Below.refl _ _).alloc (Nat.le_refl _) _
        have HM0 : Hid (KeptC Us3u0 Us3u0.heap.size [.int .i64 ac2, .int .i64 ar2, .int .i64 sq2, .slice a2 ds2.length c2, .int .i64 kd2, .int .i64 nc2, .int .i64 nr2, .int .i64 pc2, .int .i64 pr2, .int .i64 fc2, .int .i64 fr2, .string nm2, .string vl2] Us3u2) := by rw [eW]; exact KeptC.start Us3u0 [.int .i64 ac2, .int .i64 ar2, .int .i64 sq2, .slice a2 ds2.length c2, .int .i64 kd2, .int .i64 nc2, .int .i64 nr2, .int .i64 pc2, .int .i64 pr2, .int .i64 fc2, .int .i64 fr2, .string nm2, .string vl2] 38
        have HK2 : Hid (KeptC w w.heap.size [.int .i64 ac, .int .i64 ar, .int .i64 sq, .slice a0 ds.length c0, .int .i64 kd, .int .i64 nc, .int .i64 nr, .int .i64 pc, .int .i64 pr, .int .i64 fc, .int .i64 fr, .string nm, .string vl] Us3u2) := HKx.out.step hb
        have HL2 : Hid (LogIs F Us3u2 lb room L mb ord own D) := HLx.out.below hb
        have HB2 : Hid (BelowH W1 Us3u2) := HBx.out.below hb
        have hP2 := hHeld.2.2
        rw [← eW]
        refine hK.out _ _ (⟨HK2.out, HL2.out, by rw [eW]; exact (hSBx.out.step ((Below.refl _ _).alloc (Nat.le_refl _) _))⟩) (fun hHeld2 => ?_)
        clear hK K hHeld
        have hHeld := hHeld2
        clear hHeld2
        (try simp only [Act.put, List.setIfInBounds_toArray, List.set_cons_zero, List.set_cons_succ])
        clear eW hb hP2
        refine tkW 11 (some 8) (v := ?_) ?_ hHeld ?_
        rotate_left
        · (intro w _; go_simp; try with_reducible rfl)
        refine wpAnyH_done (by kernel_rfl) ?_ _
        clear hHeld
        obtain ⟨k_0, k_1, k_2, k_3, k_4, k_5, k_6, k_7, k_8, k_9, k_10, k_11, k_12⟩ := HK2.out.all
        obtain ⟨m_0, m_1, m_2, m_3, m_4, m_5, m_6, m_7, m_8, m_9, m_10, m_11, m_12⟩ := HM0.out.all
        go_wp2_with fail
        refine (isWithin_any ac2 ar2 sq2 (.slice a2 ds2.length c2) kd2 nc2 nr2 pc2 pr2 fc2 fr2 nm2 vl2 ds2 (.slice a0 ds.length c0) ds _ (HIx.out.below HM0.out.2.2)).mono ?_
        rintro e w9 ⟨rfl, hb9⟩
        have HK9 : Hid (KeptC w w.heap.size [.int .i64 ac, .int .i64 ar, .int .i64 sq, .slice a0 ds.length c0, .int .i64 kd, .int .i64 nc, .int .i64 nr, .int .i64 pc, .int .i64 pr, .int .i64 fc, .int .i64 fr, .string nm, .string vl] w9) := HK2.out.step hb9
        have HB9 : Hid (BelowH W1 w9) := HB2.out.below hb9
        obtain ⟨sb, hsb⟩ : ∃ b, b = withinB (⟨ac2, ar2, sq2, ds2, kd2, nc2, nr2, pc2, pr2, fc2, fr2, nm2, vl2⟩ : Ch) ds := ⟨_, rfl⟩
        rw [← hsb]
        have HSB : Hid (namsR L (⟨ac, ar, sq, ds, kd, nc, nr, pc, pr, fc, fr, nm, vl⟩ : Ch) NL[k] = sb) := by show _ = _; unfold namsR; rw [HPQ.out]; rw [HG.out]; exact hsb.symm
        clear hsb hb9
        cases sb
        · go_wp2
          go_ret
          exact ⟨ret_bool (by rw [HE.out, all_nat hlt HSB.out]), HK9.out.2.2⟩
        · go_wp2
          go_roundw
          case rel => exact ⟨k + 1, by omega, by first | rfl | go_num, all_take hlt HT.out HSB.out, HK9, HB9⟩
          case measure => simp [intOf]; omega
      · have HGD : Hid (getD D p q = none) := hgd
        have HG : Hid (getL L p q = none) := hgl
        clear hgd hgl
        go_wp2
        rw [← eW4]
        clear eW4
        refine wp_region_held_drew (S := fun W' => KeptC w w.heap.size [.int .i64 ac, .int .i64 ar, .int .i64 sq, .slice a0 ds.length c0, .int .i64 kd, .int .i64 nc, .int .i64 nr, .int .i64 pc, .int .i64 pr, .int .i64 fc, .int .i64 fr, .string nm, .string vl] W' ∧ LogIs F W' lb room L mb ord own D ∧ KeptC wr wr.heap.size [.int .i64 p, .int .i64 q] W') (by kernel_rfl) ⟨HKx.out.step (Below.refl _ _).drew, HLx.out.below (Below.refl _ _).drew, hSBx.out.step (Below.refl _ _).drew⟩ (fun hHeld => ?_)
        obtain ⟨Un4u0, eW⟩ : ∃ X, X = W4.drew := ⟨_, rfl⟩
        have hb : Below W4.heap.size W4 Un4u0 := by rw [eW]; exact (Below.refl _ _).drew
        replace HKx : Hid (KeptD w w.heap.size [.int .i64 ac, .int .i64 ar, .int .i64 sq, .slice a0 ds.length c0, .int .i64 kd, .int .i64 nc, .int .i64 nr, .int .i64 pc, .int .i64 pr, .int .i64 fc, .int .i64 fr, .string nm, .string vl] Un4u0) := HKx.out.below hb
        replace HLx : Hid (LogIs F Un4u0 lb room L mb ord own D) := HLx.out.below hb
        replace HIx : Hid (IsI Un4u0 (.slice a0 ds.length c0) ds) := HIx.out.below hb
        replace HBx : Hid (BelowH W1 Un4u0) := HBx.out.below hb
        replace hSBx : Hid (KeptD wr wr.heap.size [.int .i64 p, .int .i64 q] Un4u0) := hSBx.out.below hb
        rw [← eW] at hHeld ⊢
        clear eW hb
        refine tkW 0 (some 17) (v := ?_) ?_ hHeld ?_
        rotate_left
        · (intro w _; go_simp; try with_reducible rfl)
        refine tkW 1 (some 18) (v := ?_) ?_ hHeld ?_
        rotate_left
        · (intro w hSw; (try dsimp only at hSw); obtain ⟨hk, hlg, hsb⟩ := hSw; obtain ⟨k_0, k_1, k_2, k_3, k_4, k_5, k_6, k_7, k_8, k_9, k_10, k_11, k_12⟩ := hk.all; have s_0 := hsb.1 0 _ rfl; have s_1 := hsb.1 1 _ rfl; have lc1 := hlg.cell1; have hlk : (Instr.lookup 73 (.map (some mb)) (.agg #[.int .i64 p, .int .i64 q]) true).run Tryz.prog w = .ok (.tuple #[.agg #[.int .i64 0, .int .i64 0, .int .i64 0, .slice none 0 0, .int .i64 0, .int .i64 0, .int .i64 0, .int .i64 0, .int .i64 0, .int .i64 0, .int .i64 0, .string ⟨#[]⟩, .string ⟨#[]⟩], .bool false]) w := (by have h0 := look_st hlg.hmap p q; rw [HGD.out] at h0; exact h0); go_simp; try with_reducible rfl)
        refine tkW 2 (some 19) (v := ?_) ?_ hHeld ?_
        rotate_left
        · (intro w _; go_simp; try with_reducible rfl)
        refine tkW 3 (some 20) (v := ?_) ?_ hHeld ?_
        rotate_left
        · (intro w hSw; (try dsimp only at hSw); obtain ⟨hk, hlg, hsb⟩ := hSw; obtain ⟨k_0, k_1, k_2, k_3, k_4, k_5, k_6, k_7, k_8, k_9, k_10, k_11, k_12⟩ := hk.all; have s_0 := hsb.1 0 _ rfl; have s_1 := hsb.1 1 _ rfl; have lc1 := hlg.cell1; have hlk : (Instr.lookup 73 (.map (some mb)) (.agg #[.int .i64 p, .int .i64 q]) true).run Tryz.prog w = .ok (.tuple #[.agg #[.int .i64 0, .int .i64 0, .int .i64 0, .slice none 0 0, .int .i64 0, .int .i64 0, .int .i64 0, .int .i64 0, .int .i64 0, .int .i64 0, .int .i64 0, .string ⟨#[]⟩, .string ⟨#[]⟩], .bool false]) w := (by have h0 := look_st hlg.hmap p q; rw [HGD.out] at h0; exact h0); go_simp; try with_reducible rfl)
        refine tkW 4 (some 21) (v := ?_) ?_ hHeld ?_
        rotate_left
        · (intro w hSw; (try dsimp only at hSw); obtain ⟨hk, hlg, hsb⟩ := hSw; obtain ⟨k_0, k_1, k_2, k_3, k_4, k_5, k_6, k_7, k_8, k_9, k_10, k_11, k_12⟩ := hk.all; have s_0 := hsb.1 0 _ rfl; have s_1 := hsb.1 1 _ rfl; have lc1 := hlg.cell1; have hlk : (Instr.lookup 73 (.map (some mb)) (.agg #[.int .i64 p, .int .i64 q]) true).run Tryz.prog w = .ok (.tuple #[.agg #[.int .i64 0, .int .i64 0, .int .i64 0, .slice none 0 0, .int .i64 0, .int .i64 0, .int .i64 0, .int .i64 0, .int .i64 0, .int .i64 0, .int .i64 0, .string ⟨#[]⟩, .string ⟨#[]⟩], .bool false]) w := (by have h0 := look_st hlg.hmap p q; rw [HGD.out] at h0; exact h0); go_simp; try with_reducible rfl)
        refine tkW 5 (some 22) (v := ?_) ?_ hHeld ?_
        rotate_left
        · (intro w hSw; (try dsimp only at hSw); obtain ⟨hk, hlg, hsb⟩ := hSw; obtain ⟨k_0, k_1, k_2, k_3, k_4, k_5, k_6, k_7, k_8, k_9, k_10, k_11, k_12⟩ := hk.all; have s_0 := hsb.1 0 _ rfl; have s_1 := hsb.1 1 _ rfl; have lc1 := hlg.cell1; have hlk : (Instr.lookup 73 (.map (some mb)) (.agg #[.int .i64 p, .int .i64 q]) true).run Tryz.prog w = .ok (.tuple #[.agg #[.int .i64 0, .int .i64 0, .int .i64 0, .slice none 0 0, .int .i64 0, .int .i64 0, .int .i64 0, .int .i64 0, .int .i64 0, .int .i64 0, .int .i64 0, .string ⟨#[]⟩, .string ⟨#[]⟩], .bool false]) w := (by have h0 := look_st hlg.hmap p q; rw [HGD.out] at h0; exact h0); go_simp; try with_reducible rfl)
        refine tkW 6 (some 16) (v := ?_) ?_ hHeld ?_
        rotate_left
        · (intro w _; go_simp; try with_reducible rfl)
        refine tkW 7 (some 23) (v := ?_) ?_ hHeld ?_
        rotate_left
        · (intro w _; go_simp; try with_reducible rfl)
        refine tkW 8 (some 24) (v := ?_) ?_ hHeld ?_
        rotate_left
        · (intro w _; go_simp; try with_reducible rfl)
        refine wpAnyH_ready (rs := [9]) (by kernel_rfl) (by simp) ?_
        refine AllReadyH.cons (o := ⟨some 7, _, _, _, _, _⟩) rfl (fun K hK => ?_) AllReadyH.nil
        go_simp
        refine hK.out _ _ (⟨hHeld.1.step ((Below.refl _ _).alloc (Nat.le_refl _) _), hHeld.2.1.below ((Below.refl _ _).alloc (Nat.le_refl _) _), hHeld.2.2.step ((Below.refl _ _).alloc (Nat.le_refl _) _)⟩) (fun hHeld2 => ?_)
        clear hK K hHeld
        have hHeld := hHeld2
        clear hHeld2
        (try simp only [Act.put, List.setIfInBounds_toArray, List.set_cons_zero, List.set_cons_succ])
        refine wpAnyH_ready (rs := [10]) (by kernel_rfl) (by simp) ?_
        refine AllReadyH.cons (o := ⟨none, _, _, _, _, _⟩) rfl (fun K hK => ?_) AllReadyH.nil
        refine step_store_new rfl 38 (.tmp 7) (.tmp 23) rfl _ _ rfl rfl sizeChange rfl (by simp [Value.oneCell']) ?_
        obtain ⟨Un4u2, eW⟩ : ∃ Y, Y = Un4u0.alloc (.cells #[.int .i64 0, .int .i64 0, .int .i64 0, .slice none 0 0, .int .i64 0, .int .i64 0, .int .i64 0, .int .i64 0, .int .i64 0, .int .i64 0, .int .i64 0, .string ⟨#[]⟩, .string ⟨#[]⟩] 38) := ⟨_, rfl⟩
        have hb : Below Un4u0.heap.size Un4u0 Un4u2 := by rw [eW]; exact (Below.refl _ _).alloc (Nat.le_refl _) _
        have HM0 : Hid (KeptC Un4u0 Un4u0.heap.size [.int .i64 0, .int .i64 0, .int .i64 0, .slice none 0 0, .int .i64 0, .int .i64 0, .int .i64 0, .int .i64 0, .int .i64 0, .int .i64 0, .int .i64 0, .string ⟨#[]⟩, .string ⟨#[]⟩] Un4u2) := by rw [eW]; exact KeptC.start Un4u0 [.int .i64 0, .int .i64 0, .int .i64 0, .slice none 0 0, .int .i64 0, .int .i64 0, .int .i64 0, .int .i64 0, .int .i64 0, .int .i64 0, .int .i64 0, .string ⟨#[]⟩, .string ⟨#[]⟩] 38
        have HK2 : Hid (KeptC w w.heap.size [.int .i64 ac, .int .i64 ar, .int .i64 sq, .slice a0 ds.length c0, .int .i64 kd, .int .i64 nc, .int .i64 nr, .int .i64 pc, .int .i64 pr, .int .i64 fc, .int .i64 fr, .string nm, .string vl] Un4u2) := HKx.out.step hb
        have HL2 : Hid (LogIs F Un4u2 lb room L mb ord own D) := HLx.out.below hb
        have HB2 : Hid (BelowH W1 Un4u2) := HBx.out.below hb
        have hP2 := hHeld.2.2
        rw [← eW]
        refine hK.out _ _ (⟨HK2.out, HL2.out, by rw [eW]; exact (hSBx.out.step ((Below.refl _ _).alloc (Nat.le_refl _) _))⟩) (fun hHeld2 => ?_)
        clear hK K hHeld
        have hHeld := hHeld2
        clear hHeld2
        (try simp only [Act.put, List.setIfInBounds_toArray, List.set_cons_zero, List.set_cons_succ])
        clear eW hb hP2
        refine tkW 11 (some 8) (v := ?_) ?_ hHeld ?_
        rotate_left
        · (intro w _; go_simp; try with_reducible rfl)
        refine wpAnyH_done (by kernel_rfl) ?_ _
        clear hHeld
        obtain ⟨k_0, k_1, k_2, k_3, k_4, k_5, k_6, k_7, k_8, k_9, k_10, k_11, k_12⟩ := HK2.out.all
        obtain ⟨m_0, m_1, m_2, m_3, m_4, m_5, m_6, m_7, m_8, m_9, m_10, m_11, m_12⟩ := HM0.out.all
        have HSB : Hid (namsR L (⟨ac, ar, sq, ds, kd, nc, nr, pc, pr, fc, fr, nm, vl⟩ : Ch) NL[k] = false) := by show _ = _; unfold namsR; rw [HPQ.out]; rw [HG.out]
        have HB9 : Hid (Below w.heap.size w _) := HK2.out.2.2
        go_wp2
        go_ret
        exact ⟨ret_bool (by rw [HE.out, all_nat hlt HSB.out]), HB9.out⟩
    · obtain rfl : k = NL.length := by omega
      have HT2 : Hid (NL.all (namsR L (⟨ac, ar, sq, ds, kd, nc, nr, pc, pr, fc, fr, nm, vl⟩ : Ch)) = true) := by have := HT.out; rw [List.take_length] at this; exact this
      go_wp2
      go_ret
      exact ⟨ret_bool (by rw [HE.out]; exact HT2.out.symm), HKr.out.2.2⟩

end Go.Proofs.YtngldpabfpcaiaaGreat
