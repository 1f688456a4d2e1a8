/- OplogFinds of package topiarylaw07 is proved at this commit: for every input (a list of changes, a question, any) the call returns true and the arguments read as they did. No condition. -/
import Derived.Test.YtckipepodohnpaaGreatZIf
import Derived.Test.YtckipepodohnpaaGreatOlV5
import Derived.Test.YtckipepodohnpaaGreatOlA
import Derived.Test.YtckipepodohnpaaGreatCkA
import Derived.Test.YtckipepodohnpaaGreatBaseK
namespace Go.Proofs.YtckipepodohnpaaGreat
open Go.RowKit
set_option linter.unusedVariables false
set_option linter.unusedSimpArgs false

def RowZ (b : Nat) (W : World) : Prop := W.heap[b]? = some (.cells #[.int .i64 0, .int .i64 0, .int .i64 0, .slice none 0 0, .int .i64 0, .int .i64 0, .int .i64 0, .int .i64 0, .int .i64 0, .int .i64 0, .int .i64 0, .string ⟨#[]⟩, .string ⟨#[]⟩] 34)
theorem RowZ.below {b : Nat} {W W' : World} (h : RowZ b W) (hb : Below W.heap.size W W') : RowZ b W' := (hb.block _ (row_lt h)).trans h
structure RowA (b : Nat) (c r : Int) (W : World) : Prop where
  out : W.heap[b]? = some (.cells #[.int .i64 c, .int .i64 r] 31)
theorem RowA.below {b : Nat} {c r : Int} {W W' : World} (h : RowA b c r W) (hb : Below W.heap.size W W') : RowA b c r W' := ⟨(hb.block _ (row_lt h.out)).trans h.out⟩
theorem own13 {B g : Nat} {W : World} {v : Value} {D : List Int} {v0 v1 v2 v3 v4 v5 v6 v7 v8 v9 v10 v11 v12 : Value} (h : OwnI B W v D) (hg : g < B) : OwnI B (((((((((((((W.setCell ⟨g, 0, none⟩ v0).setCell ⟨g, 1, none⟩ v1).setCell ⟨g, 2, none⟩ v2).setCell ⟨g, 3, none⟩ v3).setCell ⟨g, 4, none⟩ v4).setCell ⟨g, 5, none⟩ v5).setCell ⟨g, 6, none⟩ v6).setCell ⟨g, 7, none⟩ v7).setCell ⟨g, 8, none⟩ v8).setCell ⟨g, 9, none⟩ v9).setCell ⟨g, 10, none⟩ v10).setCell ⟨g, 11, none⟩ v11).setCell ⟨g, 12, none⟩ v12) v D := (((((((((((((h.setFar hg).setFar hg).setFar hg).setFar hg).setFar hg).setFar hg).setFar hg).setFar hg).setFar hg).setFar hg).setFar hg).setFar hg).setFar hg)
theorem below13 {n g : Nat} {w W : World} {v0 v1 v2 v3 v4 v5 v6 v7 v8 v9 v10 v11 v12 : Value} (h : Below n w W) (hg : n ≤ g) : Below n w (((((((((((((W.setCell ⟨g, 0, none⟩ v0).setCell ⟨g, 1, none⟩ v1).setCell ⟨g, 2, none⟩ v2).setCell ⟨g, 3, none⟩ v3).setCell ⟨g, 4, none⟩ v4).setCell ⟨g, 5, none⟩ v5).setCell ⟨g, 6, none⟩ v6).setCell ⟨g, 7, none⟩ v7).setCell ⟨g, 8, none⟩ v8).setCell ⟨g, 9, none⟩ v9).setCell ⟨g, 10, none⟩ v10).setCell ⟨g, 11, none⟩ v11).setCell ⟨g, 12, none⟩ v12) := (((((((((((((h.setCell (p := ⟨g, 0, none⟩) hg _).setCell (p := ⟨g, 1, none⟩) hg _).setCell (p := ⟨g, 2, none⟩) hg _).setCell (p := ⟨g, 3, none⟩) hg _).setCell (p := ⟨g, 4, none⟩) hg _).setCell (p := ⟨g, 5, none⟩) hg _).setCell (p := ⟨g, 6, none⟩) hg _).setCell (p := ⟨g, 7, none⟩) hg _).setCell (p := ⟨g, 8, none⟩) hg _).setCell (p := ⟨g, 9, none⟩) hg _).setCell (p := ⟨g, 10, none⟩) hg _).setCell (p := ⟨g, 11, none⟩) hg _).setCell (p := ⟨g, 12, none⟩) hg _)
def zeroC : Ch := ⟨0, 0, 0, [], 0, 0, 0, 0, 0, 0, 0, ⟨#[]⟩, ⟨#[]⟩⟩
theorem orEmpty_some (lb : Nat) (w : World) : Calls Tryz.prog 36 #[.pointer (some ⟨lb, 0, none⟩)] w fun e w' => e = .returned (.pointer (some ⟨lb, 0, none⟩)) ∧ w' = w := by
  go_enter Tryz.func36, Tryz.ntmps36
  go_wp2
  go_ret
  exact ⟨rfl, rfl⟩

set_option maxRecDepth 100000 in
set_option maxHeartbeats 8000000 in
theorem findLog_any (F : Nat → Prop) (lb : Nat) (room : Int) (L : List Ch) (c r : Int) (w : World) (h : LogOk F w lb room L) (hs : Srt L) :
    Calls Tryz.prog 16 #[.pointer (some ⟨lb, 0, none⟩), .agg #[.int .i64 c, .int .i64 r]] w fun e w' => ∃ v', e = .returned (.tuple #[chV ((getL L c r).getD zeroC) v', .bool (getL L c r).isSome]) ∧ OwnI w.heap.size w' v' ((getL L c r).getD zeroC).deps ∧ Below w.heap.size w w' := by
  obtain ⟨mb, ord, own, D, h⟩ := h
  obtain ⟨W0, eW⟩ : ∃ X, X = (w.alloc (.cells #[.int .i64 c, .int .i64 r] 31)).alloc (.cells #[.int .i64 0, .int .i64 0, .int .i64 0, .slice none 0 0, .int .i64 0, .int .i64 0, .int .i64 0, .int .i64 0, .int .i64 0, .int .i64 0, .int .i64 0, .string ⟨#[]⟩, .string ⟨#[]⟩] 34) := ⟨_, rfl⟩
  have hb0 : Below w.heap.size w W0 := by rw [eW]; exact ((Below.refl _ _).alloc (Nat.le_refl _) _).alloc (by simp) _
  have HLx : Hid (LogIs F W0 lb room L mb ord own D) := h.below hb0
  have HAb : Hid (RowA w.heap.size c r W0) := by rw [eW]; exact ⟨(Below.heap_alloc _ _ _ (by simp)).trans (heap_alloc_new w _)⟩
  have HRz : Hid (RowZ (w.heap.size + 1) W0) := by
    rw [eW]
    have h0 := heap_alloc_new (w.alloc (.cells #[.int .i64 c, .int .i64 r] 31)) (.cells #[.int .i64 0, .int .i64 0, .int .i64 0, .slice none 0 0, .int .i64 0, .int .i64 0, .int .i64 0, .int .i64 0, .int .i64 0, .int .i64 0, .int .i64 0, .string ⟨#[]⟩, .string ⟨#[]⟩] 34)
    rw [show (w.alloc (.cells #[.int .i64 c, .int .i64 r] 31)).heap.size = w.heap.size + 1 by simp] at h0
    exact h0
  have HBw : Hid (BelowH w W0) := hb0
  rcases getD_get h hs c r with ⟨x, hgd, hgl, hx⟩ | ⟨hgd, hgl⟩
  · obtain ⟨⟨ac2, ar2, sq2, ds2, kd2, nc2, nr2, pc2, pr2, fc2, fr2, nm2, vl2⟩, dv2⟩ := x
    have hdx := h.hdep _ hx
    have hi2 : IsI w dv2 ds2 := hdx.1.isI hdx.2.2
    obtain ⟨a2, c2, e2⟩ := hi2.form
    subst e2
    have HGD : Hid (getD D c r = some ((⟨ac2, ar2, sq2, ds2, kd2, nc2, nr2, pc2, pr2, fc2, fr2, nm2, vl2⟩ : Ch), .slice a2 ds2.length c2)) := hgd
    have HG : Hid (getL L c r = some (⟨ac2, ar2, sq2, ds2, kd2, nc2, nr2, pc2, pr2, fc2, fr2, nm2, vl2⟩ : Ch)) := hgl
    have HI2 : Hid (IsI W0 (.slice a2 ds2.length c2) ds2) := hi2.below hb0
    clear h hs hgd hgl hx hdx hi2 hb0
    go_enter Tryz.func16, Tryz.ntmps16
    go_upto_region 1 with fail
    rw [← eW]
    clear eW
    refine wp_region_held_drew (S := fun W' => W'.heap[w.heap.size]? = some (.cells #[.int .i64 c, .int .i64 r] 31) ∧ LogIs F W' lb room L mb ord own D) (by kernel_rfl) ⟨HAb.out.out, HLx.out.below (Below.refl _ _).drew⟩ (fun hHeld => ?_)
    obtain ⟨Us3u0, eW⟩ : ∃ X, X = W0.drew := ⟨_, rfl⟩
    have hb : Below W0.heap.size W0 Us3u0 := by rw [eW]; exact (Below.refl _ _).drew
    replace HLx : Hid (LogIs F Us3u0 lb room L mb ord own D) := HLx.out.below hb
    replace HRz : Hid (RowZ (w.heap.size + 1) Us3u0) := HRz.out.below hb
    replace HBw : Hid (BelowH w Us3u0) := HBw.out.below hb
    replace HAb : Hid (RowA w.heap.size c r Us3u0) := HAb.out.below hb
    replace HI2 : Hid (IsI Us3u0 (.slice a2 ds2.length c2) ds2) := HI2.out.below hb
    rw [← eW] at hHeld ⊢
    clear eW hb
    refine wpAnyH_take (i := 0) (oi := ⟨some 9, _, _, _, _, _⟩) (v := ?vs3ux0) rfl (by kernel_rfl) (by kernel_rfl) (by kernel_rfl) (fun _ _ _ h => h) (Or.inl ⟨by rfl, ?hys3ux0⟩) hHeld ?rests3ux0
    case hys3ux0 => (intro w _; go_simp; try with_reducible rfl)
    simp only [Act.put, List.setIfInBounds_toArray, List.set_cons_zero, List.set_cons_succ]
    refine wpAnyH_take (i := 5) (oi := ⟨some 14, _, _, _, _, _⟩) (v := ?vs3ux5) rfl (by kernel_rfl) (by kernel_rfl) (by kernel_rfl) (fun _ _ _ h => h) (Or.inl ⟨by rfl, ?hys3ux5⟩) hHeld ?rests3ux5
    case hys3ux5 => (intro w hSw; (try dsimp only at hSw); obtain ⟨hsb, hlg⟩ := hSw; obtain ⟨s_0, s_1, _, _⟩ := row2_cells hsb; have lc1 := hlg.cell1; have hlk : (Instr.lookup 76 (.map (some mb)) (.agg #[.int .i64 c, .int .i64 r]) true).run Tryz.prog w = .ok (.tuple #[.agg #[.int .i64 ac2, .int .i64 ar2, .int .i64 sq2, .slice a2 ds2.length c2, .int .i64 kd2, .int .i64 nc2, .int .i64 nr2, .int .i64 pc2, .int .i64 pr2, .int .i64 fc2, .int .i64 fr2, .string nm2, .string vl2], .bool true]) w := (by have h0 := look_st hlg.hmap c r; rw [HGD.out] at h0; exact h0); go_simp; try with_reducible rfl)
    simp only [Act.put, List.setIfInBounds_toArray, List.set_cons_zero, List.set_cons_succ]
    refine wpAnyH_ready (rs := [1, 10]) (by kernel_rfl) (by simp) ?_
    refine AllReadyH.cons (o := ⟨some 10, _, _, _, _, _⟩) rfl (fun K hK => ?_) (AllReadyH.cons (o := ⟨some 6, _, _, _, _, _⟩) rfl (fun K hK => ?_) AllReadyH.nil)
    · go_simp
      refine (orEmpty_some lb _).mono ?_
      rintro e w' ⟨rfl, hw⟩
      replace hw := hw.symm
      subst hw
      (try go_wp2_with fail)
      refine hK.out _ _ (hHeld) (fun hHeld2 => ?_)
      clear hK K hHeld
      have hHeld := hHeld2
      clear hHeld2
      (try simp only [Act.put, List.setIfInBounds_toArray, List.set_cons_zero, List.set_cons_succ])
      refine wpAnyH_take (i := 2) (oi := ⟨some 11, _, _, _, _, _⟩) (v := ?vs3u_1x2) rfl (by kernel_rfl) (by kernel_rfl) (by kernel_rfl) (fun _ _ _ h => h) (Or.inl ⟨by rfl, ?hys3u_1x2⟩) hHeld ?rests3u_1x2
      case hys3u_1x2 => (intro w hSw; (try dsimp only at hSw); obtain ⟨hsb, hlg⟩ := hSw; obtain ⟨s_0, s_1, _, _⟩ := row2_cells hsb; have lc1 := hlg.cell1; have hlk : (Instr.lookup 76 (.map (some mb)) (.agg #[.int .i64 c, .int .i64 r]) true).run Tryz.prog w = .ok (.tuple #[.agg #[.int .i64 ac2, .int .i64 ar2, .int .i64 sq2, .slice a2 ds2.length c2, .int .i64 kd2, .int .i64 nc2, .int .i64 nr2, .int .i64 pc2, .int .i64 pr2, .int .i64 fc2, .int .i64 fr2, .string nm2, .string vl2], .bool true]) w := (by have h0 := look_st hlg.hmap c r; rw [HGD.out] at h0; exact h0); go_simp; try with_reducible rfl)
      simp only [Act.put, List.setIfInBounds_toArray, List.set_cons_zero, List.set_cons_succ]
      refine wpAnyH_take (i := 3) (oi := ⟨some 12, _, _, _, _, _⟩) (v := ?vs3u_1x3) rfl (by kernel_rfl) (by kernel_rfl) (by kernel_rfl) (fun _ _ _ h => h) (Or.inl ⟨by rfl, ?hys3u_1x3⟩) hHeld ?rests3u_1x3
      case hys3u_1x3 => (intro w _; go_simp; try with_reducible rfl)
      simp only [Act.put, List.setIfInBounds_toArray, List.set_cons_zero, List.set_cons_succ]
      refine wpAnyH_take (i := 4) (oi := ⟨some 13, _, _, _, _, _⟩) (v := ?vs3u_1x4) rfl (by kernel_rfl) (by kernel_rfl) (by kernel_rfl) (fun _ _ _ h => h) (Or.inl ⟨by rfl, ?hys3u_1x4⟩) hHeld ?rests3u_1x4
      case hys3u_1x4 => (intro w hSw; (try dsimp only at hSw); obtain ⟨hsb, hlg⟩ := hSw; obtain ⟨s_0, s_1, _, _⟩ := row2_cells hsb; have lc1 := hlg.cell1; have hlk : (Instr.lookup 76 (.map (some mb)) (.agg #[.int .i64 c, .int .i64 r]) true).run Tryz.prog w = .ok (.tuple #[.agg #[.int .i64 ac2, .int .i64 ar2, .int .i64 sq2, .slice a2 ds2.length c2, .int .i64 kd2, .int .i64 nc2, .int .i64 nr2, .int .i64 pc2, .int .i64 pr2, .int .i64 fc2, .int .i64 fr2, .string nm2, .string vl2], .bool true]) w := (by have h0 := look_st hlg.hmap c r; rw [HGD.out] at h0; exact h0); go_simp; try with_reducible rfl)
      simp only [Act.put, List.setIfInBounds_toArray, List.set_cons_zero, List.set_cons_succ]
      refine wpAnyH_take (i := 6) (oi := ⟨some 15, _, _, _, _, _⟩) (v := ?vs3u_1x6) rfl (by kernel_rfl) (by kernel_rfl) (by kernel_rfl) (fun _ _ _ h => h) (Or.inl ⟨by rfl, ?hys3u_1x6⟩) hHeld ?rests3u_1x6
      case hys3u_1x6 => (intro w hSw; (try dsimp only at hSw); obtain ⟨hsb, hlg⟩ := hSw; obtain ⟨s_0, s_1, _, _⟩ := row2_cells hsb; have lc1 := hlg.cell1; have hlk : (Instr.lookup 76 (.map (some mb)) (.agg #[.int .i64 c, .int .i64 r]) true).run Tryz.prog w = .ok (.tuple #[.agg #[.int .i64 ac2, .int .i64 ar2, .int .i64 sq2, .slice a2 ds2.length c2, .int .i64 kd2, .int .i64 nc2, .int .i64 nr2, .int .i64 pc2, .int .i64 pr2, .int .i64 fc2, .int .i64 fr2, .string nm2, .string vl2], .bool true]) w := (by have h0 := look_st hlg.hmap c r; rw [HGD.out] at h0; exact h0); go_simp; try with_reducible rfl)
      simp only [Act.put, List.setIfInBounds_toArray, List.set_cons_zero, List.set_cons_succ]
      refine wpAnyH_take (i := 7) (oi := ⟨some 8, _, _, _, _, _⟩) (v := ?vs3u_1x7) rfl (by kernel_rfl) (by kernel_rfl) (by kernel_rfl) (fun _ _ _ h => h) (Or.inl ⟨by rfl, ?hys3u_1x7⟩) hHeld ?rests3u_1x7
      case hys3u_1x7 => (intro w _; go_simp; try with_reducible rfl)
      simp only [Act.put, List.setIfInBounds_toArray, List.set_cons_zero, List.set_cons_succ]
      refine wpAnyH_take (i := 8) (oi := ⟨some 16, _, _, _, _, _⟩) (v := ?vs3u_1x8) rfl (by kernel_rfl) (by kernel_rfl) (by kernel_rfl) (fun _ _ _ h => h) (Or.inl ⟨by rfl, ?hys3u_1x8⟩) hHeld ?rests3u_1x8
      case hys3u_1x8 => (intro w _; go_simp; try with_reducible rfl)
      simp only [Act.put, List.setIfInBounds_toArray, List.set_cons_zero, List.set_cons_succ]
      refine wpAnyH_take (i := 9) (oi := ⟨some 17, _, _, _, _, _⟩) (v := ?vs3u_1x9) rfl (by kernel_rfl) (by kernel_rfl) (by kernel_rfl) (fun _ _ _ h => h) (Or.inl ⟨by rfl, ?hys3u_1x9⟩) hHeld ?rests3u_1x9
      case hys3u_1x9 => (intro w _; go_simp; try with_reducible rfl)
      simp only [Act.put, List.setIfInBounds_toArray, List.set_cons_zero, List.set_cons_succ]
      refine wpAnyH_ready (rs := [10]) (by kernel_rfl) (by simp) ?_
      refine AllReadyH.cons (o := ⟨some 6, _, _, _, _, _⟩) rfl (fun K hK => ?_) AllReadyH.nil
      go_simp
      refine hK.out _ _ (⟨((((Below.refl _ _).alloc (Nat.le_refl _) _)).block _ (row_lt hHeld.1)).trans hHeld.1, hHeld.2.below ((Below.refl _ _).alloc (Nat.le_refl _) _)⟩) (fun hHeld2 => ?_)
      clear hK K hHeld
      have hHeld := hHeld2
      clear hHeld2
      (try simp only [Act.put, List.setIfInBounds_toArray, List.set_cons_zero, List.set_cons_succ])
      refine wpAnyH_ready (rs := [11]) (by kernel_rfl) (by simp) ?_
      refine AllReadyH.cons (o := ⟨none, _, _, _, _, _⟩) rfl (fun K hK => ?_) AllReadyH.nil
      refine step_store_new rfl 34 (.tmp 6) (.tmp 16) rfl _ _ rfl rfl sizeChange rfl (by simp [Value.oneCell']) ?_
      obtain ⟨Us3u3, eW⟩ : ∃ Y, Y = Us3u0.alloc (.cells #[.int .i64 ac2, .int .i64 ar2, .int .i64 sq2, .slice a2 ds2.length c2, .int .i64 kd2, .int .i64 nc2, .int .i64 nr2, .int .i64 pc2, .int .i64 pr2, .int .i64 fc2, .int .i64 fr2, .string nm2, .string vl2] 34) := ⟨_, rfl⟩
      have hb : Below Us3u0.heap.size Us3u0 Us3u3 := by rw [eW]; exact (Below.refl _ _).alloc (Nat.le_refl _) _
      have HM0 : Hid (KeptC Us3u0 Us3u0.heap.size [.int .i64 ac2, .int .i64 ar2, .int .i64 sq2, .slice a2 ds2.length c2, .int .i64 kd2, .int .i64 nc2, .int .i64 nr2, .int .i64 pc2, .int .i64 pr2, .int .i64 fc2, .int .i64 fr2, .string nm2, .string vl2] Us3u3) := by rw [eW]; exact KeptC.start Us3u0 [.int .i64 ac2, .int .i64 ar2, .int .i64 sq2, .slice a2 ds2.length c2, .int .i64 kd2, .int .i64 nc2, .int .i64 nr2, .int .i64 pc2, .int .i64 pr2, .int .i64 fc2, .int .i64 fr2, .string nm2, .string vl2] 34
      have HL2 : Hid (LogIs F Us3u3 lb room L mb ord own D) := HLx.out.below hb
      have HR2 : Hid (RowZ (w.heap.size + 1) Us3u3) := HRz.out.below hb
      have HB2 : Hid (BelowH w Us3u3) := HBw.out.below hb
      rw [← eW]
      refine hK.out _ _ (⟨(HAb.out.below hb).out, HL2.out⟩) (fun hHeld2 => ?_)
      clear hK K hHeld
      have hHeld := hHeld2
      clear hHeld2
      (try simp only [Act.put, List.setIfInBounds_toArray, List.set_cons_zero, List.set_cons_succ])
      clear eW hb
      refine wpAnyH_take (i := 12) (oi := ⟨some 7, _, _, _, _, _⟩) (v := ?vs3u_1_10_11x12) rfl (by kernel_rfl) (by kernel_rfl) (by kernel_rfl) (fun _ _ _ h => h) (Or.inl ⟨by rfl, ?hys3u_1_10_11x12⟩) hHeld ?rests3u_1_10_11x12
      case hys3u_1_10_11x12 => (intro w _; go_simp; try with_reducible rfl)
      simp only [Act.put, List.setIfInBounds_toArray, List.set_cons_zero, List.set_cons_succ]
      refine wpAnyH_done (by kernel_rfl) ?_ _
      clear hHeld
      obtain ⟨m_0, m_1, m_2, m_3, m_4, m_5, m_6, m_7, m_8, m_9, m_10, m_11, m_12⟩ := HM0.out.all
      go_wp2_with fail
      refine (copyCh_any ac2 ar2 sq2 (.slice a2 ds2.length c2) kd2 nc2 nr2 pc2 pr2 fc2 fr2 nm2 vl2 ds2 _ (HI2.out.below HM0.out.2.2)).mono ?_
      rintro e w9 ⟨v9, rfl, ho9, hb9⟩
      have HR9 : Hid (RowZ (w.heap.size + 1) w9) := HR2.out.below hb9
      have HB9 : Hid (Below w.heap.size w w9) := HB2.out.below hb9
      have hs9 : w.heap.size + 1 < Us3u3.heap.size := row_lt HR2.out
      obtain ⟨a9, c9, e9⟩ := ho9.form
      subst e9
      have HO9 : Hid (OwnI (Us3u3.heap.size + 2) w9 _ _) := ho9
      have hzr : w9.heap[w.heap.size + 1]? = _ := HR9.out
      obtain ⟨z_0, z_1, z_2, z_3, z_4, z_5, z_6, z_7, z_8, z_9, z_10, z_11, z_12⟩ := row_cells hzr
      have fz := row_free hzr
      clear ho9 hb9 hzr m_0 m_1 m_2 m_3 m_4 m_5 m_6 m_7 m_8 m_9 m_10 m_11 m_12
      go_wp2
      (try simp only [Exit.inBlock, Exit.then])
      refine bodyPost_ret (results_cell_row2 rfl _ _ (w.heap.size + 1) _ _ _ _ rfl (row_set13 HR9.out) Tryz.underlying34 rfl (by kernel_rfl) rfl) rfl ?_
      refine ⟨_, by rw [HG.out]; rfl, ?_, below13 HB9.out (by omega)⟩
      rw [HG.out]
      exact OwnI.low (own13 HO9.out (by omega)) (by omega)
    · go_simp
      refine hK.out _ _ (⟨((((Below.refl _ _).alloc (Nat.le_refl _) _)).block _ (row_lt hHeld.1)).trans hHeld.1, hHeld.2.below ((Below.refl _ _).alloc (Nat.le_refl _) _)⟩) (fun hHeld2 => ?_)
      clear hK K hHeld
      have hHeld := hHeld2
      clear hHeld2
      (try simp only [Act.put, List.setIfInBounds_toArray, List.set_cons_zero, List.set_cons_succ])
      refine wpAnyH_ready (rs := [1]) (by kernel_rfl) (by simp) ?_
      refine AllReadyH.cons (o := ⟨some 10, _, _, _, _, _⟩) rfl (fun K hK => ?_) AllReadyH.nil
      go_simp
      refine (orEmpty_some lb _).mono ?_
      rintro e w' ⟨rfl, hw⟩
      replace hw := hw.symm
      subst hw
      (try go_wp2_with fail)
      refine hK.out _ _ (hHeld) (fun hHeld2 => ?_)
      clear hK K hHeld
      have hHeld := hHeld2
      clear hHeld2
      (try simp only [Act.put, List.setIfInBounds_toArray, List.set_cons_zero, List.set_cons_succ])
      refine wpAnyH_take (i := 2) (oi := ⟨some 11, _, _, _, _, _⟩) (v := ?vs3u_10_1x2) rfl (by kernel_rfl) (by kernel_rfl) (by kernel_rfl) (fun _ _ _ h => h) (Or.inl ⟨by rfl, ?hys3u_10_1x2⟩) hHeld ?rests3u_10_1x2
      case hys3u_10_1x2 => (intro w hSw; (try dsimp only at hSw); obtain ⟨hsb, hlg⟩ := hSw; obtain ⟨s_0, s_1, _, _⟩ := row2_cells hsb; have lc1 := hlg.cell1; have hlk : (Instr.lookup 76 (.map (some mb)) (.agg #[.int .i64 c, .int .i64 r]) true).run Tryz.prog w = .ok (.tuple #[.agg #[.int .i64 ac2, .int .i64 ar2, .int .i64 sq2, .slice a2 ds2.length c2, .int .i64 kd2, .int .i64 nc2, .int .i64 nr2, .int .i64 pc2, .int .i64 pr2, .int .i64 fc2, .int .i64 fr2, .string nm2, .string vl2], .bool true]) w := (by have h0 := look_st hlg.hmap c r; rw [HGD.out] at h0; exact h0); go_simp; try with_reducible rfl)
      simp only [Act.put, List.setIfInBounds_toArray, List.set_cons_zero, List.set_cons_succ]
      refine wpAnyH_take (i := 3) (oi := ⟨some 12, _, _, _, _, _⟩) (v := ?vs3u_10_1x3) rfl (by kernel_rfl) (by kernel_rfl) (by kernel_rfl) (fun _ _ _ h => h) (Or.inl ⟨by rfl, ?hys3u_10_1x3⟩) hHeld ?rests3u_10_1x3
      case hys3u_10_1x3 => (intro w _; go_simp; try with_reducible rfl)
      simp only [Act.put, List.setIfInBounds_toArray, List.set_cons_zero, List.set_cons_succ]
      refine wpAnyH_take (i := 4) (oi := ⟨some 13, _, _, _, _, _⟩) (v := ?vs3u_10_1x4) rfl (by kernel_rfl) (by kernel_rfl) (by kernel_rfl) (fun _ _ _ h => h) (Or.inl ⟨by rfl, ?hys3u_10_1x4⟩) hHeld ?rests3u_10_1x4
      case hys3u_10_1x4 => (intro w hSw; (try dsimp only at hSw); obtain ⟨hsb, hlg⟩ := hSw; obtain ⟨s_0, s_1, _, _⟩ := row2_cells hsb; have lc1 := hlg.cell1; have hlk : (Instr.lookup 76 (.map (some mb)) (.agg #[.int .i64 c, .int .i64 r]) true).run Tryz.prog w = .ok (.tuple #[.agg #[.int .i64 ac2, .int .i64 ar2, .int .i64 sq2, .slice a2 ds2.length c2, .int .i64 kd2, .int .i64 nc2, .int .i64 nr2, .int .i64 pc2, .int .i64 pr2, .int .i64 fc2, .int .i64 fr2, .string nm2, .string vl2], .bool true]) w := (by have h0 := look_st hlg.hmap c r; rw [HGD.out] at h0; exact h0); go_simp; try with_reducible rfl)
      simp only [Act.put, List.setIfInBounds_toArray, List.set_cons_zero, List.set_cons_succ]
      refine wpAnyH_take (i := 6) (oi := ⟨some 15, _, _, _, _, _⟩) (v := ?vs3u_10_1x6) rfl (by kernel_rfl) (by kernel_rfl) (by kernel_rfl) (fun _ _ _ h => h) (Or.inl ⟨by rfl, ?hys3u_10_1x6⟩) hHeld ?rests3u_10_1x6
      case hys3u_10_1x6 => (intro w hSw; (try dsimp only at hSw); obtain ⟨hsb, hlg⟩ := hSw; obtain ⟨s_0, s_1, _, _⟩ := row2_cells hsb; have lc1 := hlg.cell1; have hlk : (Instr.lookup 76 (.map (some mb)) (.agg #[.int .i64 c, .int .i64 r]) true).run Tryz.prog w = .ok (.tuple #[.agg #[.int .i64 ac2, .int .i64 ar2, .int .i64 sq2, .slice a2 ds2.length c2, .int .i64 kd2, .int .i64 nc2, .int .i64 nr2, .int .i64 pc2, .int .i64 pr2, .int .i64 fc2, .int .i64 fr2, .string nm2, .string vl2], .bool true]) w := (by have h0 := look_st hlg.hmap c r; rw [HGD.out] at h0; exact h0); go_simp; try with_reducible rfl)
      simp only [Act.put, List.setIfInBounds_toArray, List.set_cons_zero, List.set_cons_succ]
      refine wpAnyH_take (i := 7) (oi := ⟨some 8, _, _, _, _, _⟩) (v := ?vs3u_10_1x7) rfl (by kernel_rfl) (by kernel_rfl) (by kernel_rfl) (fun _ _ _ h => h) (Or.inl ⟨by rfl, ?hys3u_10_1x7⟩) hHeld ?rests3u_10_1x7
      case hys3u_10_1x7 => (intro w _; go_simp; try with_reducible rfl)
      simp only [Act.put, List.setIfInBounds_toArray, List.set_cons_zero, List.set_cons_succ]
      refine wpAnyH_take (i := 8) (oi := ⟨some 16, _, _, _, _, _⟩) (v := ?vs3u_10_1x8) rfl (by kernel_rfl) (by kernel_rfl) (by kernel_rfl) (fun _ _ _ h => h) (Or.inl ⟨by rfl, ?hys3u_10_1x8⟩) hHeld ?rests3u_10_1x8
      case hys3u_10_1x8 => (intro w _; go_simp; try with_reducible rfl)
      simp only [Act.put, List.setIfInBounds_toArray, List.set_cons_zero, List.set_cons_succ]
      refine wpAnyH_take (i := 9) (oi := ⟨some 17, _, _, _, _, _⟩) (v := ?vs3u_10_1x9) rfl (by kernel_rfl) (by kernel_rfl) (by kernel_rfl) (fun _ _ _ h => h) (Or.inl ⟨by rfl, ?hys3u_10_1x9⟩) hHeld ?rests3u_10_1x9
      case hys3u_10_1x9 => (intro w _; go_simp; try with_reducible rfl)
      simp only [Act.put, List.setIfInBounds_toArray, List.set_cons_zero, List.set_cons_succ]
      refine wpAnyH_ready (rs := [11]) (by kernel_rfl) (by simp) ?_
      refine AllReadyH.cons (o := ⟨none, _, _, _, _, _⟩) rfl (fun K hK => ?_) AllReadyH.nil
      refine step_store_new rfl 34 (.tmp 6) (.tmp 16) rfl _ _ rfl rfl sizeChange rfl (by simp [Value.oneCell']) ?_
      obtain ⟨Us3u6, eW⟩ : ∃ Y, Y = Us3u0.alloc (.cells #[.int .i64 ac2, .int .i64 ar2, .int .i64 sq2, .slice a2 ds2.length c2, .int .i64 kd2, .int .i64 nc2, .int .i64 nr2, .int .i64 pc2, .int .i64 pr2, .int .i64 fc2, .int .i64 fr2, .string nm2, .string vl2] 34) := ⟨_, rfl⟩
      have hb : Below Us3u0.heap.size Us3u0 Us3u6 := by rw [eW]; exact (Below.refl _ _).alloc (Nat.le_refl _) _
      have HM0 : Hid (KeptC Us3u0 Us3u0.heap.size [.int .i64 ac2, .int .i64 ar2, .int .i64 sq2, .slice a2 ds2.length c2, .int .i64 kd2, .int .i64 nc2, .int .i64 nr2, .int .i64 pc2, .int .i64 pr2, .int .i64 fc2, .int .i64 fr2, .string nm2, .string vl2] Us3u6) := by rw [eW]; exact KeptC.start Us3u0 [.int .i64 ac2, .int .i64 ar2, .int .i64 sq2, .slice a2 ds2.length c2, .int .i64 kd2, .int .i64 nc2, .int .i64 nr2, .int .i64 pc2, .int .i64 pr2, .int .i64 fc2, .int .i64 fr2, .string nm2, .string vl2] 34
      have HL2 : Hid (LogIs F Us3u6 lb room L mb ord own D) := HLx.out.below hb
      have HR2 : Hid (RowZ (w.heap.size + 1) Us3u6) := HRz.out.below hb
      have HB2 : Hid (BelowH w Us3u6) := HBw.out.below hb
      rw [← eW]
      refine hK.out _ _ (⟨(HAb.out.below hb).out, HL2.out⟩) (fun hHeld2 => ?_)
      clear hK K hHeld
      have hHeld := hHeld2
      clear hHeld2
      (try simp only [Act.put, List.setIfInBounds_toArray, List.set_cons_zero, List.set_cons_succ])
      clear eW hb
      refine wpAnyH_take (i := 12) (oi := ⟨some 7, _, _, _, _, _⟩) (v := ?vs3u_10_1_11x12) rfl (by kernel_rfl) (by kernel_rfl) (by kernel_rfl) (fun _ _ _ h => h) (Or.inl ⟨by rfl, ?hys3u_10_1_11x12⟩) hHeld ?rests3u_10_1_11x12
      case hys3u_10_1_11x12 => (intro w _; go_simp; try with_reducible rfl)
      simp only [Act.put, List.setIfInBounds_toArray, List.set_cons_zero, List.set_cons_succ]
      refine wpAnyH_done (by kernel_rfl) ?_ _
      clear hHeld
      obtain ⟨m_0, m_1, m_2, m_3, m_4, m_5, m_6, m_7, m_8, m_9, m_10, m_11, m_12⟩ := HM0.out.all
      go_wp2_with fail
      refine (copyCh_any ac2 ar2 sq2 (.slice a2 ds2.length c2) kd2 nc2 nr2 pc2 pr2 fc2 fr2 nm2 vl2 ds2 _ (HI2.out.below HM0.out.2.2)).mono ?_
      rintro e w9 ⟨v9, rfl, ho9, hb9⟩
      have HR9 : Hid (RowZ (w.heap.size + 1) w9) := HR2.out.below hb9
      have HB9 : Hid (Below w.heap.size w w9) := HB2.out.below hb9
      have hs9 : w.heap.size + 1 < Us3u6.heap.size := row_lt HR2.out
      obtain ⟨a9, c9, e9⟩ := ho9.form
      subst e9
      have HO9 : Hid (OwnI (Us3u6.heap.size + 2) w9 _ _) := ho9
      have hzr : w9.heap[w.heap.size + 1]? = _ := HR9.out
      obtain ⟨z_0, z_1, z_2, z_3, z_4, z_5, z_6, z_7, z_8, z_9, z_10, z_11, z_12⟩ := row_cells hzr
      have fz := row_free hzr
      clear ho9 hb9 hzr m_0 m_1 m_2 m_3 m_4 m_5 m_6 m_7 m_8 m_9 m_10 m_11 m_12
      go_wp2
      (try simp only [Exit.inBlock, Exit.then])
      refine bodyPost_ret (results_cell_row2 rfl _ _ (w.heap.size + 1) _ _ _ _ rfl (row_set13 HR9.out) Tryz.underlying34 rfl (by kernel_rfl) rfl) rfl ?_
      refine ⟨_, by rw [HG.out]; rfl, ?_, below13 HB9.out (by omega)⟩
      rw [HG.out]
      exact OwnI.low (own13 HO9.out (by omega)) (by omega)
  · have HGD : Hid (getD D c r = none) := hgd
    have HG : Hid (getL L c r = none) := hgl
    clear h hs hgd hgl hb0
    go_enter Tryz.func16, Tryz.ntmps16
    go_upto_region 1 with fail
    rw [← eW]
    clear eW
    refine wp_region_held_drew (S := fun W' => W'.heap[w.heap.size]? = some (.cells #[.int .i64 c, .int .i64 r] 31) ∧ LogIs F W' lb room L mb ord own D) (by kernel_rfl) ⟨HAb.out.out, HLx.out.below (Below.refl _ _).drew⟩ (fun hHeld => ?_)
    obtain ⟨Un4u0, eW⟩ : ∃ X, X = W0.drew := ⟨_, rfl⟩
    have hb : Below W0.heap.size W0 Un4u0 := by rw [eW]; exact (Below.refl _ _).drew
    replace HLx : Hid (LogIs F Un4u0 lb room L mb ord own D) := HLx.out.below hb
    replace HRz : Hid (RowZ (w.heap.size + 1) Un4u0) := HRz.out.below hb
    replace HBw : Hid (BelowH w Un4u0) := HBw.out.below hb
    replace HAb : Hid (RowA w.heap.size c r Un4u0) := HAb.out.below hb
    rw [← eW] at hHeld ⊢
    clear eW hb
    refine wpAnyH_take (i := 0) (oi := ⟨some 9, _, _, _, _, _⟩) (v := ?vn4ux0) rfl (by kernel_rfl) (by kernel_rfl) (by kernel_rfl) (fun _ _ _ h => h) (Or.inl ⟨by rfl, ?hyn4ux0⟩) hHeld ?restn4ux0
    case hyn4ux0 => (intro w _; go_simp; try with_reducible rfl)
    simp only [Act.put, List.setIfInBounds_toArray, List.set_cons_zero, List.set_cons_succ]
    refine wpAnyH_take (i := 5) (oi := ⟨some 14, _, _, _, _, _⟩) (v := ?vn4ux5) rfl (by kernel_rfl) (by kernel_rfl) (by kernel_rfl) (fun _ _ _ h => h) (Or.inl ⟨by rfl, ?hyn4ux5⟩) hHeld ?restn4ux5
    case hyn4ux5 => (intro w hSw; (try dsimp only at hSw); obtain ⟨hsb, hlg⟩ := hSw; obtain ⟨s_0, s_1, _, _⟩ := row2_cells hsb; have lc1 := hlg.cell1; have hlk : (Instr.lookup 76 (.map (some mb)) (.agg #[.int .i64 c, .int .i64 r]) true).run Tryz.prog w = .ok (.tuple #[.agg #[.int .i64 0, .int .i64 0, .int .i64 0, .slice none 0 0, .int .i64 0, .int .i64 0, .int .i64 0, .int .i64 0, .int .i64 0, .int .i64 0, .int .i64 0, .string ⟨#[]⟩, .string ⟨#[]⟩], .bool false]) w := (by have h0 := look_st hlg.hmap c r; rw [HGD.out] at h0; exact h0); go_simp; try with_reducible rfl)
    simp only [Act.put, List.setIfInBounds_toArray, List.set_cons_zero, List.set_cons_succ]
    refine wpAnyH_ready (rs := [1, 10]) (by kernel_rfl) (by simp) ?_
    refine AllReadyH.cons (o := ⟨some 10, _, _, _, _, _⟩) rfl (fun K hK => ?_) (AllReadyH.cons (o := ⟨some 6, _, _, _, _, _⟩) rfl (fun K hK => ?_) AllReadyH.nil)
    · go_simp
      refine (orEmpty_some lb _).mono ?_
      rintro e w' ⟨rfl, hw⟩
      replace hw := hw.symm
      subst hw
      (try go_wp2_with fail)
      refine hK.out _ _ (hHeld) (fun hHeld2 => ?_)
      clear hK K hHeld
      have hHeld := hHeld2
      clear hHeld2
      (try simp only [Act.put, List.setIfInBounds_toArray, List.set_cons_zero, List.set_cons_succ])
      refine wpAnyH_take (i := 2) (oi := ⟨some 11, _, _, _, _, _⟩) (v := ?vn4u_1x2) rfl (by kernel_rfl) (by kernel_rfl) (by kernel_rfl) (fun _ _ _ h => h) (Or.inl ⟨by rfl, ?hyn4u_1x2⟩) hHeld ?restn4u_1x2
      case hyn4u_1x2 => (intro w hSw; (try dsimp only at hSw); obtain ⟨hsb, hlg⟩ := hSw; obtain ⟨s_0, s_1, _, _⟩ := row2_cells hsb; have lc1 := hlg.cell1; have hlk : (Instr.lookup 76 (.map (some mb)) (.agg #[.int .i64 c, .int .i64 r]) true).run Tryz.prog w = .ok (.tuple #[.agg #[.int .i64 0, .int .i64 0, .int .i64 0, .slice none 0 0, .int .i64 0, .int .i64 0, .int .i64 0, .int .i64 0, .int .i64 0, .int .i64 0, .int .i64 0, .string ⟨#[]⟩, .string ⟨#[]⟩], .bool false]) w := (by have h0 := look_st hlg.hmap c r; rw [HGD.out] at h0; exact h0); go_simp; try with_reducible rfl)
      simp only [Act.put, List.setIfInBounds_toArray, List.set_cons_zero, List.set_cons_succ]
      refine wpAnyH_take (i := 3) (oi := ⟨some 12, _, _, _, _, _⟩) (v := ?vn4u_1x3) rfl (by kernel_rfl) (by kernel_rfl) (by kernel_rfl) (fun _ _ _ h => h) (Or.inl ⟨by rfl, ?hyn4u_1x3⟩) hHeld ?restn4u_1x3
      case hyn4u_1x3 => (intro w _; go_simp; try with_reducible rfl)
      simp only [Act.put, List.setIfInBounds_toArray, List.set_cons_zero, List.set_cons_succ]
      refine wpAnyH_take (i := 4) (oi := ⟨some 13, _, _, _, _, _⟩) (v := ?vn4u_1x4) rfl (by kernel_rfl) (by kernel_rfl) (by kernel_rfl) (fun _ _ _ h => h) (Or.inl ⟨by rfl, ?hyn4u_1x4⟩) hHeld ?restn4u_1x4
      case hyn4u_1x4 => (intro w hSw; (try dsimp only at hSw); obtain ⟨hsb, hlg⟩ := hSw; obtain ⟨s_0, s_1, _, _⟩ := row2_cells hsb; have lc1 := hlg.cell1; have hlk : (Instr.lookup 76 (.map (some mb)) (.agg #[.int .i64 c, .int .i64 r]) true).run Tryz.prog w = .ok (.tuple #[.agg #[.int .i64 0, .int .i64 0, .int .i64 0, .slice none 0 0, .int .i64 0, .int .i64 0, .int .i64 0, .int .i64 0, .int .i64 0, .int .i64 0, .int .i64 0, .string ⟨#[]⟩, .string ⟨#[]⟩], .bool false]) w := (by have h0 := look_st hlg.hmap c r; rw [HGD.out] at h0; exact h0); go_simp; try with_reducible rfl)
      simp only [Act.put, List.setIfInBounds_toArray, List.set_cons_zero, List.set_cons_succ]
      refine wpAnyH_take (i := 6) (oi := ⟨some 15, _, _, _, _, _⟩) (v := ?vn4u_1x6) rfl (by kernel_rfl) (by kernel_rfl) (by kernel_rfl) (fun _ _ _ h => h) (Or.inl ⟨by rfl, ?hyn4u_1x6⟩) hHeld ?restn4u_1x6
      case hyn4u_1x6 => (intro w hSw; (try dsimp only at hSw); obtain ⟨hsb, hlg⟩ := hSw; obtain ⟨s_0, s_1, _, _⟩ := row2_cells hsb; have lc1 := hlg.cell1; have hlk : (Instr.lookup 76 (.map (some mb)) (.agg #[.int .i64 c, .int .i64 r]) true).run Tryz.prog w = .ok (.tuple #[.agg #[.int .i64 0, .int .i64 0, .int .i64 0, .slice none 0 0, .int .i64 0, .int .i64 0, .int .i64 0, .int .i64 0, .int .i64 0, .int .i64 0, .int .i64 0, .string ⟨#[]⟩, .string ⟨#[]⟩], .bool false]) w := (by have h0 := look_st hlg.hmap c r; rw [HGD.out] at h0; exact h0); go_simp; try with_reducible rfl)
      simp only [Act.put, List.setIfInBounds_toArray, List.set_cons_zero, List.set_cons_succ]
      refine wpAnyH_take (i := 7) (oi := ⟨some 8, _, _, _, _, _⟩) (v := ?vn4u_1x7) rfl (by kernel_rfl) (by kernel_rfl) (by kernel_rfl) (fun _ _ _ h => h) (Or.inl ⟨by rfl, ?hyn4u_1x7⟩) hHeld ?restn4u_1x7
      case hyn4u_1x7 => (intro w _; go_simp; try with_reducible rfl)
      simp only [Act.put, List.setIfInBounds_toArray, List.set_cons_zero, List.set_cons_succ]
      refine wpAnyH_take (i := 8) (oi := ⟨some 16, _, _, _, _, _⟩) (v := ?vn4u_1x8) rfl (by kernel_rfl) (by kernel_rfl) (by kernel_rfl) (fun _ _ _ h => h) (Or.inl ⟨by rfl, ?hyn4u_1x8⟩) hHeld ?restn4u_1x8
      case hyn4u_1x8 => (intro w _; go_simp; try with_reducible rfl)
      simp only [Act.put, List.setIfInBounds_toArray, List.set_cons_zero, List.set_cons_succ]
      refine wpAnyH_take (i := 9) (oi := ⟨some 17, _, _, _, _, _⟩) (v := ?vn4u_1x9) rfl (by kernel_rfl) (by kernel_rfl) (by kernel_rfl) (fun _ _ _ h => h) (Or.inl ⟨by rfl, ?hyn4u_1x9⟩) hHeld ?restn4u_1x9
      case hyn4u_1x9 => (intro w _; go_simp; try with_reducible rfl)
      simp only [Act.put, List.setIfInBounds_toArray, List.set_cons_zero, List.set_cons_succ]
      refine wpAnyH_ready (rs := [10]) (by kernel_rfl) (by simp) ?_
      refine AllReadyH.cons (o := ⟨some 6, _, _, _, _, _⟩) rfl (fun K hK => ?_) AllReadyH.nil
      go_simp
      refine hK.out _ _ (⟨((((Below.refl _ _).alloc (Nat.le_refl _) _)).block _ (row_lt hHeld.1)).trans hHeld.1, hHeld.2.below ((Below.refl _ _).alloc (Nat.le_refl _) _)⟩) (fun hHeld2 => ?_)
      clear hK K hHeld
      have hHeld := hHeld2
      clear hHeld2
      (try simp only [Act.put, List.setIfInBounds_toArray, List.set_cons_zero, List.set_cons_succ])
      refine wpAnyH_ready (rs := [11]) (by kernel_rfl) (by simp) ?_
      refine AllReadyH.cons (o := ⟨none, _, _, _, _, _⟩) rfl (fun K hK => ?_) AllReadyH.nil
      refine step_store_new rfl 34 (.tmp 6) (.tmp 16) rfl _ _ rfl rfl sizeChange rfl (by simp [Value.oneCell']) ?_
      obtain ⟨Un4u3, eW⟩ : ∃ Y, Y = Un4u0.alloc (.cells #[.int .i64 0, .int .i64 0, .int .i64 0, .slice none 0 0, .int .i64 0, .int .i64 0, .int .i64 0, .int .i64 0, .int .i64 0, .int .i64 0, .int .i64 0, .string ⟨#[]⟩, .string ⟨#[]⟩] 34) := ⟨_, rfl⟩
      have hb : Below Un4u0.heap.size Un4u0 Un4u3 := by rw [eW]; exact (Below.refl _ _).alloc (Nat.le_refl _) _
      have HM0 : Hid (KeptC Un4u0 Un4u0.heap.size [.int .i64 0, .int .i64 0, .int .i64 0, .slice none 0 0, .int .i64 0, .int .i64 0, .int .i64 0, .int .i64 0, .int .i64 0, .int .i64 0, .int .i64 0, .string ⟨#[]⟩, .string ⟨#[]⟩] Un4u3) := by rw [eW]; exact KeptC.start Un4u0 [.int .i64 0, .int .i64 0, .int .i64 0, .slice none 0 0, .int .i64 0, .int .i64 0, .int .i64 0, .int .i64 0, .int .i64 0, .int .i64 0, .int .i64 0, .string ⟨#[]⟩, .string ⟨#[]⟩] 34
      have HL2 : Hid (LogIs F Un4u3 lb room L mb ord own D) := HLx.out.below hb
      have HR2 : Hid (RowZ (w.heap.size + 1) Un4u3) := HRz.out.below hb
      have HB2 : Hid (BelowH w Un4u3) := HBw.out.below hb
      rw [← eW]
      refine hK.out _ _ (⟨(HAb.out.below hb).out, HL2.out⟩) (fun hHeld2 => ?_)
      clear hK K hHeld
      have hHeld := hHeld2
      clear hHeld2
      (try simp only [Act.put, List.setIfInBounds_toArray, List.set_cons_zero, List.set_cons_succ])
      clear eW hb
      refine wpAnyH_take (i := 12) (oi := ⟨some 7, _, _, _, _, _⟩) (v := ?vn4u_1_10_11x12) rfl (by kernel_rfl) (by kernel_rfl) (by kernel_rfl) (fun _ _ _ h => h) (Or.inl ⟨by rfl, ?hyn4u_1_10_11x12⟩) hHeld ?restn4u_1_10_11x12
      case hyn4u_1_10_11x12 => (intro w _; go_simp; try with_reducible rfl)
      simp only [Act.put, List.setIfInBounds_toArray, List.set_cons_zero, List.set_cons_succ]
      refine wpAnyH_done (by kernel_rfl) ?_ _
      clear hHeld
      obtain ⟨m_0, m_1, m_2, m_3, m_4, m_5, m_6, m_7, m_8, m_9, m_10, m_11, m_12⟩ := HM0.out.all
      go_wp2_with fail
      refine (copyCh_any 0 0 0 (.slice none 0 0) 0 0 0 0 0 0 0 ⟨#[]⟩ ⟨#[]⟩ [] _ (IsI.non 0)).mono ?_
      rintro e w9 ⟨v9, rfl, ho9, hb9⟩
      have HR9 : Hid (RowZ (w.heap.size + 1) w9) := HR2.out.below hb9
      have HB9 : Hid (Below w.heap.size w w9) := HB2.out.below hb9
      have hs9 : w.heap.size + 1 < Un4u3.heap.size := row_lt HR2.out
      obtain ⟨a9, c9, e9⟩ := ho9.form
      subst e9
      have HO9 : Hid (OwnI (Un4u3.heap.size + 2) w9 _ _) := ho9
      have hzr : w9.heap[w.heap.size + 1]? = _ := HR9.out
      obtain ⟨z_0, z_1, z_2, z_3, z_4, z_5, z_6, z_7, z_8, z_9, z_10, z_11, z_12⟩ := row_cells hzr
      have fz := row_free hzr
      clear ho9 hb9 hzr m_0 m_1 m_2 m_3 m_4 m_5 m_6 m_7 m_8 m_9 m_10 m_11 m_12
      go_wp2
      (try simp only [Exit.inBlock, Exit.then])
      refine bodyPost_ret (results_cell_row2 rfl _ _ (w.heap.size + 1) _ _ _ _ rfl (row_set13 HR9.out) Tryz.underlying34 rfl (by kernel_rfl) rfl) rfl ?_
      refine ⟨_, by rw [HG.out]; rfl, ?_, below13 HB9.out (by omega)⟩
      rw [HG.out]
      exact OwnI.low (own13 HO9.out (by omega)) (by omega)
    · go_simp
      refine hK.out _ _ (⟨((((Below.refl _ _).alloc (Nat.le_refl _) _)).block _ (row_lt hHeld.1)).trans hHeld.1, hHeld.2.below ((Below.refl _ _).alloc (Nat.le_refl _) _)⟩) (fun hHeld2 => ?_)
      clear hK K hHeld
      have hHeld := hHeld2
      clear hHeld2
      (try simp only [Act.put, List.setIfInBounds_toArray, List.set_cons_zero, List.set_cons_succ])
      refine wpAnyH_ready (rs := [1]) (by kernel_rfl) (by simp) ?_
      refine AllReadyH.cons (o := ⟨some 10, _, _, _, _, _⟩) rfl (fun K hK => ?_) AllReadyH.nil
      go_simp
      refine (orEmpty_some lb _).mono ?_
      rintro e w' ⟨rfl, hw⟩
      replace hw := hw.symm
      subst hw
      (try go_wp2_with fail)
      refine hK.out _ _ (hHeld) (fun hHeld2 => ?_)
      clear hK K hHeld
      have hHeld := hHeld2
      clear hHeld2
      (try simp only [Act.put, List.setIfInBounds_toArray, List.set_cons_zero, List.set_cons_succ])
      refine wpAnyH_take (i := 2) (oi := ⟨some 11, _, _, _, _, _⟩) (v := ?vn4u_10_1x2) rfl (by kernel_rfl) (by kernel_rfl) (by kernel_rfl) (fun _ _ _ h => h) (Or.inl ⟨by rfl, ?hyn4u_10_1x2⟩) hHeld ?restn4u_10_1x2
      case hyn4u_10_1x2 => (intro w hSw; (try dsimp only at hSw); obtain ⟨hsb, hlg⟩ := hSw; obtain ⟨s_0, s_1, _, _⟩ := row2_cells hsb; have lc1 := hlg.cell1; have hlk : (Instr.lookup 76 (.map (some mb)) (.agg #[.int .i64 c, .int .i64 r]) true).run Tryz.prog w = .ok (.tuple #[.agg #[.int .i64 0, .int .i64 0, .int .i64 0, .slice none 0 0, .int .i64 0, .int .i64 0, .int .i64 0, .int .i64 0, .int .i64 0, .int .i64 0, .int .i64 0, .string ⟨#[]⟩, .string ⟨#[]⟩], .bool false]) w := (by have h0 := look_st hlg.hmap c r; rw [HGD.out] at h0; exact h0); go_simp; try with_reducible rfl)
      simp only [Act.put, List.setIfInBounds_toArray, List.set_cons_zero, List.set_cons_succ]
      refine wpAnyH_take (i := 3) (oi := ⟨some 12, _, _, _, _, _⟩) (v := ?vn4u_10_1x3) rfl (by kernel_rfl) (by kernel_rfl) (by kernel_rfl) (fun _ _ _ h => h) (Or.inl ⟨by rfl, ?hyn4u_10_1x3⟩) hHeld ?restn4u_10_1x3
      case hyn4u_10_1x3 => (intro w _; go_simp; try with_reducible rfl)
      simp only [Act.put, List.setIfInBounds_toArray, List.set_cons_zero, List.set_cons_succ]
      refine wpAnyH_take (i := 4) (oi := ⟨some 13, _, _, _, _, _⟩) (v := ?vn4u_10_1x4) rfl (by kernel_rfl) (by kernel_rfl) (by kernel_rfl) (fun _ _ _ h => h) (Or.inl ⟨by rfl, ?hyn4u_10_1x4⟩) hHeld ?restn4u_10_1x4
      case hyn4u_10_1x4 => (intro w hSw; (try dsimp only at hSw); obtain ⟨hsb, hlg⟩ := hSw; obtain ⟨s_0, s_1, _, _⟩ := row2_cells hsb; have lc1 := hlg.cell1; have hlk : (Instr.lookup 76 (.map (some mb)) (.agg #[.int .i64 c, .int .i64 r]) true).run Tryz.prog w = .ok (.tuple #[.agg #[.int .i64 0, .int .i64 0, .int .i64 0, .slice none 0 0, .int .i64 0, .int .i64 0, .int .i64 0, .int .i64 0, .int .i64 0, .int .i64 0, .int .i64 0, .string ⟨#[]⟩, .string ⟨#[]⟩], .bool false]) w := (by have h0 := look_st hlg.hmap c r; rw [HGD.out] at h0; exact h0); go_simp; try with_reducible rfl)
      simp only [Act.put, List.setIfInBounds_toArray, List.set_cons_zero, List.set_cons_succ]
      refine wpAnyH_take (i := 6) (oi := ⟨some 15, _, _, _, _, _⟩) (v := ?vn4u_10_1x6) rfl (by kernel_rfl) (by kernel_rfl) (by kernel_rfl) (fun _ _ _ h => h) (Or.inl ⟨by rfl, ?hyn4u_10_1x6⟩) hHeld ?restn4u_10_1x6
      case hyn4u_10_1x6 => (intro w hSw; (try dsimp only at hSw); obtain ⟨hsb, hlg⟩ := hSw; obtain ⟨s_0, s_1, _, _⟩ := row2_cells hsb; have lc1 := hlg.cell1; have hlk : (Instr.lookup 76 (.map (some mb)) (.agg #[.int .i64 c, .int .i64 r]) true).run Tryz.prog w = .ok (.tuple #[.agg #[.int .i64 0, .int .i64 0, .int .i64 0, .slice none 0 0, .int .i64 0, .int .i64 0, .int .i64 0, .int .i64 0, .int .i64 0, .int .i64 0, .int .i64 0, .string ⟨#[]⟩, .string ⟨#[]⟩], .bool false]) w := (by have h0 := look_st hlg.hmap c r; rw [HGD.out] at h0; exact h0); go_simp; try with_reducible rfl)
      simp only [Act.put, List.setIfInBounds_toArray, List.set_cons_zero, List.set_cons_succ]
      refine wpAnyH_take (i := 7) (oi := ⟨some 8, _, _, _, _, _⟩) (v := ?vn4u_10_1x7) rfl (by kernel_rfl) (by kernel_rfl) (by kernel_rfl) (fun _ _ _ h => h) (Or.inl ⟨by rfl, ?hyn4u_10_1x7⟩) hHeld ?restn4u_10_1x7
      case hyn4u_10_1x7 => (intro w _; go_simp; try with_reducible rfl)
      simp only [Act.put, List.setIfInBounds_toArray, List.set_cons_zero, List.set_cons_succ]
      refine wpAnyH_take (i := 8) (oi := ⟨some 16, _, _, _, _, _⟩) (v := ?vn4u_10_1x8) rfl (by kernel_rfl) (by kernel_rfl) (by kernel_rfl) (fun _ _ _ h => h) (Or.inl ⟨by rfl, ?hyn4u_10_1x8⟩) hHeld ?restn4u_10_1x8
      case hyn4u_10_1x8 => (intro w _; go_simp; try with_reducible rfl)
      simp only [Act.put, List.setIfInBounds_toArray, List.set_cons_zero, List.set_cons_succ]
      refine wpAnyH_take (i := 9) (oi := ⟨some 17, _, _, _, _, _⟩) (v := ?vn4u_10_1x9) rfl (by kernel_rfl) (by kernel_rfl) (by kernel_rfl) (fun _ _ _ h => h) (Or.inl ⟨by rfl, ?hyn4u_10_1x9⟩) hHeld ?restn4u_10_1x9
      case hyn4u_10_1x9 => (intro w _; go_simp; try with_reducible rfl)
      simp only [Act.put, List.setIfInBounds_toArray, List.set_cons_zero, List.set_cons_succ]
      refine wpAnyH_ready (rs := [11]) (by kernel_rfl) (by simp) ?_
      refine AllReadyH.cons (o := ⟨none, _, _, _, _, _⟩) rfl (fun K hK => ?_) AllReadyH.nil
      refine step_store_new rfl 34 (.tmp 6) (.tmp 16) rfl _ _ rfl rfl sizeChange rfl (by simp [Value.oneCell']) ?_
      obtain ⟨Un4u6, eW⟩ : ∃ Y, Y = Un4u0.alloc (.cells #[.int .i64 0, .int .i64 0, .int .i64 0, .slice none 0 0, .int .i64 0, .int .i64 0, .int .i64 0, .int .i64 0, .int .i64 0, .int .i64 0, .int .i64 0, .string ⟨#[]⟩, .string ⟨#[]⟩] 34) := ⟨_, rfl⟩
      have hb : Below Un4u0.heap.size Un4u0 Un4u6 := by rw [eW]; exact (Below.refl _ _).alloc (Nat.le_refl _) _
      have HM0 : Hid (KeptC Un4u0 Un4u0.heap.size [.int .i64 0, .int .i64 0, .int .i64 0, .slice none 0 0, .int .i64 0, .int .i64 0, .int .i64 0, .int .i64 0, .int .i64 0, .int .i64 0, .int .i64 0, .string ⟨#[]⟩, .string ⟨#[]⟩] Un4u6) := by rw [eW]; exact KeptC.start Un4u0 [.int .i64 0, .int .i64 0, .int .i64 0, .slice none 0 0, .int .i64 0, .int .i64 0, .int .i64 0, .int .i64 0, .int .i64 0, .int .i64 0, .int .i64 0, .string ⟨#[]⟩, .string ⟨#[]⟩] 34
      have HL2 : Hid (LogIs F Un4u6 lb room L mb ord own D) := HLx.out.below hb
      have HR2 : Hid (RowZ (w.heap.size + 1) Un4u6) := HRz.out.below hb
      have HB2 : Hid (BelowH w Un4u6) := HBw.out.below hb
      rw [← eW]
      refine hK.out _ _ (⟨(HAb.out.below hb).out, HL2.out⟩) (fun hHeld2 => ?_)
      clear hK K hHeld
      have hHeld := hHeld2
      clear hHeld2
      (try simp only [Act.put, List.setIfInBounds_toArray, List.set_cons_zero, List.set_cons_succ])
      clear eW hb
      refine wpAnyH_take (i := 12) (oi := ⟨some 7, _, _, _, _, _⟩) (v := ?vn4u_10_1_11x12) rfl (by kernel_rfl) (by kernel_rfl) (by kernel_rfl) (fun _ _ _ h => h) (Or.inl ⟨by rfl, ?hyn4u_10_1_11x12⟩) hHeld ?restn4u_10_1_11x12
      case hyn4u_10_1_11x12 => (intro w _; go_simp; try with_reducible rfl)
      simp only [Act.put, List.setIfInBounds_toArray, List.set_cons_zero, List.set_cons_succ]
      refine wpAnyH_done (by kernel_rfl) ?_ _
      clear hHeld
      obtain ⟨m_0, m_1, m_2, m_3, m_4, m_5, m_6, m_7, m_8, m_9, m_10, m_11, m_12⟩ := HM0.out.all
      go_wp2_with fail
      refine (copyCh_any 0 0 0 (.slice none 0 0) 0 0 0 0 0 0 0 ⟨#[]⟩ ⟨#[]⟩ [] _ (IsI.non 0)).mono ?_
      rintro e w9 ⟨v9, rfl, ho9, hb9⟩
      have HR9 : Hid (RowZ (w.heap.size + 1) w9) := HR2.out.below hb9
      have HB9 : Hid (Below w.heap.size w w9) := HB2.out.below hb9
      have hs9 : w.heap.size + 1 < Un4u6.heap.size := row_lt HR2.out
      obtain ⟨a9, c9, e9⟩ := ho9.form
      subst e9
      have HO9 : Hid (OwnI (Un4u6.heap.size + 2) w9 _ _) := ho9
      have hzr : w9.heap[w.heap.size + 1]? = _ := HR9.out
      obtain ⟨z_0, z_1, z_2, z_3, z_4, z_5, z_6, z_7, z_8, z_9, z_10, z_11, z_12⟩ := row_cells hzr
      have fz := row_free hzr
      clear ho9 hb9 hzr m_0 m_1 m_2 m_3 m_4 m_5 m_6 m_7 m_8 m_9 m_10 m_11 m_12
      go_wp2
      (try simp only [Exit.inBlock, Exit.then])
      refine bodyPost_ret (results_cell_row2 rfl _ _ (w.heap.size + 1) _ _ _ _ rfl (row_set13 HR9.out) Tryz.underlying34 rfl (by kernel_rfl) rfl) rfl ?_
      refine ⟨_, by rw [HG.out]; rfl, ?_, below13 HB9.out (by omega)⟩
      rw [HG.out]
      exact OwnI.low (own13 HO9.out (by omega)) (by omega)

end Go.Proofs.YtckipepodohnpaaGreat

namespace Go.Proofs.YtckipepodohnpaaGreat
open Go.RowKit
set_option linter.unusedVariables false
set_option linter.unusedSimpArgs false

/-- What Own tells. -/
def ownR (L : List Ch) (r s : Int) : Ch × Int := if 0 ≤ r ∧ r < 64 then (match ownC L r s with | some c => (c, 0) | none => (zeroC, 4)) else (zeroC, 1)
theorem own_no {L : List Ch} (g : Good L) {r s : Int} (h : s < 1 ∨ (cntR L r : Int) < s) : ownC L r s = none := by
  cases e : ownC L r s with
  | none => rfl
  | some c =>
    rw [g.own_iff] at e
    obtain ⟨h1, h2, h3⟩ := e
    have := g.le h1
    rw [h2] at this
    omega
theorem far13 {g k : Nat} {W : World} {v0 v1 v2 v3 v4 v5 v6 v7 v8 v9 v10 v11 v12 : Value} (h : k ≠ g) : (((((((((((((W.setCell ⟨g, 0, none⟩ v0).setCell ⟨g, 1, none⟩ v1).setCell ⟨g, 2, none⟩ v2).setCell ⟨g, 3, none⟩ v3).setCell ⟨g, 4, none⟩ v4).setCell ⟨g, 5, none⟩ v5).setCell ⟨g, 6, none⟩ v6).setCell ⟨g, 7, none⟩ v7).setCell ⟨g, 8, none⟩ v8).setCell ⟨g, 9, none⟩ v9).setCell ⟨g, 10, none⟩ v10).setCell ⟨g, 11, none⟩ v11).setCell ⟨g, 12, none⟩ v12).heap[k]? = W.heap[k]? := by
  simp only [RowKit.Below.heap_setCell _ (⟨g, _, none⟩ : Addr) _ k h]
theorem own13f {B g : Nat} {W : World} {v : Value} {D : List Int} {v0 v1 v2 v3 v4 v5 v6 v7 v8 v9 v10 v11 v12 : Value} (h : OwnI B W v D) (hg : ∀ k, v.ownBlock = some k → g < k) : OwnI B (((((((((((((W.setCell ⟨g, 0, none⟩ v0).setCell ⟨g, 1, none⟩ v1).setCell ⟨g, 2, none⟩ v2).setCell ⟨g, 3, none⟩ v3).setCell ⟨g, 4, none⟩ v4).setCell ⟨g, 5, none⟩ v5).setCell ⟨g, 6, none⟩ v6).setCell ⟨g, 7, none⟩ v7).setCell ⟨g, 8, none⟩ v8).setCell ⟨g, 9, none⟩ v9).setCell ⟨g, 10, none⟩ v10).setCell ⟨g, 11, none⟩ v11).setCell ⟨g, 12, none⟩ v12) v D := h.keepF fun k e => far13 (fun e2 => by have := hg k e; omega)
theorem LogIs.ownCell {F : Nat → Prop} {w : World} {lb : Nat} {room : Int} {L : List Ch} {mb : Nat} {ord : Value} {own : List Value} {D : List (Ch × Value)} (h : LogIs F w lb room L mb ord own D) {rn k : Nat} (hr : rn < own.length) (hk : k < (ofR L (rn : Int)).length) {g n cap : Nat} (e : own[rn] = .slice (some ⟨g, 0, none⟩) n cap) :
    w.cell? ⟨g, k * 2, none⟩ = some (.int .i64 (ofR L (rn : Int))[k].ac) ∧ w.cell? ⟨g, k * 2 + 1, none⟩ = some (.int .i64 (ofR L (rn : Int))[k].ar) := by
  obtain ⟨g2, cap2, e2, h1, h2⟩ := OwnS_cells (h.hown rn hr) (i := k) (by rw [stL_length]; exact hk)
  rw [e] at e2
  injection e2 with e3 _ _
  injection e3 with e3
  injection e3 with e3
  subst e3
  have e4 : (stL (ofR L (rn : Int)))[k]'(by rw [stL_length]; exact hk) = ((ofR L (rn : Int))[k].ac, (ofR L (rn : Int))[k].ar) := by simp [stL]
  rw [e4] at h1 h2
  exact ⟨h1, h2⟩

set_option maxRecDepth 100000 in
set_option maxHeartbeats 8000000 in
theorem ownLog_any (v : Value) (room : Int) (L : List Ch) (F : Nat → Prop) (r s : Int) (w : World) (h : LogV F w v room L) (hg : Good L) (hll : L.length ≤ 4096) :
    Calls Tryz.prog 19 #[v, .int .i64 r, .int .i64 s] w fun e w' => ∃ v', e = .returned (.tuple #[chV (ownR L r s).1 v', .int .i64 (ownR L r s).2]) ∧ OwnI w.heap.size w' v' (ownR L r s).1.deps ∧ Below w.heap.size w w' := by
  obtain ⟨W0, eW⟩ : ∃ X, X = w.alloc (.cells #[.int .i64 0, .int .i64 0, .int .i64 0, .slice none 0 0, .int .i64 0, .int .i64 0, .int .i64 0, .int .i64 0, .int .i64 0, .int .i64 0, .int .i64 0, .string ⟨#[]⟩, .string ⟨#[]⟩] 34) := ⟨_, rfl⟩
  have hb0 : Below w.heap.size w W0 := by rw [eW]; exact (Below.refl _ _).alloc (Nat.le_refl _) _
  have HRz0 : Hid (RowZ w.heap.size W0) := by rw [eW]; exact heap_alloc_new _ _
  have hs0 : W0.heap.size = w.heap.size + 1 := by rw [eW]; simp
  by_cases hr : 0 ≤ r ∧ r < 64
  · obtain ⟨rn, rfl⟩ := Int.eq_ofNat_of_zero_le hr.1
    have hrn64 : rn < 64 := by omega
    have q1 : ¬ ((rn : Int) < 0) := by omega
    have q2 : ¬ (64 ≤ (rn : Int)) := by omega
    have q3 : (rn : Int) < 64 := by omega
    have q4 : (0 : Int) ≤ (rn : Int) := by omega
    have HV0 : Hid (LogV F W0 v room L) := h.below hb0
    have HG : Hid (Good L) := hg
    have HFn : Hid (¬ F w.heap.size) := fun q => by have := h.lt _ q; omega
    have hcn : (cntR L (rn : Int) : Int) ≤ 4096 := by
      have : cntR L (rn : Int) ≤ L.length := List.length_filter_le _ _
      omega
    clear h
    go_enter Tryz.func19, Tryz.ntmps19
    go_wp2_with fail
    rw [← eW]
    clear eW
    refine (orEmpty_any v room L F _ HV0.out).mono ?_
    rintro e w1 ⟨lb, F', rfl, ⟨mb, ord, own, D, h1⟩, h2, hff⟩
    have HNF : Hid (¬ F' w.heap.size) := fun q => by rcases hff _ q with q | q; exact HFn.out q; omega
    have HLx : Hid (LogIs F' w1 lb room L mb ord own D) := h1
    have HRz : Hid (RowZ w.heap.size w1) := HRz0.out.below h2
    have HBw : Hid (BelowH w w1) := hb0.trans (h2.mono hb0.size)
    have hrn : rn < own.length := by rw [h1.len]; exact hrn64
    obtain ⟨ao, co, eo⟩ := (h1.hown rn hrn).form
    rw [stL_length] at eo
    have lcr := h1.cellr (r := rn) hrn
    rw [eo] at lcr
    have HCn : Hid ((ofR L (rn : Int)).length = cntR L (rn : Int)) := rfl
    clear h1 h2 hff hb0 HRz0 HV0
    by_cases hs : s < 1 ∨ (cntR L (rn : Int) : Int) < s
    · have HRes : Hid (ownR L (rn : Int) s = (zeroC, 4)) := by show _ = _; unfold ownR; rw [if_pos hr, own_no HG.out hs]
      have hzr : w1.heap[w.heap.size]? = _ := HRz.out
      obtain ⟨z_0, z_1, z_2, z_3, z_4, z_5, z_6, z_7, z_8, z_9, z_10, z_11, z_12⟩ := row_cells hzr
      have fz := row_free hzr
      rw [HCn.out] at lcr
      clear hzr
      by_cases hs1 : s < 1
      · clear hs
        go_wp2
        (try simp only [Exit.inBlock, Exit.then])
        refine bodyPost_ret (results_cell_row2 rfl _ _ w.heap.size _ _ _ _ rfl (row_set13 HRz.out) Tryz.underlying34 rfl (by kernel_rfl) rfl) rfl ?_
        rw [HRes.out]
        exact ⟨_, rfl, OwnI.nil0 _ _, below13 HBw.out (Nat.le_refl _)⟩
      · have hs2 : (cntR L (rn : Int) : Int) < s := by omega
        clear hs
        go_wp2
        (try simp only [Exit.inBlock, Exit.then])
        refine bodyPost_ret (results_cell_row2 rfl _ _ w.heap.size _ _ _ _ rfl (row_set13 HRz.out) Tryz.underlying34 rfl (by kernel_rfl) rfl) rfl ?_
        rw [HRes.out]
        exact ⟨_, rfl, OwnI.nil0 _ _, below13 HBw.out (Nat.le_refl _)⟩
    · obtain ⟨k, hk⟩ := Int.eq_ofNat_of_zero_le (show 0 ≤ s - 1 by omega)
      obtain rfl : s = (k : Int) + 1 := by omega
      have hkn : k < (ofR L (rn : Int)).length := by rw [HCn.out]; omega
      obtain ⟨c, hck⟩ : ∃ c, (ofR L (rn : Int))[k] = c := ⟨_, rfl⟩
      obtain ⟨hcm, hcr⟩ := ofR_mem.1 (List.getElem_mem hkn)
      rw [hck] at hcm hcr
      have hgd := getD_of HLx.out HG.out.srt hcm
      have hdx := HLx.out.hdep _ (List.mem_of_find?_eq_some hgd)
      have hoc := HG.out.own_get hkn
      rw [hck] at hoc
      obtain ⟨ac2, ar2, sq2, ds2, kd2, nc2, nr2, pc2, pr2, fc2, fr2, nm2, vl2⟩ := c
      simp only at hcr hgd hdx
      subst hcr
      have hi2 : IsI w1 (dvOf D (⟨ac2, (rn : Int), sq2, ds2, kd2, nc2, nr2, pc2, pr2, fc2, fr2, nm2, vl2⟩ : Ch)) ds2 := hdx.1.isI hdx.2.2
      obtain ⟨a2, c2, e2⟩ := hi2.form
      rw [e2] at hgd hi2
      have HGD : Hid (getD D ac2 (rn : Int) = some ((⟨ac2, (rn : Int), sq2, ds2, kd2, nc2, nr2, pc2, pr2, fc2, fr2, nm2, vl2⟩ : Ch), .slice a2 ds2.length c2)) := hgd
      have HI2 : Hid (IsI w1 (.slice a2 ds2.length c2) ds2) := hi2
      have HCk : Hid ((ofR L (rn : Int))[k] = (⟨ac2, (rn : Int), sq2, ds2, kd2, nc2, nr2, pc2, pr2, fc2, fr2, nm2, vl2⟩ : Ch)) := hck
      have HRes : Hid (ownR L (rn : Int) ((k : Int) + 1) = ((⟨ac2, (rn : Int), sq2, ds2, kd2, nc2, nr2, pc2, pr2, fc2, fr2, nm2, vl2⟩ : Ch), 0)) := by show _ = _; unfold ownR; rw [if_pos hr, hoc]
      obtain ⟨go, capo, eo2, _, _⟩ := OwnS_cells (HLx.out.hown rn hrn) (i := k) (by rw [stL_length]; exact hkn)
      rw [stL_length] at eo2
      rw [eo2] at eo
      injection eo with e5 _ e6
      subst e5 e6
      have HOr : Hid (own[rn] = .slice (some ⟨go, 0, none⟩) (ofR L (rn : Int)).length capo) := eo2
      have k1 : ¬ ((k : Int) + 1 < 1) := by omega
      have k2 : ¬ ((cntR L (rn : Int) : Int) < (k : Int) + 1) := by omega
      have k2b : ¬ (((ofR L (rn : Int)).length : Int) < (k : Int) + 1) := by rw [HCn.out]; omega
      have k3 : (k : Int) + 1 - 1 = (k : Int) := by omega
      have k4 : (k : Int) < ((ofR L (rn : Int)).length : Int) := by omega
      have k5 : (0 : Int) ≤ (k : Int) := by omega
      have k7 : IntKind.i64.wrap (k : Int) = (k : Int) := by rw [IntKind.wrap_i64]; omega
      have k6 : IntKind.i64.wrap ((k : Int) + 1 - 1) = (k : Int) := by rw [IntKind.wrap_i64]; omega
      clear hgd hdx hi2 hck hoc hcm e2 eo2 hs hk
      go_upto_region 6 with fail
      clear lcr
      refine wp_region_held_drew (S := fun W' => LogIs F' W' lb room L mb ord own D) (by kernel_rfl) (HLx.out.below (Below.refl _ _).drew) (fun hHeld => ?_)
      obtain ⟨Uo3u0, eW⟩ : ∃ X, X = w1.drew := ⟨_, rfl⟩
      have hb : Below w1.heap.size w1 Uo3u0 := by rw [eW]; exact (Below.refl _ _).drew
      replace HLx : Hid (LogIs F' Uo3u0 lb room L mb ord own D) := HLx.out.below hb
      replace HRz : Hid (RowZ w.heap.size Uo3u0) := HRz.out.below hb
      replace HBw : Hid (BelowH w Uo3u0) := HBw.out.below hb
      replace HI2 : Hid (IsI Uo3u0 (.slice a2 ds2.length c2) ds2) := HI2.out.below hb
      rw [← eW] at hHeld ⊢
      clear eW hb
      refine wpAnyH_take (i := 0) (oi := ⟨some 32, _, _, _, _, _⟩) (v := ?vo3ux0) rfl (by kernel_rfl) (by kernel_rfl) (by kernel_rfl) (fun _ _ _ h => h) (Or.inl ⟨by rfl, ?hyo3ux0⟩) hHeld ?resto3ux0
      case hyo3ux0 => (intro w _; go_simp; try with_reducible rfl)
      simp only [Act.put, List.setIfInBounds_toArray, List.set_cons_zero, List.set_cons_succ]
      refine wpAnyH_take (i := 1) (oi := ⟨some 33, _, _, _, _, _⟩) (v := ?vo3ux1) rfl (by kernel_rfl) (by kernel_rfl) (by kernel_rfl) (fun _ _ _ h => h) (Or.inl ⟨by rfl, ?hyo3ux1⟩) hHeld ?resto3ux1
      case hyo3ux1 => (intro w hSw; (try dsimp only at hSw); have hlg := hSw; have lc1 := hlg.cell1; have lcr := hlg.cellr (r := rn) hrn; rw [HOr.out] at lcr; obtain ⟨s_0, s_1⟩ := hlg.ownCell hrn hkn HOr.out; rw [HCk.out] at s_0 s_1; simp only at s_0 s_1; have hlk : (Instr.lookup 76 (.map (some mb)) (.agg #[.int .i64 ac2, .int .i64 (rn : Int)]) false).run Tryz.prog w = .ok (.agg #[.int .i64 ac2, .int .i64 (rn : Int), .int .i64 sq2, .slice a2 ds2.length c2, .int .i64 kd2, .int .i64 nc2, .int .i64 nr2, .int .i64 pc2, .int .i64 pr2, .int .i64 fc2, .int .i64 fr2, .string nm2, .string vl2]) w := (by have h0 := look1_st hlg.hmap ac2 (rn : Int); rw [HGD.out] at h0; exact h0); go_simp; try with_reducible rfl)
      simp only [Act.put, List.setIfInBounds_toArray, List.set_cons_zero, List.set_cons_succ]
      refine wpAnyH_take (i := 2) (oi := ⟨some 34, _, _, _, _, _⟩) (v := ?vo3ux2) rfl (by kernel_rfl) (by kernel_rfl) (by kernel_rfl) (fun _ _ _ h => h) (Or.inl ⟨by rfl, ?hyo3ux2⟩) hHeld ?resto3ux2
      case hyo3ux2 => (intro w _; go_simp; try with_reducible rfl)
      simp only [Act.put, List.setIfInBounds_toArray, List.set_cons_zero, List.set_cons_succ]
      refine wpAnyH_take (i := 3) (oi := ⟨some 35, _, _, _, _, _⟩) (v := ?vo3ux3) rfl (by kernel_rfl) (by kernel_rfl) (by kernel_rfl) (fun _ _ _ h => h) (Or.inl ⟨by rfl, ?hyo3ux3⟩) hHeld ?resto3ux3
      case hyo3ux3 => (intro w hSw; (try dsimp only at hSw); have hlg := hSw; have lc1 := hlg.cell1; have lcr := hlg.cellr (r := rn) hrn; rw [HOr.out] at lcr; obtain ⟨s_0, s_1⟩ := hlg.ownCell hrn hkn HOr.out; rw [HCk.out] at s_0 s_1; simp only at s_0 s_1; have hlk : (Instr.lookup 76 (.map (some mb)) (.agg #[.int .i64 ac2, .int .i64 (rn : Int)]) false).run Tryz.prog w = .ok (.agg #[.int .i64 ac2, .int .i64 (rn : Int), .int .i64 sq2, .slice a2 ds2.length c2, .int .i64 kd2, .int .i64 nc2, .int .i64 nr2, .int .i64 pc2, .int .i64 pr2, .int .i64 fc2, .int .i64 fr2, .string nm2, .string vl2]) w := (by have h0 := look1_st hlg.hmap ac2 (rn : Int); rw [HGD.out] at h0; exact h0); go_simp; try with_reducible rfl)
      simp only [Act.put, List.setIfInBounds_toArray, List.set_cons_zero, List.set_cons_succ]
      refine wpAnyH_take (i := 4) (oi := ⟨some 36, _, _, _, _, _⟩) (v := ?vo3ux4) rfl (by kernel_rfl) (by kernel_rfl) (by kernel_rfl) (fun _ _ _ h => h) (Or.inl ⟨by rfl, ?hyo3ux4⟩) hHeld ?resto3ux4
      case hyo3ux4 => (intro w _; go_simp; try with_reducible rfl)
      simp only [Act.put, List.setIfInBounds_toArray, List.set_cons_zero, List.set_cons_succ]
      refine wpAnyH_take (i := 5) (oi := ⟨some 37, _, _, _, _, _⟩) (v := ?vo3ux5) rfl (by kernel_rfl) (by kernel_rfl) (by kernel_rfl) (fun _ _ _ h => h) (Or.inl ⟨by rfl, ?hyo3ux5⟩) hHeld ?resto3ux5
      case hyo3ux5 => (intro w _; go_simp; try with_reducible rfl)
      simp only [Act.put, List.setIfInBounds_toArray, List.set_cons_zero, List.set_cons_succ]
      refine wpAnyH_take (i := 6) (oi := ⟨some 38, _, _, _, _, _⟩) (v := ?vo3ux6) rfl (by kernel_rfl) (by kernel_rfl) (by kernel_rfl) (fun _ _ _ h => h) (Or.inl ⟨by rfl, ?hyo3ux6⟩) hHeld ?resto3ux6
      case hyo3ux6 => (intro w hSw; (try dsimp only at hSw); have hlg := hSw; have lc1 := hlg.cell1; have lcr := hlg.cellr (r := rn) hrn; rw [HOr.out] at lcr; obtain ⟨s_0, s_1⟩ := hlg.ownCell hrn hkn HOr.out; rw [HCk.out] at s_0 s_1; simp only at s_0 s_1; have hlk : (Instr.lookup 76 (.map (some mb)) (.agg #[.int .i64 ac2, .int .i64 (rn : Int)]) false).run Tryz.prog w = .ok (.agg #[.int .i64 ac2, .int .i64 (rn : Int), .int .i64 sq2, .slice a2 ds2.length c2, .int .i64 kd2, .int .i64 nc2, .int .i64 nr2, .int .i64 pc2, .int .i64 pr2, .int .i64 fc2, .int .i64 fr2, .string nm2, .string vl2]) w := (by have h0 := look1_st hlg.hmap ac2 (rn : Int); rw [HGD.out] at h0; exact h0); go_simp; try with_reducible rfl)
      simp only [Act.put, List.setIfInBounds_toArray, List.set_cons_zero, List.set_cons_succ]
      refine wpAnyH_take (i := 7) (oi := ⟨some 39, _, _, _, _, _⟩) (v := ?vo3ux7) rfl (by kernel_rfl) (by kernel_rfl) (by kernel_rfl) (fun _ _ _ h => h) (Or.inl ⟨by rfl, ?hyo3ux7⟩) hHeld ?resto3ux7
      case hyo3ux7 => (intro w _; go_simp; try with_reducible rfl)
      simp only [Act.put, List.setIfInBounds_toArray, List.set_cons_zero, List.set_cons_succ]
      refine wpAnyH_take (i := 8) (oi := ⟨some 40, _, _, _, _, _⟩) (v := ?vo3ux8) rfl (by kernel_rfl) (by kernel_rfl) (by kernel_rfl) (fun _ _ _ h => h) (Or.inl ⟨by rfl, ?hyo3ux8⟩) hHeld ?resto3ux8
      case hyo3ux8 => (intro w hSw; (try dsimp only at hSw); have hlg := hSw; have lc1 := hlg.cell1; have lcr := hlg.cellr (r := rn) hrn; rw [HOr.out] at lcr; obtain ⟨s_0, s_1⟩ := hlg.ownCell hrn hkn HOr.out; rw [HCk.out] at s_0 s_1; simp only at s_0 s_1; have hlk : (Instr.lookup 76 (.map (some mb)) (.agg #[.int .i64 ac2, .int .i64 (rn : Int)]) false).run Tryz.prog w = .ok (.agg #[.int .i64 ac2, .int .i64 (rn : Int), .int .i64 sq2, .slice a2 ds2.length c2, .int .i64 kd2, .int .i64 nc2, .int .i64 nr2, .int .i64 pc2, .int .i64 pr2, .int .i64 fc2, .int .i64 fr2, .string nm2, .string vl2]) w := (by have h0 := look1_st hlg.hmap ac2 (rn : Int); rw [HGD.out] at h0; exact h0); go_simp; try with_reducible rfl)
      simp only [Act.put, List.setIfInBounds_toArray, List.set_cons_zero, List.set_cons_succ]
      refine wpAnyH_take (i := 9) (oi := ⟨some 41, _, _, _, _, _⟩) (v := ?vo3ux9) rfl (by kernel_rfl) (by kernel_rfl) (by kernel_rfl) (fun _ _ _ h => h) (Or.inl ⟨by rfl, ?hyo3ux9⟩) hHeld ?resto3ux9
      case hyo3ux9 => (intro w hSw; (try dsimp only at hSw); have hlg := hSw; have lc1 := hlg.cell1; have lcr := hlg.cellr (r := rn) hrn; rw [HOr.out] at lcr; obtain ⟨s_0, s_1⟩ := hlg.ownCell hrn hkn HOr.out; rw [HCk.out] at s_0 s_1; simp only at s_0 s_1; have hlk : (Instr.lookup 76 (.map (some mb)) (.agg #[.int .i64 ac2, .int .i64 (rn : Int)]) false).run Tryz.prog w = .ok (.agg #[.int .i64 ac2, .int .i64 (rn : Int), .int .i64 sq2, .slice a2 ds2.length c2, .int .i64 kd2, .int .i64 nc2, .int .i64 nr2, .int .i64 pc2, .int .i64 pr2, .int .i64 fc2, .int .i64 fr2, .string nm2, .string vl2]) w := (by have h0 := look1_st hlg.hmap ac2 (rn : Int); rw [HGD.out] at h0; exact h0); go_simp; try with_reducible rfl)
      simp only [Act.put, List.setIfInBounds_toArray, List.set_cons_zero, List.set_cons_succ]
      refine wpAnyH_take (i := 10) (oi := ⟨some 42, _, _, _, _, _⟩) (v := ?vo3ux10) rfl (by kernel_rfl) (by kernel_rfl) (by kernel_rfl) (fun _ _ _ h => h) (Or.inl ⟨by rfl, ?hyo3ux10⟩) hHeld ?resto3ux10
      case hyo3ux10 => (intro w _; go_simp; try with_reducible rfl)
      simp only [Act.put, List.setIfInBounds_toArray, List.set_cons_zero, List.set_cons_succ]
      refine wpAnyH_take (i := 11) (oi := ⟨some 43, _, _, _, _, _⟩) (v := ?vo3ux11) rfl (by kernel_rfl) (by kernel_rfl) (by kernel_rfl) (fun _ _ _ h => h) (Or.inl ⟨by rfl, ?hyo3ux11⟩) hHeld ?resto3ux11
      case hyo3ux11 => (intro w hSw; (try dsimp only at hSw); have hlg := hSw; have lc1 := hlg.cell1; have lcr := hlg.cellr (r := rn) hrn; rw [HOr.out] at lcr; obtain ⟨s_0, s_1⟩ := hlg.ownCell hrn hkn HOr.out; rw [HCk.out] at s_0 s_1; simp only at s_0 s_1; have hlk : (Instr.lookup 76 (.map (some mb)) (.agg #[.int .i64 ac2, .int .i64 (rn : Int)]) false).run Tryz.prog w = .ok (.agg #[.int .i64 ac2, .int .i64 (rn : Int), .int .i64 sq2, .slice a2 ds2.length c2, .int .i64 kd2, .int .i64 nc2, .int .i64 nr2, .int .i64 pc2, .int .i64 pr2, .int .i64 fc2, .int .i64 fr2, .string nm2, .string vl2]) w := (by have h0 := look1_st hlg.hmap ac2 (rn : Int); rw [HGD.out] at h0; exact h0); go_simp; try with_reducible rfl)
      simp only [Act.put, List.setIfInBounds_toArray, List.set_cons_zero, List.set_cons_succ]
      refine wpAnyH_take (i := 12) (oi := ⟨some 44, _, _, _, _, _⟩) (v := ?vo3ux12) rfl (by kernel_rfl) (by kernel_rfl) (by kernel_rfl) (fun _ _ _ h => h) (Or.inl ⟨by rfl, ?hyo3ux12⟩) hHeld ?resto3ux12
      case hyo3ux12 => (intro w hSw; (try dsimp only at hSw); have hlg := hSw; have lc1 := hlg.cell1; have lcr := hlg.cellr (r := rn) hrn; rw [HOr.out] at lcr; obtain ⟨s_0, s_1⟩ := hlg.ownCell hrn hkn HOr.out; rw [HCk.out] at s_0 s_1; simp only at s_0 s_1; have hlk : (Instr.lookup 76 (.map (some mb)) (.agg #[.int .i64 ac2, .int .i64 (rn : Int)]) false).run Tryz.prog w = .ok (.agg #[.int .i64 ac2, .int .i64 (rn : Int), .int .i64 sq2, .slice a2 ds2.length c2, .int .i64 kd2, .int .i64 nc2, .int .i64 nr2, .int .i64 pc2, .int .i64 pr2, .int .i64 fc2, .int .i64 fr2, .string nm2, .string vl2]) w := (by have h0 := look1_st hlg.hmap ac2 (rn : Int); rw [HGD.out] at h0; exact h0); go_simp; try with_reducible rfl)
      simp only [Act.put, List.setIfInBounds_toArray, List.set_cons_zero, List.set_cons_succ]
      refine wpAnyH_take (i := 13) (oi := ⟨some 45, _, _, _, _, _⟩) (v := ?vo3ux13) rfl (by kernel_rfl) (by kernel_rfl) (by kernel_rfl) (fun _ _ _ h => h) (Or.inl ⟨by rfl, ?hyo3ux13⟩) hHeld ?resto3ux13
      case hyo3ux13 => (intro w hSw; (try dsimp only at hSw); have hlg := hSw; have lc1 := hlg.cell1; have lcr := hlg.cellr (r := rn) hrn; rw [HOr.out] at lcr; obtain ⟨s_0, s_1⟩ := hlg.ownCell hrn hkn HOr.out; rw [HCk.out] at s_0 s_1; simp only at s_0 s_1; have hlk : (Instr.lookup 76 (.map (some mb)) (.agg #[.int .i64 ac2, .int .i64 (rn : Int)]) false).run Tryz.prog w = .ok (.agg #[.int .i64 ac2, .int .i64 (rn : Int), .int .i64 sq2, .slice a2 ds2.length c2, .int .i64 kd2, .int .i64 nc2, .int .i64 nr2, .int .i64 pc2, .int .i64 pr2, .int .i64 fc2, .int .i64 fr2, .string nm2, .string vl2]) w := (by have h0 := look1_st hlg.hmap ac2 (rn : Int); rw [HGD.out] at h0; exact h0); go_simp; try with_reducible rfl)
      simp only [Act.put, List.setIfInBounds_toArray, List.set_cons_zero, List.set_cons_succ]
      refine wpAnyH_take (i := 14) (oi := ⟨some 46, _, _, _, _, _⟩) (v := ?vo3ux14) rfl (by kernel_rfl) (by kernel_rfl) (by kernel_rfl) (fun _ _ _ h => h) (Or.inl ⟨by rfl, ?hyo3ux14⟩) hHeld ?resto3ux14
      case hyo3ux14 => (intro w hSw; (try dsimp only at hSw); have hlg := hSw; have lc1 := hlg.cell1; have lcr := hlg.cellr (r := rn) hrn; rw [HOr.out] at lcr; obtain ⟨s_0, s_1⟩ := hlg.ownCell hrn hkn HOr.out; rw [HCk.out] at s_0 s_1; simp only at s_0 s_1; have hlk : (Instr.lookup 76 (.map (some mb)) (.agg #[.int .i64 ac2, .int .i64 (rn : Int)]) false).run Tryz.prog w = .ok (.agg #[.int .i64 ac2, .int .i64 (rn : Int), .int .i64 sq2, .slice a2 ds2.length c2, .int .i64 kd2, .int .i64 nc2, .int .i64 nr2, .int .i64 pc2, .int .i64 pr2, .int .i64 fc2, .int .i64 fr2, .string nm2, .string vl2]) w := (by have h0 := look1_st hlg.hmap ac2 (rn : Int); rw [HGD.out] at h0; exact h0); go_simp; try with_reducible rfl)
      simp only [Act.put, List.setIfInBounds_toArray, List.set_cons_zero, List.set_cons_succ]
      refine wpAnyH_ready (rs := [15]) (by kernel_rfl) (by simp) ?_
      refine AllReadyH.cons (o := ⟨some 47, _, _, _, _, _⟩) rfl (fun K hK => ?_) AllReadyH.nil
      have hszW : w.heap.size < Uo3u0.heap.size := row_lt HRz.out
      go_simp
      refine (copyCh_any ac2 (rn : Int) sq2 (.slice a2 ds2.length c2) kd2 nc2 nr2 pc2 pr2 fc2 fr2 nm2 vl2 ds2 _ HI2.out).mono ?_
      rintro e Uo3u1 ⟨v9, rfl, ho9, hb⟩
      (try go_wp2_with fail)
      refine hK.out _ _ (hHeld.below hb) (fun hHeld2 => ?_)
      clear hK K hHeld
      have hHeld := hHeld2
      clear hHeld2
      (try simp only [Act.put, List.setIfInBounds_toArray, List.set_cons_zero, List.set_cons_succ])
      replace HLx : Hid (LogIs F' Uo3u1 lb room L mb ord own D) := HLx.out.below hb
      replace HRz : Hid (RowZ w.heap.size Uo3u1) := HRz.out.below hb
      replace HBw : Hid (BelowH w Uo3u1) := HBw.out.below hb
      replace HI2 : Hid (IsI Uo3u1 (.slice a2 ds2.length c2) ds2) := HI2.out.below hb
      obtain ⟨a9, c9, e9⟩ := ho9.form
      subst e9
      have HO9 : Hid (OwnI w.heap.size Uo3u1 (.slice a9 ds2.length c9) ds2 ∧ (∀ k, (Value.slice a9 ds2.length c9).ownBlock = some k → w.heap.size < k)) := ⟨ho9.low (by omega), fun k e => by have h1 := ho9.block k e; omega⟩
      clear ho9 hszW
      clear hb
      refine wpAnyH_ready (rs := [16]) (by kernel_rfl) (by simp) ?_
      refine AllReadyH.cons (o := ⟨none, _, _, _, _, _⟩) rfl (fun K hK => ?_) AllReadyH.nil
      have hzr : Uo3u1.heap[w.heap.size]? = _ := HRz.out
      obtain ⟨z_0, z_1, z_2, z_3, z_4, z_5, z_6, z_7, z_8, z_9, z_10, z_11, z_12⟩ := row_cells hzr
      have fz := row_free hzr
      clear hzr
      go_simp
      refine hK.out _ _ (hHeld.keep ⟨by simp [World.setCell], fun k hk => far13 (fun e => HNF.out (e ▸ hk))⟩) (fun hHeld2 => ?_)
      clear hK K hHeld
      have hHeld := hHeld2
      clear hHeld2
      (try simp only [Act.put, List.setIfInBounds_toArray, List.set_cons_zero, List.set_cons_succ])
      clear z_0 z_1 z_2 z_3 z_4 z_5 z_6 z_7 z_8 z_9 z_10 z_11 z_12 fz
      refine wpAnyH_take (i := 17) (oi := ⟨some 7, _, _, _, _, _⟩) (v := ?vo3u_15_16x17) rfl (by kernel_rfl) (by kernel_rfl) (by kernel_rfl) (fun _ _ _ h => h) (Or.inl ⟨by rfl, ?hyo3u_15_16x17⟩) hHeld ?resto3u_15_16x17
      case hyo3u_15_16x17 => (intro w _; go_simp; try with_reducible rfl)
      simp only [Act.put, List.setIfInBounds_toArray, List.set_cons_zero, List.set_cons_succ]
      refine wpAnyH_done (by kernel_rfl) ?_ _
      clear hHeld
      go_wp2
      (try simp only [Exit.inBlock, Exit.then])
      refine bodyPost_ret (results_cell_row2 rfl _ _ w.heap.size _ _ _ _ rfl (row_set13 HRz.out) Tryz.underlying34 rfl (by kernel_rfl) rfl) rfl ?_
      rw [HRes.out]
      exact ⟨_, rfl, own13f HO9.out.1 HO9.out.2, below13 HBw.out (Nat.le_refl _)⟩
  · have HRes : Hid (ownR L r s = (zeroC, 1)) := by show _ = _; unfold ownR; rw [if_neg hr]
    have hzr : W0.heap[w.heap.size]? = _ := HRz0.out
    obtain ⟨z_0, z_1, z_2, z_3, z_4, z_5, z_6, z_7, z_8, z_9, z_10, z_11, z_12⟩ := row_cells hzr
    have fz := row_free hzr
    have HB1 : Hid (BelowH w W0) := hb0
    have h2 : r < 0 ∨ 64 ≤ r := by omega
    clear hzr hb0 hs0 hr
    by_cases h1 : r < 0
    · clear h2
      go_enter Tryz.func19, Tryz.ntmps19
      go_upto_region 2 with fail
      rw [← eW]
      clear eW
      go_wp2
      (try simp only [Exit.inBlock, Exit.then])
      refine bodyPost_ret (results_cell_row2 rfl _ _ w.heap.size _ _ _ _ rfl (row_set13 HRz0.out) Tryz.underlying34 rfl (by kernel_rfl) rfl) rfl ?_
      rw [HRes.out]
      exact ⟨_, rfl, OwnI.nil0 _ _, below13 HB1.out (Nat.le_refl _)⟩
    · have h3 : 64 ≤ r := by omega
      clear h2
      go_enter Tryz.func19, Tryz.ntmps19
      go_upto_region 2 with fail
      rw [← eW]
      clear eW
      go_wp2
      (try simp only [Exit.inBlock, Exit.then])
      refine bodyPost_ret (results_cell_row2 rfl _ _ w.heap.size _ _ _ _ rfl (row_set13 HRz0.out) Tryz.underlying34 rfl (by kernel_rfl) rfl) rfl ?_
      rw [HRes.out]
      exact ⟨_, rfl, OwnI.nil0 _ _, below13 HB1.out (Nat.le_refl _)⟩

end Go.Proofs.YtckipepodohnpaaGreat

namespace Go.Proofs.YtckipepodohnpaaGreat
open Go.RowKit
set_option linter.unusedVariables false
set_option linter.unusedSimpArgs false

def firstC : Ch := ⟨1, 0, 1, [], 1, 1, 0, 0, 0, 0, 0, ⟨#[112]⟩, ⟨#[]⟩⟩
theorem first_sized : Sized firstC := ⟨by decide, by decide⟩
theorem why_first : whyR [] 3 firstC = 0 := by decide +kernel
theorem why_first2 : whyR [firstC] 3 firstC = 5 := by decide +kernel
theorem add_first : addL [] 3 firstC = [firstC] := by unfold addL; rw [if_pos why_first]; rfl
theorem add_first2 : addL [firstC] 3 firstC = [firstC] := by unfold addL; rw [if_neg (by rw [why_first2]; decide)]

set_option maxRecDepth 100000 in
set_option maxHeartbeats 2000000 in
theorem first_any (w : World) : Calls Tryz.prog 25 #[] w fun e w' => e = .returned (chV firstC (.slice none 0 0)) ∧ Below w.heap.size w w' := by
  go_enter Tryz.func25, Tryz.ntmps25
  go_wp2
  (try simp only [Exit.inBlock, Exit.then])
  refine bodyPost_ret (v := chV firstC (.slice none 0 0)) ?res rfl ?post
  case res => exact results_cell_row rfl _ _ w.heap.size _ _ _ _ rfl ((Below.heap_alloc _ _ _ (by simp)).trans (heap_alloc_new w _)) Tryz.underlying34 rfl (by kernel_rfl)
  exact ⟨rfl, ((Below.refl _ _).alloc (Nat.le_refl _) _).alloc (by simp) _⟩

set_option maxRecDepth 100000 in
set_option maxHeartbeats 4000000 in
theorem awake_any (w : World) : Calls Tryz.prog 10 #[] w fun e w' => e = .returned (.bool true) ∧ Below w.heap.size w w' := by
  have HF : Hid (∀ W, Calls Tryz.prog 25 #[] W fun e w' => e = .returned (chV firstC (.slice none 0 0)) ∧ Below W.heap.size W w') := fun W => first_any W
  go_enter Tryz.func10, Tryz.ntmps10
  go_wp2_with fail
  refine (new_any 3 _).mono ?_
  rintro e w1 ⟨h, hb1⟩
  rcases h with ⟨h, _⟩ | ⟨_, lb, F, rfl, hL, hF⟩
  · omega
  have HL : Hid (LogOk F w1 lb 3 []) := hL
  have HB1 : Hid (Below w.heap.size w w1) := hb1
  have HFn : Hid (∀ k, F k → w.heap.size ≤ k) := hF
  clear hL hb1 hF
  go_wp2_with fail
  refine (HF.out _).mono ?_
  rintro e w2 ⟨rfl, hb2⟩
  replace HL : Hid (LogOk F w2 lb 3 []) := HL.out.below hb2
  have HB2 : Hid (Below w.heap.size w w2) := HB1.out.trans (hb2.mono HB1.out.size)
  clear hb2 HB1
  go_wp2_with fail
  refine (add_any F lb 3 [] firstC (.slice none 0 0) _ HL.out Good.none (by simp) (by omega) (IsI.non 0) first_sized).mono ?_
  rintro e w3 ⟨rfl, F3, hL3, hf1, hf2, ht⟩
  rw [why_first]
  rw [add_first] at hL3
  have HL3 : Hid (LogOk F3 w3 lb 3 [firstC]) := hL3
  have HB3 : Hid (Below w.heap.size w w3) := HB2.out.trans (ht.below HFn.out HB2.out.size)
  have HF3 : Hid (∀ k, F3 k → w.heap.size ≤ k) := fun k hk => by
    rcases hf2 k hk with h | h
    · exact HFn.out k h
    · exact Nat.le_trans HB2.out.size h
  clear hL3 hf1 hf2 ht HL HB2 HFn
  go_wp2_with fail
  refine (HF.out _).mono ?_
  rintro e w4 ⟨rfl, hb4⟩
  replace HL3 : Hid (LogOk F3 w4 lb 3 [firstC]) := HL3.out.below hb4
  have HB4 : Hid (Below w.heap.size w w4) := HB3.out.trans (hb4.mono HB3.out.size)
  clear hb4 HB3
  go_wp2_with fail
  refine (add_any F3 lb 3 [firstC] firstC (.slice none 0 0) _ HL3.out (by rw [← add_first]; exact addL_good Good.none 3 firstC) (by simp) (by omega) (IsI.non 0) first_sized).mono ?_
  rintro e w5 ⟨rfl, F5, hL5, hf1, hf2, ht⟩
  rw [why_first2]
  rw [add_first2] at hL5
  have HL5 : Hid (LogOk F5 w5 lb 3 [firstC]) := hL5
  have HB5 : Hid (Below w.heap.size w w5) := HB4.out.trans (ht.below HF3.out HB4.out.size)
  clear hL5 hf1 hf2 ht HL3 HB4 HF3
  go_wp2_with fail
  refine (len_any _ 3 [firstC] F5 _ HL5.out.v).mono ?_
  rintro e w6 ⟨rfl, hb6⟩
  have HL6 : Hid (LogOk F5 w6 lb 3 [firstC]) := HL5.out.below hb6
  have HB6 : Hid (Below w.heap.size w w6) := HB5.out.trans (hb6.mono HB5.out.size)
  clear hb6 HB5 HL5
  rw [show ((([firstC] : List Ch).length : Nat) : Int) = 1 from rfl]
  go_wp2_with fail
  refine (last_any _ 3 [firstC] F5 _ HL6.out.v (by simp)).mono ?_
  rintro e w7 ⟨rfl, hb7⟩
  have HB7 : Hid (Below w.heap.size w w7) := HB6.out.trans (hb7.mono HB6.out.size)
  clear hb7 HB6 HL6
  rw [show lastL [firstC] = 1 from rfl]
  go_wp2
  go_ret
  exact ⟨rfl, HB7.out⟩

end Go.Proofs.YtckipepodohnpaaGreat

namespace Go.Proofs.YtckipepodohnpaaGreat
open Go.RowKit
set_option linter.unusedVariables false
set_option linter.unusedSimpArgs false

theorem results_tmp_row {P : Program} {fn : Func} {p u : Tmp} {ty : TypeId} (h : fn.results = #[.tmp u, .cell p ty]) (tmps : Array Value) (w : World) (g : Nat) (t : TypeId) (cs : Array Value) (fr : Nat × Nat) (d : TypeDesc)
    (hp : tmps.getD p undef = .pointer (some ⟨g, 0, none⟩)) (hg : w.heap[g]? = some (.cells cs t fr))
    (hu : P.underlying ty = some d) (hd : (match d with | .struct _ | .array _ _ => true | _ => false) = true) (hi : (P.info? ty).map (·.size) = some cs.size) {k : Value} (hk : tmps.getD u undef = k) :
    (results fn tmps).run P w = .ok (.tuple #[k, .agg cs]) w := by
  have e : (results fn tmps).run P w = ((asAddr (tmps.getD p undef)).run P w).andThen fun a w₁ => ((loadVar ty a).run P w₁).andThen fun v w₂ => .ok (.tuple #[tmps.getD u undef, v]) w₂ := by
    simp only [results, h]
    simp [Sem.run_bind, Result.andThen]
  rw [e, hp, hk]
  simp [asAddr, run_loadVar_row w g t ty cs fr d hg hu hd hi]
/-- A log and the document's, whose box is yb, beside each other; the call's result lies at its first block. -/
structure Fil (w : World) (lb : Nat) (room : Int) (yb : Nat) (F G : Nat → Prop) (Lx Ly : List Ch) (yv : Value) (U : World) : Prop where
  log : LogOk F U lb room Lx
  firm : HFirm G U yv Ly
  ybox : U.heap[yb]? = some (.cells #[.int .i64 room, yv] 29)
  rbox : U.heap[w.heap.size]? = some (.cells #[.int .i64 0, .slice none 0 0] 29)
  bel : Below w.heap.size w U
  ff : ∀ k, F k → w.heap.size < k
  gw : ∀ k, G k → w.heap.size < k
  fg : ∀ k, G k → ¬ F k
  fy : ¬ F yb
  gy : ¬ G yb
  yw : w.heap.size < yb
section
variable {w : World} {lb : Nat} {room : Int} {yb : Nat} {F F' G : Nat → Prop} {Lx Lx' Ly Ly' : List Ch} {yv yv' : Value} {U U' : World}
theorem Fil.ne (h : Fil w lb room yb F G Lx Ly yv U) : yb ≠ w.heap.size := by have := h.yw; omega
theorem Fil.below (h : Fil w lb room yb F G Lx Ly yv U) (hb : Below U.heap.size U U') : Fil w lb room yb F G Lx Ly yv U' :=
  ⟨h.log.below hb, h.firm.below hb, (hb.block _ (row_lt h.ybox)).trans h.ybox, (hb.block _ (row_lt h.rbox)).trans h.rbox, h.bel.trans (hb.mono h.bel.size), h.ff, h.gw, h.fg, h.fy, h.gy, h.yw⟩
theorem Fil.add (h : Fil w lb room yb F G Lx Ly yv U) (hl : LogOk F' U' lb room Lx') (hf : ∀ k, F' k → F k ∨ U.heap.size ≤ k) (ht : Touch F U U') : Fil w lb room yb F' G Lx' Ly yv U' := by
  have hy := row_lt h.ybox
  have hr := row_lt h.rbox
  refine ⟨hl, h.firm.keep (ht.keeps fun k hk => ⟨h.firm.1 k hk, h.fg k hk⟩), (ht.block _ hy h.fy).trans h.ybox, (ht.block _ hr (fun hF => by have := h.ff _ hF; omega)).trans h.rbox, h.bel.trans (ht.below (fun k hk => by have := h.ff k hk; omega) h.bel.size), ?_, h.gw, ?_, ?_, h.gy, h.yw⟩
  · intro k hk
    rcases hf k hk with q | q
    · exact h.ff k q
    · omega
  · intro k hG hk
    rcases hf k hk with q | q
    · exact h.fg k hG q
    · have := h.firm.1 k hG; omega
  · intro hk
    rcases hf yb hk with q | q
    · exact h.fy q
    · omega
theorem Fil.put {N : Nat} (h : Fil w lb room yb F G Lx Ly yv U) (hf : HFirm (fun k => G k ∨ (N ≤ k ∧ k < U.heap.size)) U yv' Ly') (hy : yb < N) (hF : ∀ k, F k → k < N) :
    Fil w lb room yb F (fun k => G k ∨ (N ≤ k ∧ k < U.heap.size)) Lx Ly' yv' ((U.setCell ⟨yb, 0, none⟩ (.int .i64 room)).setCell ⟨yb, 1, none⟩ yv') := by
  have hyw := h.yw
  have far : ∀ k, k ≠ yb → ((U.setCell ⟨yb, 0, none⟩ (.int .i64 room)).setCell ⟨yb, 1, none⟩ yv').heap[k]? = U.heap[k]? := fun k hk => (RowKit.Below.heap_setCell _ _ _ _ hk).trans (RowKit.Below.heap_setCell _ _ _ _ hk)
  have hs : ((U.setCell ⟨yb, 0, none⟩ (.int .i64 room)).setCell ⟨yb, 1, none⟩ yv').heap.size = U.heap.size := by simp [World.setCell]
  refine ⟨h.log.keep ⟨Nat.le_of_eq hs.symm, fun k hk => far k (fun e => h.fy (e ▸ hk))⟩, hf.keep ⟨Nat.le_of_eq hs.symm, fun k hk => far k (fun e => ?_)⟩, row_set2 h.ybox, (far _ (by omega)).trans h.rbox, (h.bel.setCell (p := ⟨yb, 0, none⟩) (by show w.heap.size ≤ yb; omega) _).setCell (p := ⟨yb, 1, none⟩) (by show w.heap.size ≤ yb; omega) _, h.ff, ?_, ?_, h.fy, ?_, h.yw⟩
  · subst e
    rcases hk with q | q
    · exact h.gy q
    · omega
  · intro k hk
    rcases hk with q | q
    · exact h.gw k q
    · omega
  · intro k hk hFk
    rcases hk with q | q
    · exact h.fg k q hFk
    · have := hF k hFk; omega
  · intro hk
    rcases hk with q | q
    · exact h.gy q
    · omega
/-- What filled gives. -/
theorem Fil.last (h : Fil w lb room yb F G Lx Ly yv U) : LogOk F ((U.setCell ⟨w.heap.size, 0, none⟩ (.int .i64 room)).setCell ⟨w.heap.size, 1, none⟩ yv) lb room Lx ∧ HFirm G ((U.setCell ⟨w.heap.size, 0, none⟩ (.int .i64 room)).setCell ⟨w.heap.size, 1, none⟩ yv) yv Ly ∧ Below w.heap.size w ((U.setCell ⟨w.heap.size, 0, none⟩ (.int .i64 room)).setCell ⟨w.heap.size, 1, none⟩ yv) ∧ (∀ k, F k → w.heap.size ≤ k) ∧ (∀ k, G k → w.heap.size ≤ k) ∧ ∀ k, G k → ¬ F k := by
  have far : ∀ k, k ≠ w.heap.size → ((U.setCell ⟨w.heap.size, 0, none⟩ (.int .i64 room)).setCell ⟨w.heap.size, 1, none⟩ yv).heap[k]? = U.heap[k]? := fun k hk => (RowKit.Below.heap_setCell _ _ _ _ hk).trans (RowKit.Below.heap_setCell _ _ _ _ hk)
  have hs : ((U.setCell ⟨w.heap.size, 0, none⟩ (.int .i64 room)).setCell ⟨w.heap.size, 1, none⟩ yv).heap.size = U.heap.size := by simp [World.setCell]
  refine ⟨h.log.keep ⟨Nat.le_of_eq hs.symm, fun k hk => far k (fun e => by have := h.ff k hk; omega)⟩, h.firm.keep ⟨Nat.le_of_eq hs.symm, fun k hk => far k (fun e => by have := h.gw k hk; omega)⟩, (h.bel.setCell (p := ⟨w.heap.size, 0, none⟩) (Nat.le_refl _) _).setCell (p := ⟨w.heap.size, 1, none⟩) (Nat.le_refl _) _, fun k hk => Nat.le_of_lt (h.ff k hk), fun k hk => Nat.le_of_lt (h.gw k hk), h.fg⟩
end

set_option maxRecDepth 100000 in
set_option maxHeartbeats 8000000 in
theorem filled_any (room : Int) (v : Value) (l : List Ch) (w : World) (h : IsH w v l) (hr0 : 1 ≤ room) (hr1 : room ≤ 4096) :
    Calls Tryz.prog 15 #[.int .i64 room, v] w fun e w' => ∃ lb yv F G, e = .returned (.tuple #[.pointer (some ⟨lb, 0, none⟩), .agg #[.int .i64 room, yv]]) ∧ LogOk F w' lb room (fillL room l) ∧ HFirm G w' yv (fillL room l) ∧ Below w.heap.size w w' ∧ (∀ k, F k → w.heap.size ≤ k) ∧ (∀ k, G k → w.heap.size ≤ k) ∧ ∀ k, G k → ¬ F k := by
  obtain ⟨a1, c1, rfl, hc1, hl1, r1⟩ := h
  have HR : Hid (l = [] ∨ ∃ b o, a1 = some ⟨b, o, none⟩ ∧ ChsAt w b o l) := r1
  clear r1
  obtain ⟨W0, eW⟩ : ∃ X, X = w.alloc (.cells #[.int .i64 0, .slice none 0 0] 29) := ⟨_, rfl⟩
  have HR0 : Hid (W0.heap[w.heap.size]? = some (.cells #[.int .i64 0, .slice none 0 0] 29)) := by rw [eW]; exact heap_alloc_new _ _
  have hb0 : Below w.heap.size w W0 := by rw [eW]; exact (Below.refl _ _).alloc (Nat.le_refl _) _
  have hs0 : W0.heap.size = w.heap.size + 1 := by rw [eW]; simp
  go_enter Tryz.func15, Tryz.ntmps15
  go_wp2_with fail
  rw [← eW]
  clear eW
  refine (new_any room _).mono ?_
  rintro e w1 ⟨h, hb1⟩
  rcases h with ⟨h, _⟩ | ⟨_, lb, F, rfl, hL, hF⟩
  · omega
  obtain ⟨W2, eW2⟩ : ∃ X, X = w1.alloc (.cells #[.int .i64 room, .slice none 0 0] 29) := ⟨_, rfl⟩
  obtain ⟨yb, eyb⟩ : ∃ b, b = w1.heap.size := ⟨_, rfl⟩
  have hb2 : Below w1.heap.size w1 W2 := by rw [eW2]; exact (Below.refl _ _).alloc (Nat.le_refl _) _
  have HFl0 : Hid (Fil w lb room yb F (fun _ => False) (fillL room (l.take 0)) (fillL room (l.take 0)) (.slice none 0 0) W2) := by
    have hs1 := hb1.size
    refine ⟨hL.below hb2, HFirm.nil _, ?_, (hb2.block _ (by omega)).trans ((hb1.block _ (by omega)).trans HR0.out), hb0.trans ((hb1.mono (by omega)).trans (hb2.mono (by omega))), fun k hk => by have := hF k hk; omega, fun k hk => hk.elim, fun k hk => hk.elim, fun hk => ?_, fun hk => hk.elim, by omega⟩
    · rw [eyb, eW2]; exact heap_alloc_new _ _
    · have := hL.lt yb hk; omega
  clear hL hF hb1 HR0 hb0 hs0 hb2
  go_wp2
  rw [← eW2, ← eyb]
  clear eW2 eyb
  go_loopw [9] (fun i wr => ∃ (k : Nat) (F G : Nat → Prop) (yv : Value), k ≤ l.length ∧ i = .int .i64 (k : Int) ∧ Hid (Fil w lb room yb F G (fillL room (l.take k)) (fillL room (l.take k)) yv wr)) (fun i _ => l.length - (intOf i).toNat)
  case atStart => exact ⟨0, _, _, _, Nat.zero_le _, rfl, HFl0⟩
  case round =>
    obtain ⟨k, F, G, yv, hk, rfl, HFl⟩ := hrel
    by_cases hlt : k < l.length
    · obtain ⟨b1, o1, rfl, g1⟩ := HR.out.resolve_left (by intro e; subst e; simp at hlt)
      obtain ⟨a0, c0, i3, hs3, z⟩ := (g1 k hlt).all
      have hbb : b1 < w.heap.size := (g1 k hlt).lt
      have hc' : ∀ W', BelowH w W' → W'.cell? ⟨b1, o1 + k * 13, none⟩ = some (.int .i64 l[k].ac) ∧ W'.cell? ⟨b1, o1 + k * 13 + 1, none⟩ = some (.int .i64 l[k].ar) ∧ W'.cell? ⟨b1, o1 + k * 13 + 2, none⟩ = some (.int .i64 l[k].seq) ∧ W'.cell? ⟨b1, o1 + k * 13 + 3, none⟩ = some (.slice a0 l[k].deps.length c0) ∧ W'.cell? ⟨b1, o1 + k * 13 + 4, none⟩ = some (.int .i64 l[k].kind) ∧ W'.cell? ⟨b1, o1 + k * 13 + 5, none⟩ = some (.int .i64 l[k].nc) ∧ W'.cell? ⟨b1, o1 + k * 13 + 6, none⟩ = some (.int .i64 l[k].nr) ∧ W'.cell? ⟨b1, o1 + k * 13 + 7, none⟩ = some (.int .i64 l[k].pc) ∧ W'.cell? ⟨b1, o1 + k * 13 + 8, none⟩ = some (.int .i64 l[k].pr) ∧ W'.cell? ⟨b1, o1 + k * 13 + 9, none⟩ = some (.int .i64 l[k].fc) ∧ W'.cell? ⟨b1, o1 + k * 13 + 10, none⟩ = some (.int .i64 l[k].fr) ∧ W'.cell? ⟨b1, o1 + k * 13 + 11, none⟩ = some (.string l[k].name) ∧ W'.cell? ⟨b1, o1 + k * 13 + 12, none⟩ = some (.string l[k].value) := fun W' hb => by
        obtain ⟨z0, z1, z2, z3, z4, z5, z6, z7, z8, z9, z10, z11, z12⟩ := z
        exact ⟨(hb.cell (p := ⟨b1, o1 + k * 13, none⟩) hbb).trans z0, (hb.cell (p := ⟨b1, o1 + k * 13 + 1, none⟩) hbb).trans z1, (hb.cell (p := ⟨b1, o1 + k * 13 + 2, none⟩) hbb).trans z2, (hb.cell (p := ⟨b1, o1 + k * 13 + 3, none⟩) hbb).trans z3, (hb.cell (p := ⟨b1, o1 + k * 13 + 4, none⟩) hbb).trans z4, (hb.cell (p := ⟨b1, o1 + k * 13 + 5, none⟩) hbb).trans z5, (hb.cell (p := ⟨b1, o1 + k * 13 + 6, none⟩) hbb).trans z6, (hb.cell (p := ⟨b1, o1 + k * 13 + 7, none⟩) hbb).trans z7, (hb.cell (p := ⟨b1, o1 + k * 13 + 8, none⟩) hbb).trans z8, (hb.cell (p := ⟨b1, o1 + k * 13 + 9, none⟩) hbb).trans z9, (hb.cell (p := ⟨b1, o1 + k * 13 + 10, none⟩) hbb).trans z10, (hb.cell (p := ⟨b1, o1 + k * 13 + 11, none⟩) hbb).trans z11, (hb.cell (p := ⟨b1, o1 + k * 13 + 12, none⟩) hbb).trans z12⟩
      have k1 : (k : Int) < (l.length : Int) := by omega
      have k0 : (0 : Int) ≤ (k : Int) := by omega
      have HFs : Hid (fillL room (l.take (k + 1)) = addL (fillL room (l.take k)) room l[k]) := by
        have e := fillL_snoc room (l.take k) l[k]
        rw [← List.take_succ_eq_append_getElem hlt] at e
        exact e
      have hroom : ((fillL room (l.take k)).length : Int) ≤ room := fillL_room (by omega) _
      have HGd : Hid (Good (fillL room (l.take k))) := fillL_good _ _
      obtain ⟨⟨ac, ar, sq, ds, kd, nc, nr, pc, pr, fc, fr, nm, vl⟩, hc⟩ : ∃ c, c = l[k] := ⟨_, rfl⟩
      rw [← hc] at i3 hs3 hc' HFs
      simp only at hc'
      have HIc : Hid (IsI w (.slice a0 ds.length c0) ds) := i3
      have HSz : Hid (Sized (⟨ac, ar, sq, ds, kd, nc, nr, pc, pr, fc, fr, nm, vl⟩ : Ch)) := hs3
      have HC : Hid (∀ W', BelowH w W' → W'.cell? ⟨b1, o1 + k * 13, none⟩ = some (.int .i64 ac) ∧ W'.cell? ⟨b1, o1 + k * 13 + 1, none⟩ = some (.int .i64 ar) ∧ W'.cell? ⟨b1, o1 + k * 13 + 2, none⟩ = some (.int .i64 sq) ∧ W'.cell? ⟨b1, o1 + k * 13 + 3, none⟩ = some (.slice a0 ds.length c0) ∧ W'.cell? ⟨b1, o1 + k * 13 + 4, none⟩ = some (.int .i64 kd) ∧ W'.cell? ⟨b1, o1 + k * 13 + 5, none⟩ = some (.int .i64 nc) ∧ W'.cell? ⟨b1, o1 + k * 13 + 6, none⟩ = some (.int .i64 nr) ∧ W'.cell? ⟨b1, o1 + k * 13 + 7, none⟩ = some (.int .i64 pc) ∧ W'.cell? ⟨b1, o1 + k * 13 + 8, none⟩ = some (.int .i64 pr) ∧ W'.cell? ⟨b1, o1 + k * 13 + 9, none⟩ = some (.int .i64 fc) ∧ W'.cell? ⟨b1, o1 + k * 13 + 10, none⟩ = some (.int .i64 fr) ∧ W'.cell? ⟨b1, o1 + k * 13 + 11, none⟩ = some (.string nm) ∧ W'.cell? ⟨b1, o1 + k * 13 + 12, none⟩ = some (.string vl)) := hc'
      obtain ⟨p_0, p_1, p_2, p_3, p_4, p_5, p_6, p_7, p_8, p_9, p_10, p_11, p_12⟩ := HC.out _ HFl.out.bel
      generalize fillL room (l.take k) = L at *
      clear hc i3 hs3 g1 z hc'
      go_wp2_with fail
      refine (add_any F lb room L (⟨ac, ar, sq, ds, kd, nc, nr, pc, pr, fc, fr, nm, vl⟩ : Ch) (.slice a0 ds.length c0) _ HFl.out.log HGd.out hroom hr1 (HIc.out.below HFl.out.bel) HSz.out).mono ?_
      rintro e w3 ⟨rfl, F3, hL3, hf1, hf2, ht⟩
      rw [← HFs.out] at hL3
      have HF3 : Hid (Fil w lb room yb F3 G (fillL room (l.take (k + 1))) L yv w3) := HFl.out.add hL3 hf2 ht
      generalize whyR L room (⟨ac, ar, sq, ds, kd, nc, nr, pc, pr, fc, fr, nm, vl⟩ : Ch) = we
      clear hL3 hf1 hf2 ht HFl HGd p_0 p_1 p_2 p_3 p_4 p_5 p_6 p_7 p_8 p_9 p_10 p_11 p_12
      obtain ⟨F, eF⟩ : ∃ F', F' = F3 := ⟨_, rfl⟩
      obtain ⟨Lx, eLx⟩ : ∃ X, X = fillL room (l.take (k + 1)) := ⟨_, rfl⟩
      obtain ⟨Ly, eLy⟩ : ∃ X, X = L := ⟨_, rfl⟩
      rw [← eF, ← eLx, ← eLy] at HF3
      obtain ⟨ay, cy, ey⟩ := HF3.out.firm.isH.form
      rw [ey] at HF3
      have HFl : Hid (Fil w lb room yb F G Lx Ly (.slice ay Ly.length cy) w3) := HF3
      have HBw : Hid (BelowH w w3) := HF3.out.bel
      have hly : Ly.length ≤ 4096 := by rw [eLy]; omega
      have HLL : Hid (fillL room (l.take (k + 1)) = addL Ly room (⟨ac, ar, sq, ds, kd, nc, nr, pc, pr, fc, fr, nm, vl⟩ : Ch)) := by rw [eLy]; exact HFs.out
      have HLx : Hid (Lx = fillL room (l.take (k + 1))) := eLx
      clear HF3 eF eLx eLy ey HFs hroom
      go_upto_region 7 with fail
      refine wp_region_held_drew (S := fun W' => BelowH w W') (by kernel_rfl) (BelowH.below HBw.out (Below.refl _ _).drew) (fun hHeld => ?_)
      obtain ⟨Ua3u0, eW⟩ : ∃ X, X = w3.drew := ⟨_, rfl⟩
      have hb : Below w3.heap.size w3 Ua3u0 := by rw [eW]; exact (Below.refl _ _).drew
      replace HFl : Hid (Fil w lb room yb F G Lx Ly (.slice ay Ly.length cy) Ua3u0) := HFl.out.below hb
      replace HBw : Hid (BelowH w Ua3u0) := HBw.out.below hb
      rw [← eW] at hHeld ⊢
      clear eW hb
      refine wpAnyH_take (i := 1) (oi := ⟨some 31, _, _, _, _, _⟩) (v := ?va3ux1) rfl (by kernel_rfl) (by kernel_rfl) (by kernel_rfl) (fun _ _ _ h => h) (Or.inl ⟨by rfl, ?hya3ux1⟩) hHeld ?resta3ux1
      case hya3ux1 => (intro w _; go_simp; try with_reducible rfl)
      simp only [Act.put, List.setIfInBounds_toArray, List.set_cons_zero, List.set_cons_succ]
      refine wpAnyH_take (i := 2) (oi := ⟨some 32, _, _, _, _, _⟩) (v := ?va3ux2) rfl (by kernel_rfl) (by kernel_rfl) (by kernel_rfl) (fun _ _ _ h => h) (Or.inl ⟨by rfl, ?hya3ux2⟩) hHeld ?resta3ux2
      case hya3ux2 => (intro w _; go_simp; try with_reducible rfl)
      simp only [Act.put, List.setIfInBounds_toArray, List.set_cons_zero, List.set_cons_succ]
      refine wpAnyH_take (i := 3) (oi := ⟨some 33, _, _, _, _, _⟩) (v := ?va3ux3) rfl (by kernel_rfl) (by kernel_rfl) (by kernel_rfl) (fun _ _ _ h => h) (Or.inl ⟨by rfl, ?hya3ux3⟩) hHeld ?resta3ux3
      case hya3ux3 => (intro w hSw; (try dsimp only at hSw); have hk := hSw; obtain ⟨p_0, p_1, p_2, p_3, p_4, p_5, p_6, p_7, p_8, p_9, p_10, p_11, p_12⟩ := HC.out _ hk; go_simp; try with_reducible rfl)
      simp only [Act.put, List.setIfInBounds_toArray, List.set_cons_zero, List.set_cons_succ]
      refine wpAnyH_take (i := 4) (oi := ⟨some 34, _, _, _, _, _⟩) (v := ?va3ux4) rfl (by kernel_rfl) (by kernel_rfl) (by kernel_rfl) (fun _ _ _ h => h) (Or.inl ⟨by rfl, ?hya3ux4⟩) hHeld ?resta3ux4
      case hya3ux4 => (intro w hSw; (try dsimp only at hSw); have hk := hSw; obtain ⟨p_0, p_1, p_2, p_3, p_4, p_5, p_6, p_7, p_8, p_9, p_10, p_11, p_12⟩ := HC.out _ hk; go_simp; try with_reducible rfl)
      simp only [Act.put, List.setIfInBounds_toArray, List.set_cons_zero, List.set_cons_succ]
      refine wpAnyH_ready (rs := [0]) (by kernel_rfl) (by simp) ?_
      refine AllReadyH.cons (o := ⟨some 30, _, _, _, _, _⟩) rfl (fun K hK => ?_) AllReadyH.nil
      obtain ⟨x_0, x_1, _, _⟩ := row2_cells HFl.out.ybox
      go_simp
      refine hK.out _ _ (hHeld) (fun hHeld2 => ?_)
      clear hK K hHeld
      have hHeld := hHeld2
      clear hHeld2
      (try simp only [Act.put, List.setIfInBounds_toArray, List.set_cons_zero, List.set_cons_succ])
      clear x_0 x_1
      refine wpAnyH_ready (rs := [5]) (by kernel_rfl) (by simp) ?_
      refine AllReadyH.cons (o := ⟨some 35, _, _, _, _, _⟩) rfl (fun K hK => ?_) AllReadyH.nil
      have hyb : yb < Ua3u0.heap.size := row_lt HFl.out.ybox
      have HFk : Hid (∀ k, F k → k < Ua3u0.heap.size) := HFl.out.log.lt
      go_simp
      refine (refAdd_any G _ Ly room ac ar sq (.slice a0 ds.length c0) kd nc nr pc pr fc fr nm vl ds Ua3u0 HFl.out.firm (HIc.out.below HBw.out) HSz.out hly).mono ?_
      rintro e Ua3u2 ⟨v6, rfl, hf6, hb⟩
      (try go_wp2_with fail)
      refine hK.out _ _ (BelowH.below hHeld hb) (fun hHeld2 => ?_)
      clear hK K hHeld
      have hHeld := hHeld2
      clear hHeld2
      (try simp only [Act.put, List.setIfInBounds_toArray, List.set_cons_zero, List.set_cons_succ])
      replace HFl : Hid (Fil w lb room yb F G Lx Ly (.slice ay Ly.length cy) Ua3u2) := HFl.out.below hb
      replace HBw : Hid (BelowH w Ua3u2) := HBw.out.below hb
      obtain ⟨a6, c6, e6⟩ := hf6.isH.form
      subst e6
      have HF6 : Hid (HFirm (fun k => G k ∨ (Ua3u0.heap.size ≤ k ∧ k < Ua3u2.heap.size)) Ua3u2 (.slice a6 (addL Ly room (⟨ac, ar, sq, ds, kd, nc, nr, pc, pr, fc, fr, nm, vl⟩ : Ch)).length c6) (addL Ly room (⟨ac, ar, sq, ds, kd, nc, nr, pc, pr, fc, fr, nm, vl⟩ : Ch))) := hf6
      clear hf6
      clear hb
      refine wpAnyH_take (i := 6) (oi := ⟨some 29, _, _, _, _, _⟩) (v := ?va3u_0_5x6) rfl (by kernel_rfl) (by kernel_rfl) (by kernel_rfl) (fun _ _ _ h => h) (Or.inl ⟨by rfl, ?hya3u_0_5x6⟩) hHeld ?resta3u_0_5x6
      case hya3u_0_5x6 => (intro w _; go_simp; try with_reducible rfl)
      simp only [Act.put, List.setIfInBounds_toArray, List.set_cons_zero, List.set_cons_succ]
      refine wpAnyH_take (i := 7) (oi := ⟨some 36, _, _, _, _, _⟩) (v := ?va3u_0_5x7) rfl (by kernel_rfl) (by kernel_rfl) (by kernel_rfl) (fun _ _ _ h => h) (Or.inl ⟨by rfl, ?hya3u_0_5x7⟩) hHeld ?resta3u_0_5x7
      case hya3u_0_5x7 => (intro w _; go_simp; try with_reducible rfl)
      simp only [Act.put, List.setIfInBounds_toArray, List.set_cons_zero, List.set_cons_succ]
      refine wpAnyH_take (i := 8) (oi := ⟨some 37, _, _, _, _, _⟩) (v := ?va3u_0_5x8) rfl (by kernel_rfl) (by kernel_rfl) (by kernel_rfl) (fun _ _ _ h => h) (Or.inl ⟨by rfl, ?hya3u_0_5x8⟩) hHeld ?resta3u_0_5x8
      case hya3u_0_5x8 => (intro w _; go_simp; try with_reducible rfl)
      simp only [Act.put, List.setIfInBounds_toArray, List.set_cons_zero, List.set_cons_succ]
      refine wpAnyH_ready (rs := [9]) (by kernel_rfl) (by simp) ?_
      refine AllReadyH.cons (o := ⟨none, _, _, _, _, _⟩) rfl (fun K hK => ?_) AllReadyH.nil
      obtain ⟨r_0, r_1, r_2, r_3⟩ := row2_cells HFl.out.ybox
      go_simp
      refine hK.out _ _ ((HFl.out.put HF6.out hyb HFk.out).bel) (fun hHeld2 => ?_)
      clear hK K hHeld
      have hHeld := hHeld2
      clear hHeld2
      (try simp only [Act.put, List.setIfInBounds_toArray, List.set_cons_zero, List.set_cons_succ])
      have HFl9 : Hid (Fil w lb room yb F (fun k => G k ∨ (Ua3u0.heap.size ≤ k ∧ k < Ua3u2.heap.size)) Lx (addL Ly room (⟨ac, ar, sq, ds, kd, nc, nr, pc, pr, fc, fr, nm, vl⟩ : Ch)) (.slice a6 (addL Ly room (⟨ac, ar, sq, ds, kd, nc, nr, pc, pr, fc, fr, nm, vl⟩ : Ch)).length c6) ((Ua3u2.setCell ⟨yb, 0, none⟩ (.int .i64 room)).setCell ⟨yb, 1, none⟩ (.slice a6 (addL Ly room (⟨ac, ar, sq, ds, kd, nc, nr, pc, pr, fc, fr, nm, vl⟩ : Ch)).length c6))) := HFl.out.put HF6.out hyb HFk.out
      clear r_0 r_1 r_2 r_3 HFl HF6
      refine wpAnyH_done (by kernel_rfl) ?_ _
      clear hHeld
      go_wp2
      go_roundw
      case rel => exact ⟨k + 1, _, _, _, by omega, by go_num, (by have e2 := HLL.out; have e3 : Lx = addL Ly room (⟨ac, ar, sq, ds, kd, nc, nr, pc, pr, fc, fr, nm, vl⟩ : Ch) := HLx.out.trans e2; rw [e2]; rw [e3] at HFl9; exact HFl9)⟩
      case measure => simp [intOf]; omega
    · have hkl : k = l.length := by omega
      subst hkl
      rw [List.take_length] at HFl
      obtain ⟨Ly, eLy⟩ : ∃ X, X = fillL room l := ⟨_, rfl⟩
      rw [← eLy] at HFl
      obtain ⟨Lx, eLx⟩ : ∃ X, X = Ly := ⟨_, rfl⟩
      obtain ⟨ay, cy, ey⟩ := HFl.out.firm.isH.form
      subst ey
      have HLy : Hid (fillL room l = Ly) := eLy.symm
      clear eLy
      rw [show Fil w lb room yb F G Ly Ly = Fil w lb room yb F G Lx Ly by rw [eLx]] at HFl
      have HLx : Hid (Lx = Ly) := eLx
      clear eLx hlt
      go_upto_region 8 with fail
      refine wp_region_held_drew (S := fun W' => W'.heap[yb]? = some (.cells #[.int .i64 room, .slice ay Ly.length cy] 29)) (by kernel_rfl) HFl.out.ybox (fun hHeld => ?_)
      obtain ⟨Ub4u0, eW⟩ : ∃ X, X = wr.drew := ⟨_, rfl⟩
      have hb : Below wr.heap.size wr Ub4u0 := by rw [eW]; exact (Below.refl _ _).drew
      replace HFl : Hid (Fil w lb room yb F G Lx Ly (.slice ay Ly.length cy) Ub4u0) := HFl.out.below hb
      rw [← eW] at hHeld ⊢
      clear eW hb
      refine wpAnyH_take (i := 0) (oi := ⟨some 38, _, _, _, _, _⟩) (v := ?vb4ux0) rfl (by kernel_rfl) (by kernel_rfl) (by kernel_rfl) (fun _ _ _ h => h) (Or.inl ⟨by rfl, ?hyb4ux0⟩) hHeld ?restb4ux0
      case hyb4ux0 => (intro w _; go_simp; try with_reducible rfl)
      simp only [Act.put, List.setIfInBounds_toArray, List.set_cons_zero, List.set_cons_succ]
      refine wpAnyH_take (i := 1) (oi := ⟨some 39, _, _, _, _, _⟩) (v := ?vb4ux1) rfl (by kernel_rfl) (by kernel_rfl) (by kernel_rfl) (fun _ _ _ h => h) (Or.inl ⟨by rfl, ?hyb4ux1⟩) hHeld ?restb4ux1
      case hyb4ux1 => (intro w hSw; (try dsimp only at hSw); have hk := hSw; obtain ⟨x_0, x_1, _, _⟩ := row2_cells hk; go_simp; try with_reducible rfl)
      simp only [Act.put, List.setIfInBounds_toArray, List.set_cons_zero, List.set_cons_succ]
      refine wpAnyH_take (i := 2) (oi := ⟨some 4, _, _, _, _, _⟩) (v := ?vb4ux2) rfl (by kernel_rfl) (by kernel_rfl) (by kernel_rfl) (fun _ _ _ h => h) (Or.inl ⟨by rfl, ?hyb4ux2⟩) hHeld ?restb4ux2
      case hyb4ux2 => (intro w _; go_simp; try with_reducible rfl)
      simp only [Act.put, List.setIfInBounds_toArray, List.set_cons_zero, List.set_cons_succ]
      refine wpAnyH_ready (rs := [3]) (by kernel_rfl) (by simp) ?_
      refine AllReadyH.cons (o := ⟨none, _, _, _, _, _⟩) rfl (fun K hK => ?_) AllReadyH.nil
      obtain ⟨r_0, r_1, r_2, r_3⟩ := row2_cells HFl.out.rbox
      go_simp
      refine hK.out _ _ (row_set_other (row_set_other hHeld HFl.out.ne) HFl.out.ne) (fun hHeld2 => ?_)
      clear hK K hHeld
      have hHeld := hHeld2
      clear hHeld2
      (try simp only [Act.put, List.setIfInBounds_toArray, List.set_cons_zero, List.set_cons_succ])
      have HE := HFl.out.last
      have HSm : Hid (((Ub4u0.setCell ⟨w.heap.size, 0, none⟩ (.int .i64 room)).setCell ⟨w.heap.size, 1, none⟩ (.slice ay Ly.length cy)).heap[w.heap.size]? = some (.cells #[.int .i64 room, .slice ay Ly.length cy] 29)) := row_set2 HFl.out.rbox
      clear r_0 r_1 r_2 r_3
      refine wpAnyH_done (by kernel_rfl) ?_ _
      clear hHeld
      have HE2 : Hid (_ ∧ _) := HE
      clear HE
      go_wp2
      (try simp only [Exit.inBlock, Exit.then])
      refine bodyPost_ret (v := .tuple #[.pointer (some ⟨lb, 0, none⟩), .agg #[.int .i64 room, .slice ay Ly.length cy]]) ?res rfl ?post
      case res => exact results_tmp_row rfl _ _ w.heap.size _ _ _ _ rfl HSm.out Tryz.underlying29 rfl (by kernel_rfl) rfl
      obtain ⟨q1, q2, q3⟩ := HE2.out
      rw [HLx.out] at q1
      refine ⟨lb, _, F, G, rfl, ?_, ?_, q3⟩
      · rw [HLy.out]; exact q1
      · rw [HLy.out]; exact q2

end Go.Proofs.YtckipepodohnpaaGreat

namespace Go.Proofs.YtckipepodohnpaaGreat
open Go.RowKit
set_option linter.unusedVariables false
set_option linter.unusedSimpArgs false

set_option maxRecDepth 100000 in
set_option maxHeartbeats 8000000 in
theorem refSameCh_eq (ac ar sq : Int) (v1 v2 : Value) (kd nc nr pc pr fc fr : Int) (nm vl : ByteArray) (ds : List Int) (w : World) (h1 : IsI w v1 ds) (h2 : IsI w v2 ds) :
    Calls Tryz.prog 18 #[.agg #[.int .i64 ac, .int .i64 ar, .int .i64 sq, v1, .int .i64 kd, .int .i64 nc, .int .i64 nr, .int .i64 pc, .int .i64 pr, .int .i64 fc, .int .i64 fr, .string nm, .string vl], .agg #[.int .i64 ac, .int .i64 ar, .int .i64 sq, v2, .int .i64 kd, .int .i64 nc, .int .i64 nr, .int .i64 pc, .int .i64 pr, .int .i64 fc, .int .i64 fr, .string nm, .string vl]] w fun e w' => e = .returned (.bool true) ∧ Below w.heap.size w w' := by
  obtain ⟨a1, c1, e1⟩ := h1.form
  subst e1
  obtain ⟨a2, c2, e2⟩ := h2.form
  subst e2
  have K0 := KeptC.start w [.int .i64 ac, .int .i64 ar, .int .i64 sq, .slice a1 ds.length c1, .int .i64 kd, .int .i64 nc, .int .i64 nr, .int .i64 pc, .int .i64 pr, .int .i64 fc, .int .i64 fr, .string nm, .string vl] 34
  have M0 := KeptC.start (w.alloc (.cells #[.int .i64 ac, .int .i64 ar, .int .i64 sq, .slice a1 ds.length c1, .int .i64 kd, .int .i64 nc, .int .i64 nr, .int .i64 pc, .int .i64 pr, .int .i64 fc, .int .i64 fr, .string nm, .string vl] 34)) [.int .i64 ac, .int .i64 ar, .int .i64 sq, .slice a2 ds.length c2, .int .i64 kd, .int .i64 nc, .int .i64 nr, .int .i64 pc, .int .i64 pr, .int .i64 fc, .int .i64 fr, .string nm, .string vl] 34
  rw [show (w.alloc (.cells #[.int .i64 ac, .int .i64 ar, .int .i64 sq, .slice a1 ds.length c1, .int .i64 kd, .int .i64 nc, .int .i64 nr, .int .i64 pc, .int .i64 pr, .int .i64 fc, .int .i64 fr, .string nm, .string vl] 34)).heap.size = w.heap.size + 1 by simp] at M0
  have K1 := K0.step M0.2.2
  have H1 : Hid (IsI _ (.slice a1 ds.length c1) ds) := h1.below K1.2.2
  have H2 : Hid (IsI _ (.slice a2 ds.length c2) ds) := h2.below K1.2.2
  clear h1 h2
  go_enter Tryz.func18, Tryz.ntmps18
  go_wp2_with fail
  refine (sameI_any _ _ ds ds _ H1.out H2.out).mono ?_
  rintro e w1 ⟨rfl, hb1⟩
  have d0 : decide (ds = ds) = true := by simp
  rw [d0]
  have K2 := K1.step hb1
  have M2 := M0.step hb1
  obtain ⟨k_0, k_1, k_2, k_3, k_4, k_5, k_6, k_7, k_8, k_9, k_10, k_11, k_12⟩ := K2.all
  obtain ⟨m_0, m_1, m_2, m_3, m_4, m_5, m_6, m_7, m_8, m_9, m_10, m_11, m_12⟩ := M2.all
  have q1 : (nm.toList == nm.toList) = true := by simp
  have q2 : (vl.toList == vl.toList) = true := by simp
  go_wp2
  go_ret
  exact ⟨rfl, K2.2.2⟩

end Go.Proofs.YtckipepodohnpaaGreat

namespace Go.Proofs.YtckipepodohnpaaGreat
open Go.RowKit
set_option linter.unusedVariables false
set_option linter.unusedSimpArgs false

/-- A block's cells. -/
structure RowX (b : Nat) (cs : Array Value) (t : TypeId) (W : World) : Prop where
  out : W.heap[b]? = some (.cells cs t)
theorem RowX.below {b : Nat} {cs : Array Value} {t : TypeId} {W W' : World} (h : RowX b cs t W) (hb : Below W.heap.size W W') : RowX b cs t W' := ⟨(hb.block _ (row_lt h.out)).trans h.out⟩
theorem row4_cells {W : World} {b : Nat} {v0 v1 v2 v3 : Value} {t : TypeId} (h : W.heap[b]? = some (.cells #[v0, v1, v2, v3] t)) : W.cell? ⟨b, 0, none⟩ = some v0 ∧ W.cell? ⟨b, 1, none⟩ = some v1 ∧ W.cell? ⟨b, 2, none⟩ = some v2 ∧ W.cell? ⟨b, 3, none⟩ = some v3 := by
  refine ⟨?_, ?_, ?_, ?_⟩ <;> (rw [cell_of_row W b _ _ _ _ h]; rfl)

set_option maxRecDepth 100000 in
set_option maxHeartbeats 16000000 in
theorem findsLaw_any (v : Value) (l : List Ch) (c r rp sq : Int) (w : World) (h : IsH w v l) :
    Calls Tryz.prog 4 #[v, .agg #[.int .i64 c, .int .i64 r, .int .i64 rp, .int .i64 sq]] w fun e w' => e = .returned (.bool true) ∧ Below w.heap.size w w' := by
  have HH : Hid (IsH w v l) := h
  obtain ⟨a1, c1, e1⟩ := h.form
  subst e1
  obtain ⟨W0, eW⟩ : ∃ X, X = w.alloc (.cells #[.int .i64 c, .int .i64 r, .int .i64 rp, .int .i64 sq] 42) := ⟨_, rfl⟩
  obtain ⟨ab, eab⟩ : ∃ b, b = w.heap.size := ⟨_, rfl⟩
  have hb0 : Below w.heap.size w W0 := by rw [eW]; exact (Below.refl _ _).alloc (Nat.le_refl _) _
  have HA0 : Hid (RowX ab #[.int .i64 c, .int .i64 r, .int .i64 rp, .int .i64 sq] 42 W0) := by rw [eW, eab]; exact ⟨heap_alloc_new _ _⟩
  clear h
  go_enter Tryz.func4, Tryz.ntmps4
  go_wp2_with fail
  rw [← eW, ← eab]
  clear eW eab
  refine (filled_any 50 _ l _ (HH.out.below hb0) (by omega) (by omega)).mono ?_
  rintro e w1 ⟨lb, yv, F, G, rfl, hL, hG, hb1, hF1, hG1, hFG⟩
  have hlen : (fillL 50 l).length ≤ 50 := by have := fillL_room (room := 50) (by omega) l; omega
  have HGd : Hid (Good (fillL 50 l)) := fillL_good _ _
  generalize fillL 50 l = L at *
  obtain ⟨ay, cy, ey⟩ := hG.isH.form
  subst ey
  obtain ⟨W2, eW2⟩ : ∃ X, X = w1.alloc (.cells #[.int .i64 50, .slice ay L.length cy] 29) := ⟨_, rfl⟩
  obtain ⟨yb, eyb⟩ : ∃ b, b = w1.heap.size := ⟨_, rfl⟩
  have hb2 : Below w1.heap.size w1 W2 := by rw [eW2]; exact (Below.refl _ _).alloc (Nat.le_refl _) _
  have hb02 : Below W0.heap.size W0 W2 := hb1.trans (hb2.mono hb1.size)
  have HY2 : Hid (RowX yb #[.int .i64 50, .slice ay L.length cy] 29 W2) := ⟨by rw [eyb, eW2]; exact heap_alloc_new _ _⟩
  have HA2 : Hid (RowX ab #[.int .i64 c, .int .i64 r, .int .i64 rp, .int .i64 sq] 42 W2) := HA0.out.below hb02
  have HL2 : Hid (LogOk F W2 lb 50 L) := hL.below hb2
  have HG2 : Hid (HFirm G W2 (.slice ay L.length cy) L) := hG.below hb2
  have HB2 : Hid (Below w.heap.size w W2) := hb0.trans (hb02.mono hb0.size)
  obtain ⟨a_0, a_1, a_2, a_3⟩ := row4_cells HA2.out.out
  rw [eW2] at a_0 a_1 a_2 a_3
  clear hL hG hb1 hF1 hG1 hFG hb2 hb02 hb0 HA0
  go_wp2_with fail
  rw [← eW2]
  clear a_0 a_1 a_2 a_3
  refine (findLog_any F lb 50 L c r _ HL2.out HGd.out.srt).mono ?_
  rintro e w3 ⟨v3, rfl, ho3, hb3⟩
  (try rw [← eyb])
  clear eW2 eyb
  rcases findI_or L c r with ⟨hfi, hgl⟩ | ⟨k, hk, hfi, hgl⟩
  · rw [hgl] at ho3 ⊢
    simp only [Option.getD_none, Option.isSome_none, zeroC] at ho3 ⊢
    simp only [chV, chCells]
    obtain ⟨av, cv, e3⟩ := ho3.form
    (try simp only [List.length_nil] at e3)
    subst e3
    (try simp only [List.length_nil] at ho3)
    obtain ⟨W4, eW4⟩ : ∃ X, X = w3.alloc (.cells #[.int .i64 0, .int .i64 0, .int .i64 0, .slice av 0 cv, .int .i64 0, .int .i64 0, .int .i64 0, .int .i64 0, .int .i64 0, .int .i64 0, .int .i64 0, .string ⟨#[]⟩, .string ⟨#[]⟩] 34) := ⟨_, rfl⟩
    obtain ⟨cb, ecb⟩ : ∃ b, b = w3.heap.size := ⟨_, rfl⟩
    have hb4 : Below w3.heap.size w3 W4 := by rw [eW4]; exact (Below.refl _ _).alloc (Nat.le_refl _) _
    have hb24 : Below W2.heap.size W2 W4 := hb3.trans (hb4.mono hb3.size)
    have HC4 : Hid (RowX cb #[.int .i64 0, .int .i64 0, .int .i64 0, .slice av 0 cv, .int .i64 0, .int .i64 0, .int .i64 0, .int .i64 0, .int .i64 0, .int .i64 0, .int .i64 0, .string ⟨#[]⟩, .string ⟨#[]⟩] 34 W4) := ⟨by rw [ecb, eW4]; exact heap_alloc_new _ _⟩
    have HY4 : Hid (RowX yb #[.int .i64 50, .slice ay L.length cy] 29 W4) := HY2.out.below hb24
    have HA4 : Hid (RowX ab #[.int .i64 c, .int .i64 r, .int .i64 rp, .int .i64 sq] 42 W4) := HA2.out.below hb24
    have HG4 : Hid (HFirm G W4 (.slice ay L.length cy) L) := HG2.out.below hb24
    have HL4 : Hid (LogOk F W4 lb 50 L) := HL2.out.below hb24
    have HB4 : Hid (Below w.heap.size w W4) := HB2.out.trans (hb24.mono HB2.out.size)
    have HI4 : Hid (IsI W4 (.slice av 0 cv) []) := (ho3.isI (by simp)).below hb4
    obtain ⟨a_0, a_1, a_2, a_3⟩ := row4_cells HA4.out.out
    obtain ⟨y_0, y_1, _, _⟩ := row2_cells HY4.out.out
    rw [eW4] at a_0 a_1 a_2 a_3 y_0 y_1
    clear ho3 hb3 hb4 hb24 HY2 HA2 HG2 HL2 HB2
    go_wp2_with fail
    rw [← eW4]
    clear a_0 a_1 a_2 a_3 y_0 y_1
    refine (find_any _ L c r _ HG4.out.isH).mono ?_
    rintro e w5 ⟨rfl, hb5⟩
    (try rw [← ecb])
    clear eW4 ecb
    have HCr : Hid (RowX cb #[.int .i64 0, .int .i64 0, .int .i64 0, .slice av 0 cv, .int .i64 0, .int .i64 0, .int .i64 0, .int .i64 0, .int .i64 0, .int .i64 0, .int .i64 0, .string ⟨#[]⟩, .string ⟨#[]⟩] 34 w5) := HC4.out.below hb5
    have HYr : Hid (RowX yb #[.int .i64 50, .slice ay L.length cy] 29 w5) := HY4.out.below hb5
    have HAr : Hid (RowX ab #[.int .i64 c, .int .i64 r, .int .i64 rp, .int .i64 sq] 42 w5) := HA4.out.below hb5
    have HFm : Hid (HFirm G w5 (.slice ay L.length cy) L) := HG4.out.below hb5
    have HLg : Hid (LogOk F w5 lb 50 L) := HL4.out.below hb5
    have HB5 : Hid (Below w.heap.size w w5) := HB4.out.trans (hb5.mono HB4.out.size)
    have HIv : Hid (IsI w5 (.slice av 0 cv) []) := HI4.out.below hb5
    have hOne : ∀ i (hi : i < L.length), ∃ b o a2 e2, ay = some ⟨b, o, none⟩ ∧ IsG G w5 (.slice a2 L[i].deps.length e2) L[i].deps ∧ Sized L[i] ∧ ∀ W', KeepsS G w5 W' → ∀ j u, (chCells L[i] (.slice a2 L[i].deps.length e2))[j]? = some u → W'.cell? ⟨b, o + i * 13 + j, none⟩ = some u := by
      obtain ⟨a9, c9, e9, _, h9⟩ := HFm.out.one
      injection e9 with e9 _ _
      subst e9
      exact h9
    clear hb5 HC4 HY4 HA4 HG4 HL4 HB4 HI4
    rw [hfi]
    skip
    go_upto_region 4 with fail
    refine wp_region_held_drew (S := fun W' => BelowH w5 W') (by kernel_rfl) ((Below.refl _ _).drew) (fun hHeld => ?_)
    obtain ⟨Ug3u0, eW⟩ : ∃ X, X = w5.drew := ⟨_, rfl⟩
    have hb : Below w5.heap.size w5 Ug3u0 := by rw [eW]; exact (Below.refl _ _).drew
    rw [← eW] at hHeld ⊢
    clear eW hb
    refine wpAnyH_take (i := 0) (oi := ⟨some 30, _, _, _, _, _⟩) (v := ?vg3ux0) rfl (by kernel_rfl) (by kernel_rfl) (by kernel_rfl) (fun _ _ _ h => h) (Or.inl ⟨by rfl, ?hyg3ux0⟩) hHeld ?restg3ux0
    case hyg3ux0 => (intro w _; go_simp; try with_reducible rfl)
    simp only [Act.put, List.setIfInBounds_toArray, List.set_cons_zero, List.set_cons_succ]
    refine wpAnyH_take (i := 1) (oi := ⟨some 31, _, _, _, _, _⟩) (v := ?vg3ux1) rfl (by kernel_rfl) (by kernel_rfl) (by kernel_rfl) (fun _ _ _ h => h) (Or.inl ⟨by rfl, ?hyg3ux1⟩) hHeld ?restg3ux1
    case hyg3ux1 => (intro w _; go_simp; try with_reducible rfl)
    simp only [Act.put, List.setIfInBounds_toArray, List.set_cons_zero, List.set_cons_succ]
    refine wpAnyH_take (i := 2) (oi := ⟨some 32, _, _, _, _, _⟩) (v := ?vg3ux2) rfl (by kernel_rfl) (by kernel_rfl) (by kernel_rfl) (fun _ _ _ h => h) (Or.inl ⟨by rfl, ?hyg3ux2⟩) hHeld ?restg3ux2
    case hyg3ux2 => (intro w hSw; (try dsimp only at hSw); have hk := hSw; have cr := (HCr.out.below hSw).out; obtain ⟨c_0, c_1, c_2, c_3, c_4, c_5, c_6, c_7, c_8, c_9, c_10, c_11, c_12⟩ := row_cells cr; have yr := (HYr.out.below hSw).out; obtain ⟨y_0, y_1, _, _⟩ := row2_cells yr; go_simp; try with_reducible rfl)
    simp only [Act.put, List.setIfInBounds_toArray, List.set_cons_zero, List.set_cons_succ]
    refine wpAnyH_take (i := 3) (oi := ⟨some 33, _, _, _, _, _⟩) (v := ?vg3ux3) rfl (by kernel_rfl) (by kernel_rfl) (by kernel_rfl) (fun _ _ _ h => h) (Or.inl ⟨by rfl, ?hyg3ux3⟩) hHeld ?restg3ux3
    case hyg3ux3 => (intro w hSw; (try dsimp only at hSw); have hk := hSw; have cr := (HCr.out.below hSw).out; obtain ⟨c_0, c_1, c_2, c_3, c_4, c_5, c_6, c_7, c_8, c_9, c_10, c_11, c_12⟩ := row_cells cr; have yr := (HYr.out.below hSw).out; obtain ⟨y_0, y_1, _, _⟩ := row2_cells yr; go_simp; try with_reducible rfl)
    simp only [Act.put, List.setIfInBounds_toArray, List.set_cons_zero, List.set_cons_succ]
    refine wpAnyH_take (i := 4) (oi := ⟨some 34, _, _, _, _, _⟩) (v := ?vg3ux4) rfl (by kernel_rfl) (by kernel_rfl) (by kernel_rfl) (fun _ _ _ h => h) (Or.inl ⟨by rfl, ?hyg3ux4⟩) hHeld ?restg3ux4
    case hyg3ux4 => (intro w _; go_simp; try with_reducible rfl)
    simp only [Act.put, List.setIfInBounds_toArray, List.set_cons_zero, List.set_cons_succ]
    refine wpAnyH_take (i := 5) (oi := ⟨some 35, _, _, _, _, _⟩) (v := ?vg3ux5) rfl (by kernel_rfl) (by kernel_rfl) (by kernel_rfl) (fun _ _ _ h => h) (Or.inl ⟨by rfl, ?hyg3ux5⟩) hHeld ?restg3ux5
    case hyg3ux5 => (intro w _; go_simp; try with_reducible rfl)
    simp only [Act.put, List.setIfInBounds_toArray, List.set_cons_zero, List.set_cons_succ]
    refine wpAnyH_take (i := 6) (oi := ⟨some 36, _, _, _, _, _⟩) (v := ?vg3ux6) rfl (by kernel_rfl) (by kernel_rfl) (by kernel_rfl) (fun _ _ _ h => h) (Or.inl ⟨by rfl, ?hyg3ux6⟩) hHeld ?restg3ux6
    case hyg3ux6 => (intro w _; go_simp; try with_reducible rfl)
    simp only [Act.put, List.setIfInBounds_toArray, List.set_cons_zero, List.set_cons_succ]
    refine wpAnyH_take (i := 7) (oi := ⟨some 37, _, _, _, _, _⟩) (v := undef) rfl (by kernel_rfl) (by kernel_rfl) (by kernel_rfl) (fun _ _ _ h => h) (Or.inr ⟨by rfl, rfl⟩) hHeld ?_
    simp only [Act.put, List.setIfInBounds_toArray, List.set_cons_zero, List.set_cons_succ]
    refine wpAnyH_take (i := 8) (oi := ⟨some 38, _, _, _, _, _⟩) (v := undef) rfl (by kernel_rfl) (by kernel_rfl) (by kernel_rfl) (fun _ _ _ h => h) (Or.inr ⟨by rfl, rfl⟩) hHeld ?_
    simp only [Act.put, List.setIfInBounds_toArray, List.set_cons_zero, List.set_cons_succ]
    refine wpAnyH_take (i := 9) (oi := ⟨some 39, _, _, _, _, _⟩) (v := undef) rfl (by kernel_rfl) (by kernel_rfl) (by kernel_rfl) (fun _ _ _ h => h) (Or.inr ⟨by rfl, rfl⟩) hHeld ?_
    simp only [Act.put, List.setIfInBounds_toArray, List.set_cons_zero, List.set_cons_succ]
    refine wpAnyH_take (i := 10) (oi := ⟨some 40, _, _, _, _, _⟩) (v := undef) rfl (by kernel_rfl) (by kernel_rfl) (by kernel_rfl) (fun _ _ _ h => h) (Or.inr ⟨by rfl, rfl⟩) hHeld ?_
    simp only [Act.put, List.setIfInBounds_toArray, List.set_cons_zero, List.set_cons_succ]
    refine wpAnyH_take (i := 11) (oi := ⟨some 41, _, _, _, _, _⟩) (v := undef) rfl (by kernel_rfl) (by kernel_rfl) (by kernel_rfl) (fun _ _ _ h => h) (Or.inr ⟨by rfl, rfl⟩) hHeld ?_
    simp only [Act.put, List.setIfInBounds_toArray, List.set_cons_zero, List.set_cons_succ]
    refine wpAnyH_take (i := 12) (oi := ⟨some 42, _, _, _, _, _⟩) (v := undef) rfl (by kernel_rfl) (by kernel_rfl) (by kernel_rfl) (fun _ _ _ h => h) (Or.inr ⟨by rfl, rfl⟩) hHeld ?_
    simp only [Act.put, List.setIfInBounds_toArray, List.set_cons_zero, List.set_cons_succ]
    refine wpAnyH_take (i := 13) (oi := ⟨some 43, _, _, _, _, _⟩) (v := undef) rfl (by kernel_rfl) (by kernel_rfl) (by kernel_rfl) (fun _ _ _ h => h) (Or.inr ⟨by rfl, rfl⟩) hHeld ?_
    simp only [Act.put, List.setIfInBounds_toArray, List.set_cons_zero, List.set_cons_succ]
    refine wpAnyH_take (i := 14) (oi := ⟨some 44, _, _, _, _, _⟩) (v := undef) rfl (by kernel_rfl) (by kernel_rfl) (by kernel_rfl) (fun _ _ _ h => h) (Or.inr ⟨by rfl, rfl⟩) hHeld ?_
    simp only [Act.put, List.setIfInBounds_toArray, List.set_cons_zero, List.set_cons_succ]
    refine wpAnyH_take (i := 15) (oi := ⟨some 45, _, _, _, _, _⟩) (v := ?vg3ux15) rfl (by kernel_rfl) (by kernel_rfl) (by kernel_rfl) (fun _ _ _ h => h) (Or.inl ⟨by rfl, ?hyg3ux15⟩) hHeld ?restg3ux15
    case hyg3ux15 => (intro w _; go_simp; try with_reducible rfl)
    simp only [Act.put, List.setIfInBounds_toArray, List.set_cons_zero, List.set_cons_succ]
    refine wpAnyH_take (i := 16) (oi := ⟨some 46, _, _, _, _, _⟩) (v := ?vg3ux16) rfl (by kernel_rfl) (by kernel_rfl) (by kernel_rfl) (fun _ _ _ h => h) (Or.inl ⟨by rfl, ?hyg3ux16⟩) hHeld ?restg3ux16
    case hyg3ux16 => (intro w _; go_simp; try with_reducible rfl)
    simp only [Act.put, List.setIfInBounds_toArray, List.set_cons_zero, List.set_cons_succ]
    refine wpAnyH_take (i := 17) (oi := ⟨some 47, _, _, _, _, _⟩) (v := ?vg3ux17) rfl (by kernel_rfl) (by kernel_rfl) (by kernel_rfl) (fun _ _ _ h => h) (Or.inl ⟨by rfl, ?hyg3ux17⟩) hHeld ?restg3ux17
    case hyg3ux17 => (intro w _; go_simp; try with_reducible rfl)
    simp only [Act.put, List.setIfInBounds_toArray, List.set_cons_zero, List.set_cons_succ]
    refine wpAnyH_take (i := 18) (oi := ⟨some 48, _, _, _, _, _⟩) (v := ?vg3ux18) rfl (by kernel_rfl) (by kernel_rfl) (by kernel_rfl) (fun _ _ _ h => h) (Or.inl ⟨by rfl, ?hyg3ux18⟩) hHeld ?restg3ux18
    case hyg3ux18 => (intro w _; go_simp; try with_reducible rfl)
    simp only [Act.put, List.setIfInBounds_toArray, List.set_cons_zero, List.set_cons_succ]
    refine wpAnyH_take (i := 19) (oi := ⟨some 49, _, _, _, _, _⟩) (v := ?vg3ux19) rfl (by kernel_rfl) (by kernel_rfl) (by kernel_rfl) (fun _ _ _ h => h) (Or.inl ⟨by rfl, ?hyg3ux19⟩) hHeld ?restg3ux19
    case hyg3ux19 => (intro w _; go_simp; try with_reducible rfl)
    simp only [Act.put, List.setIfInBounds_toArray, List.set_cons_zero, List.set_cons_succ]
    refine wpAnyH_take (i := 20) (oi := ⟨some 50, _, _, _, _, _⟩) (v := ?vg3ux20) rfl (by kernel_rfl) (by kernel_rfl) (by kernel_rfl) (fun _ _ _ h => h) (Or.inl ⟨by rfl, ?hyg3ux20⟩) hHeld ?restg3ux20
    case hyg3ux20 => (intro w _; go_simp; try with_reducible rfl)
    simp only [Act.put, List.setIfInBounds_toArray, List.set_cons_zero, List.set_cons_succ]
    refine wpAnyH_take (i := 21) (oi := ⟨some 51, _, _, _, _, _⟩) (v := ?vg3ux21) rfl (by kernel_rfl) (by kernel_rfl) (by kernel_rfl) (fun _ _ _ h => h) (Or.inl ⟨by rfl, ?hyg3ux21⟩) hHeld ?restg3ux21
    case hyg3ux21 => (intro w hSw; (try dsimp only at hSw); have hk := hSw; have cr := (HCr.out.below hSw).out; obtain ⟨c_0, c_1, c_2, c_3, c_4, c_5, c_6, c_7, c_8, c_9, c_10, c_11, c_12⟩ := row_cells cr; have yr := (HYr.out.below hSw).out; obtain ⟨y_0, y_1, _, _⟩ := row2_cells yr; go_simp; try with_reducible rfl)
    simp only [Act.put, List.setIfInBounds_toArray, List.set_cons_zero, List.set_cons_succ]
    refine wpAnyH_take (i := 22) (oi := ⟨some 52, _, _, _, _, _⟩) (v := ?vg3ux22) rfl (by kernel_rfl) (by kernel_rfl) (by kernel_rfl) (fun _ _ _ h => h) (Or.inl ⟨by rfl, ?hyg3ux22⟩) hHeld ?restg3ux22
    case hyg3ux22 => (intro w hSw; (try dsimp only at hSw); have hk := hSw; have cr := (HCr.out.below hSw).out; obtain ⟨c_0, c_1, c_2, c_3, c_4, c_5, c_6, c_7, c_8, c_9, c_10, c_11, c_12⟩ := row_cells cr; have yr := (HYr.out.below hSw).out; obtain ⟨y_0, y_1, _, _⟩ := row2_cells yr; go_simp; try with_reducible rfl)
    simp only [Act.put, List.setIfInBounds_toArray, List.set_cons_zero, List.set_cons_succ]
    refine wpAnyH_ready (rs := [23]) (by kernel_rfl) (by simp) ?_
    refine AllReadyH.cons (o := ⟨some 53, _, _, _, _, _⟩) rfl (fun K hK => ?_) AllReadyH.nil
    go_simp
    refine (refSameCh_eq 0 0 0 _ _ 0 0 0 0 0 0 0 ⟨#[]⟩ ⟨#[]⟩ [] _ (IsI.below HIv.out hHeld) (IsI.non 0)).mono ?_
    rintro e Ug3u1 ⟨rfl, hb⟩
    (try go_wp2_with fail)
    refine hK.out _ _ (BelowH.below hHeld hb) (fun hHeld2 => ?_)
    clear hK K hHeld
    have hHeld := hHeld2
    clear hHeld2
    (try simp only [Act.put, List.setIfInBounds_toArray, List.set_cons_zero, List.set_cons_succ])
    clear hb
    refine wpAnyH_take (i := 24) (oi := ⟨some 54, _, _, _, _, _⟩) (v := ?vg3u_23x24) rfl (by kernel_rfl) (by kernel_rfl) (by kernel_rfl) (fun _ _ _ h => h) (Or.inl ⟨by rfl, ?hyg3u_23x24⟩) hHeld ?restg3u_23x24
    case hyg3u_23x24 => (intro w _; go_simp; try with_reducible rfl)
    simp only [Act.put, List.setIfInBounds_toArray, List.set_cons_zero, List.set_cons_succ]
    refine wpAnyH_take (i := 25) (oi := ⟨some 55, _, _, _, _, _⟩) (v := ?vg3u_23x25) rfl (by kernel_rfl) (by kernel_rfl) (by kernel_rfl) (fun _ _ _ h => h) (Or.inl ⟨by rfl, ?hyg3u_23x25⟩) hHeld ?restg3u_23x25
    case hyg3u_23x25 => (intro w _; go_simp; try with_reducible rfl)
    simp only [Act.put, List.setIfInBounds_toArray, List.set_cons_zero, List.set_cons_succ]
    refine wpAnyH_take (i := 26) (oi := ⟨some 56, _, _, _, _, _⟩) (v := ?vg3u_23x26) rfl (by kernel_rfl) (by kernel_rfl) (by kernel_rfl) (fun _ _ _ h => h) (Or.inl ⟨by rfl, ?hyg3u_23x26⟩) hHeld ?restg3u_23x26
    case hyg3u_23x26 => (intro w _; go_simp; try with_reducible rfl)
    simp only [Act.put, List.setIfInBounds_toArray, List.set_cons_zero, List.set_cons_succ]
    refine wpAnyH_done (by kernel_rfl) ?_ _
    have HB6 : Hid (BelowH w5 Ug3u1) := hHeld
    clear hHeld
    obtain ⟨a_0, a_1, a_2, a_3⟩ := row4_cells (HAr.out.below HB6.out).out
    by_cases hr : 0 ≤ rp ∧ rp < 64
    · rcases ownP_or L rp sq with ⟨ho1, ho2⟩ | ⟨k2, hk2, ho1, ho2⟩
      · have hres : ownR L rp sq = (zeroC, 4) := by unfold ownR; rw [if_pos hr, ho2]
        have q1 : ¬ rp < 0 := by omega
        have q2 : ¬ 64 ≤ rp := by omega
        go_wp2_with fail
        refine (ownLog_any _ 50 L F rp sq _ (HLg.out.below HB6.out).v HGd.out (by omega)).mono ?_
        rintro e w7 ⟨v7, rfl, ho7, hb7⟩
        rw [hres] at ho7 ⊢
        (try simp only [zeroC] at ho7 ⊢)
        simp only [chV, chCells]
        obtain ⟨a7, c7, e7⟩ := ho7.form
        (try simp only [List.length_nil] at e7)
        subst e7
        (try simp only [List.length_nil] at ho7)
        obtain ⟨W8, eW8⟩ : ∃ X, X = w7.alloc (.cells #[.int .i64 0, .int .i64 0, .int .i64 0, .slice a7 0 c7, .int .i64 0, .int .i64 0, .int .i64 0, .int .i64 0, .int .i64 0, .int .i64 0, .int .i64 0, .string ⟨#[]⟩, .string ⟨#[]⟩] 34) := ⟨_, rfl⟩
        have hb8 : Below w7.heap.size w7 W8 := by rw [eW8]; exact (Below.refl _ _).alloc (Nat.le_refl _) _
        obtain ⟨db, edb⟩ : ∃ b, b = w7.heap.size := ⟨_, rfl⟩
        have hb78 : Below Ug3u1.heap.size Ug3u1 W8 := hb7.trans (hb8.mono hb7.size)
        have HDr : Hid (RowX db #[.int .i64 0, .int .i64 0, .int .i64 0, .slice a7 0 c7, .int .i64 0, .int .i64 0, .int .i64 0, .int .i64 0, .int .i64 0, .int .i64 0, .int .i64 0, .string ⟨#[]⟩, .string ⟨#[]⟩] 34 W8) := ⟨by rw [edb, eW8]; exact heap_alloc_new _ _⟩
        have HB8 : Hid (Below w.heap.size w W8) := HB5.out.trans (Below.trans HB6.out (hb78.mono (Below.size HB6.out)) |>.mono HB5.out.size)
        have hB58 : Below w5.heap.size w5 W8 := Below.trans HB6.out (hb78.mono (Below.size HB6.out))
        have HY8 : Hid (RowX yb #[.int .i64 50, .slice ay L.length cy] 29 W8) := HYr.out.below hB58
        have HA8 : Hid (RowX ab #[.int .i64 c, .int .i64 r, .int .i64 rp, .int .i64 sq] 42 W8) := HAr.out.below hB58
        have HF8 : Hid (HFirm G W8 (.slice ay L.length cy) L) := HFm.out.below hB58
        have HId8 : Hid (IsI W8 (.slice a7 0 c7) []) := (ho7.isI (by simp)).below hb8
        obtain ⟨y_0, y_1, _, _⟩ := row2_cells HY8.out.out
        obtain ⟨a_0, a_1, a_2, a_3⟩ := row4_cells HA8.out.out
        rw [eW8] at y_0 y_1 a_0 a_1 a_2 a_3
        clear ho7 hb7 hb8 hb78
        go_wp2_with fail
        rw [← eW8]
        clear y_0 y_1 a_0 a_1 a_2 a_3
        refine (refOwn_any _ L rp sq _ HF8.out.isH).mono ?_
        rintro e w9 ⟨rfl, hb9⟩
        (try rw [← edb])
        clear edb eW8
        have HD9 : Hid (RowX db #[.int .i64 0, .int .i64 0, .int .i64 0, .slice a7 0 c7, .int .i64 0, .int .i64 0, .int .i64 0, .int .i64 0, .int .i64 0, .int .i64 0, .int .i64 0, .string ⟨#[]⟩, .string ⟨#[]⟩] 34 w9) := HDr.out.below hb9
        have HB9 : Hid (Below w.heap.size w w9) := HB8.out.trans (hb9.mono HB8.out.size)
        have HY9 : Hid (RowX yb #[.int .i64 50, .slice ay L.length cy] 29 w9) := HY8.out.below hb9
        have HA9 : Hid (RowX ab #[.int .i64 c, .int .i64 r, .int .i64 rp, .int .i64 sq] 42 w9) := HA8.out.below hb9
        have HF9 : Hid (HFirm G w9 (.slice ay L.length cy) L) := HF8.out.below hb9
        have HId : Hid (IsI w9 (.slice a7 0 c7) []) := HId8.out.below hb9
        clear hb9 HDr HB8 HY8 HA8 HF8 HId8 hB58
        obtain ⟨a_0, a_1, a_2, a_3⟩ := row4_cells HA9.out.out
        rw [ho1]
        obtain ⟨d_0, d_1, d_2, d_3, d_4, d_5, d_6, d_7, d_8, d_9, d_10, d_11, d_12⟩ := row_cells HD9.out.out
        go_wp2_with fail
        refine (refSameCh_eq 0 0 0 _ _ 0 0 0 0 0 0 0 ⟨#[]⟩ ⟨#[]⟩ [] _ HId.out (IsI.non 0)).mono ?_
        rintro e wa ⟨rfl, hba⟩
        have HBa : Hid (Below w.heap.size w wa) := HB9.out.trans (hba.mono HB9.out.size)
        clear hba
        go_wp2_with fail
        refine (awake_any _).mono ?_
        rintro e wb ⟨rfl, hbb⟩
        have HBe : Hid (Below w.heap.size w wb) := HBa.out.trans (hbb.mono HBa.out.size)
        clear hbb
        go_wp2
        go_ret
        exact ⟨rfl, HBe.out⟩
      · obtain ⟨bM, oM, aM, eM, e1M, hIM, hSM, hcM⟩ := hOne k2 hk2
        obtain ⟨c3, hc3⟩ : ∃ c, c = L[k2] := ⟨_, rfl⟩
        rw [← hc3] at hIM hSM hcM ho2
        obtain ⟨ac3, ar3, sq3, ds3, kd3, nc3, nr3, pc3, pr3, fc3, fr3, nm3, vl3⟩ := c3
        simp only at hIM hSM hcM
        have hres : ownR L rp sq = ((⟨ac3, ar3, sq3, ds3, kd3, nc3, nr3, pc3, pr3, fc3, fr3, nm3, vl3⟩ : Ch), 0) := by unfold ownR; rw [if_pos hr, ho2]
        have q1 : ¬ rp < 0 := by omega
        have q2 : ¬ 64 ≤ rp := by omega
        have hdl3 : ds3.length ≤ 17592186044416 := by obtain ⟨_, _, _, _, hl, _⟩ := hIM; exact hl
        have HIM : Hid (IsG G w5 (.slice aM ds3.length eM) ds3) := hIM
        have HCM : Hid (∀ W', KeepsS G w5 W' → ∀ j u, (chCells (⟨ac3, ar3, sq3, ds3, kd3, nc3, nr3, pc3, pr3, fc3, fr3, nm3, vl3⟩ : Ch) (.slice aM ds3.length eM))[j]? = some u → W'.cell? ⟨bM, oM + k2 * 13 + j, none⟩ = some u) := hcM
        have HE1 : Hid (ay = some ⟨bM, oM, none⟩) := e1M
        have HK2 : Hid (k2 < L.length) := hk2
        clear hIM hSM hcM hc3 e1M
        go_wp2_with fail
        refine (ownLog_any _ 50 L F rp sq _ (HLg.out.below HB6.out).v HGd.out (by omega)).mono ?_
        rintro e w7 ⟨v7, rfl, ho7, hb7⟩
        rw [hres] at ho7 ⊢
        (try simp only [zeroC] at ho7 ⊢)
        simp only [chV, chCells]
        obtain ⟨a7, c7, e7⟩ := ho7.form
        (try simp only [List.length_nil] at e7)
        subst e7
        (try simp only [List.length_nil] at ho7)
        obtain ⟨W8, eW8⟩ : ∃ X, X = w7.alloc (.cells #[.int .i64 ac3, .int .i64 ar3, .int .i64 sq3, .slice a7 ds3.length c7, .int .i64 kd3, .int .i64 nc3, .int .i64 nr3, .int .i64 pc3, .int .i64 pr3, .int .i64 fc3, .int .i64 fr3, .string nm3, .string vl3] 34) := ⟨_, rfl⟩
        have hb8 : Below w7.heap.size w7 W8 := by rw [eW8]; exact (Below.refl _ _).alloc (Nat.le_refl _) _
        obtain ⟨db, edb⟩ : ∃ b, b = w7.heap.size := ⟨_, rfl⟩
        have hb78 : Below Ug3u1.heap.size Ug3u1 W8 := hb7.trans (hb8.mono hb7.size)
        have HDr : Hid (RowX db #[.int .i64 ac3, .int .i64 ar3, .int .i64 sq3, .slice a7 ds3.length c7, .int .i64 kd3, .int .i64 nc3, .int .i64 nr3, .int .i64 pc3, .int .i64 pr3, .int .i64 fc3, .int .i64 fr3, .string nm3, .string vl3] 34 W8) := ⟨by rw [edb, eW8]; exact heap_alloc_new _ _⟩
        have HB8 : Hid (Below w.heap.size w W8) := HB5.out.trans (Below.trans HB6.out (hb78.mono (Below.size HB6.out)) |>.mono HB5.out.size)
        have hB58 : Below w5.heap.size w5 W8 := Below.trans HB6.out (hb78.mono (Below.size HB6.out))
        have HY8 : Hid (RowX yb #[.int .i64 50, .slice ay L.length cy] 29 W8) := HYr.out.below hB58
        have HA8 : Hid (RowX ab #[.int .i64 c, .int .i64 r, .int .i64 rp, .int .i64 sq] 42 W8) := HAr.out.below hB58
        have HF8 : Hid (HFirm G W8 (.slice ay L.length cy) L) := HFm.out.below hB58
        have HId8 : Hid (IsI W8 (.slice a7 ds3.length c7) ds3) := (ho7.isI hdl3).below hb8
        obtain ⟨y_0, y_1, _, _⟩ := row2_cells HY8.out.out
        obtain ⟨a_0, a_1, a_2, a_3⟩ := row4_cells HA8.out.out
        rw [eW8] at y_0 y_1 a_0 a_1 a_2 a_3
        clear ho7 hb7 hb8 hb78
        go_wp2_with fail
        rw [← eW8]
        clear y_0 y_1 a_0 a_1 a_2 a_3
        refine (refOwn_any _ L rp sq _ HF8.out.isH).mono ?_
        rintro e w9 ⟨rfl, hb9⟩
        (try rw [← edb])
        clear edb eW8
        have HD9 : Hid (RowX db #[.int .i64 ac3, .int .i64 ar3, .int .i64 sq3, .slice a7 ds3.length c7, .int .i64 kd3, .int .i64 nc3, .int .i64 nr3, .int .i64 pc3, .int .i64 pr3, .int .i64 fc3, .int .i64 fr3, .string nm3, .string vl3] 34 w9) := HDr.out.below hb9
        have HB9 : Hid (Below w.heap.size w w9) := HB8.out.trans (hb9.mono HB8.out.size)
        have HY9 : Hid (RowX yb #[.int .i64 50, .slice ay L.length cy] 29 w9) := HY8.out.below hb9
        have HA9 : Hid (RowX ab #[.int .i64 c, .int .i64 r, .int .i64 rp, .int .i64 sq] 42 w9) := HA8.out.below hb9
        have HF9 : Hid (HFirm G w9 (.slice ay L.length cy) L) := HF8.out.below hb9
        have HId : Hid (IsI w9 (.slice a7 ds3.length c7) ds3) := HId8.out.below hb9
        have HW59 : Hid (KeepsS G w5 w9) := KeepsS.of_below (hB58.trans (hb9.mono hB58.size)) HFm.out.1
        clear hb9 HDr HB8 HY8 HA8 HF8 HId8 hB58
        obtain ⟨a_0, a_1, a_2, a_3⟩ := row4_cells HA9.out.out
        rw [ho1]
        have k1 : ¬ ((k2 : Int) < 0) := by omega
        have k2l : (k2 : Int) < (L.length : Int) := by have := HK2.out; omega
        have k20 : (0 : Int) ≤ (k2 : Int) := by omega
        have HK9 : Hid (KeepsS G w5 w9) := HW59.out
        have HI9 : Hid (IsI w9 (.slice aM ds3.length eM) ds3) := (HIM.out.keep HK9.out).isI
        have e1M := HE1.out
        subst e1M
        have HL9 : Hid (∀ j u, (chCells (⟨ac3, ar3, sq3, ds3, kd3, nc3, nr3, pc3, pr3, fc3, fr3, nm3, vl3⟩ : Ch) (.slice aM ds3.length eM))[j]? = some u → w9.cell? ⟨bM, oM + k2 * 13 + j, none⟩ = some u) := HCM.out _ HK9.out
        have HbM : Hid (bM < w9.heap.size) := cell_lt (HL9.out 0 _ rfl)
        go_upto_region 12 with fail
        clear a_0 a_1 a_2 a_3
        refine wp_region_held_drew (S := fun W' => BelowH w9 W') (by kernel_rfl) ((Below.refl _ _).drew) (fun hHeld => ?_)
        obtain ⟨Ut4u0, eW⟩ : ∃ X, X = w9.drew := ⟨_, rfl⟩
        have hb : Below w9.heap.size w9 Ut4u0 := by rw [eW]; exact (Below.refl _ _).drew
        rw [← eW] at hHeld ⊢
        clear eW hb
        refine wpAnyH_take (i := 0) (oi := ⟨some 103, _, _, _, _, _⟩) (v := ?vt4ux0) rfl (by kernel_rfl) (by kernel_rfl) (by kernel_rfl) (fun _ _ _ h => h) (Or.inl ⟨by rfl, ?hyt4ux0⟩) hHeld ?restt4ux0
        case hyt4ux0 => (intro w _; go_simp; try with_reducible rfl)
        simp only [Act.put, List.setIfInBounds_toArray, List.set_cons_zero, List.set_cons_succ]
        refine wpAnyH_take (i := 1) (oi := ⟨some 104, _, _, _, _, _⟩) (v := ?vt4ux1) rfl (by kernel_rfl) (by kernel_rfl) (by kernel_rfl) (fun _ _ _ h => h) (Or.inl ⟨by rfl, ?hyt4ux1⟩) hHeld ?restt4ux1
        case hyt4ux1 => (intro w hSw; (try dsimp only at hSw); have hk := hSw; have dr := (HD9.out.below hSw).out; obtain ⟨d_0, d_1, d_2, d_3, d_4, d_5, d_6, d_7, d_8, d_9, d_10, d_11, d_12⟩ := row_cells dr; have yr := (HY9.out.below hSw).out; obtain ⟨y_0, y_1, _, _⟩ := row2_cells yr; obtain ⟨l_0, l_1, l_2, l_3, l_4, l_5, l_6, l_7, l_8, l_9, l_10, l_11, l_12⟩ := chAll (fun j u hj => (Below.cell hSw (p := ⟨bM, oM + k2 * 13 + j, none⟩) HbM.out).trans (HL9.out j u hj)); go_simp; try with_reducible rfl)
        simp only [Act.put, List.setIfInBounds_toArray, List.set_cons_zero, List.set_cons_succ]
        refine wpAnyH_take (i := 2) (oi := ⟨some 105, _, _, _, _, _⟩) (v := ?vt4ux2) rfl (by kernel_rfl) (by kernel_rfl) (by kernel_rfl) (fun _ _ _ h => h) (Or.inl ⟨by rfl, ?hyt4ux2⟩) hHeld ?restt4ux2
        case hyt4ux2 => (intro w _; go_simp; try with_reducible rfl)
        simp only [Act.put, List.setIfInBounds_toArray, List.set_cons_zero, List.set_cons_succ]
        refine wpAnyH_take (i := 3) (oi := ⟨some 106, _, _, _, _, _⟩) (v := ?vt4ux3) rfl (by kernel_rfl) (by kernel_rfl) (by kernel_rfl) (fun _ _ _ h => h) (Or.inl ⟨by rfl, ?hyt4ux3⟩) hHeld ?restt4ux3
        case hyt4ux3 => (intro w hSw; (try dsimp only at hSw); have hk := hSw; have dr := (HD9.out.below hSw).out; obtain ⟨d_0, d_1, d_2, d_3, d_4, d_5, d_6, d_7, d_8, d_9, d_10, d_11, d_12⟩ := row_cells dr; have yr := (HY9.out.below hSw).out; obtain ⟨y_0, y_1, _, _⟩ := row2_cells yr; obtain ⟨l_0, l_1, l_2, l_3, l_4, l_5, l_6, l_7, l_8, l_9, l_10, l_11, l_12⟩ := chAll (fun j u hj => (Below.cell hSw (p := ⟨bM, oM + k2 * 13 + j, none⟩) HbM.out).trans (HL9.out j u hj)); go_simp; try with_reducible rfl)
        simp only [Act.put, List.setIfInBounds_toArray, List.set_cons_zero, List.set_cons_succ]
        refine wpAnyH_take (i := 4) (oi := ⟨some 107, _, _, _, _, _⟩) (v := ?vt4ux4) rfl (by kernel_rfl) (by kernel_rfl) (by kernel_rfl) (fun _ _ _ h => h) (Or.inl ⟨by rfl, ?hyt4ux4⟩) hHeld ?restt4ux4
        case hyt4ux4 => (intro w _; go_simp; try with_reducible rfl)
        simp only [Act.put, List.setIfInBounds_toArray, List.set_cons_zero, List.set_cons_succ]
        refine wpAnyH_take (i := 5) (oi := ⟨some 108, _, _, _, _, _⟩) (v := ?vt4ux5) rfl (by kernel_rfl) (by kernel_rfl) (by kernel_rfl) (fun _ _ _ h => h) (Or.inl ⟨by rfl, ?hyt4ux5⟩) hHeld ?restt4ux5
        case hyt4ux5 => (intro w hSw; (try dsimp only at hSw); have hk := hSw; have dr := (HD9.out.below hSw).out; obtain ⟨d_0, d_1, d_2, d_3, d_4, d_5, d_6, d_7, d_8, d_9, d_10, d_11, d_12⟩ := row_cells dr; have yr := (HY9.out.below hSw).out; obtain ⟨y_0, y_1, _, _⟩ := row2_cells yr; obtain ⟨l_0, l_1, l_2, l_3, l_4, l_5, l_6, l_7, l_8, l_9, l_10, l_11, l_12⟩ := chAll (fun j u hj => (Below.cell hSw (p := ⟨bM, oM + k2 * 13 + j, none⟩) HbM.out).trans (HL9.out j u hj)); go_simp; try with_reducible rfl)
        simp only [Act.put, List.setIfInBounds_toArray, List.set_cons_zero, List.set_cons_succ]
        refine wpAnyH_take (i := 6) (oi := ⟨some 109, _, _, _, _, _⟩) (v := ?vt4ux6) rfl (by kernel_rfl) (by kernel_rfl) (by kernel_rfl) (fun _ _ _ h => h) (Or.inl ⟨by rfl, ?hyt4ux6⟩) hHeld ?restt4ux6
        case hyt4ux6 => (intro w _; go_simp; try with_reducible rfl)
        simp only [Act.put, List.setIfInBounds_toArray, List.set_cons_zero, List.set_cons_succ]
        refine wpAnyH_take (i := 7) (oi := ⟨some 110, _, _, _, _, _⟩) (v := ?vt4ux7) rfl (by kernel_rfl) (by kernel_rfl) (by kernel_rfl) (fun _ _ _ h => h) (Or.inl ⟨by rfl, ?hyt4ux7⟩) hHeld ?restt4ux7
        case hyt4ux7 => (intro w hSw; (try dsimp only at hSw); have hk := hSw; have dr := (HD9.out.below hSw).out; obtain ⟨d_0, d_1, d_2, d_3, d_4, d_5, d_6, d_7, d_8, d_9, d_10, d_11, d_12⟩ := row_cells dr; have yr := (HY9.out.below hSw).out; obtain ⟨y_0, y_1, _, _⟩ := row2_cells yr; obtain ⟨l_0, l_1, l_2, l_3, l_4, l_5, l_6, l_7, l_8, l_9, l_10, l_11, l_12⟩ := chAll (fun j u hj => (Below.cell hSw (p := ⟨bM, oM + k2 * 13 + j, none⟩) HbM.out).trans (HL9.out j u hj)); go_simp; try with_reducible rfl)
        simp only [Act.put, List.setIfInBounds_toArray, List.set_cons_zero, List.set_cons_succ]
        refine wpAnyH_take (i := 8) (oi := ⟨some 111, _, _, _, _, _⟩) (v := ?vt4ux8) rfl (by kernel_rfl) (by kernel_rfl) (by kernel_rfl) (fun _ _ _ h => h) (Or.inl ⟨by rfl, ?hyt4ux8⟩) hHeld ?restt4ux8
        case hyt4ux8 => (intro w hSw; (try dsimp only at hSw); have hk := hSw; have dr := (HD9.out.below hSw).out; obtain ⟨d_0, d_1, d_2, d_3, d_4, d_5, d_6, d_7, d_8, d_9, d_10, d_11, d_12⟩ := row_cells dr; have yr := (HY9.out.below hSw).out; obtain ⟨y_0, y_1, _, _⟩ := row2_cells yr; obtain ⟨l_0, l_1, l_2, l_3, l_4, l_5, l_6, l_7, l_8, l_9, l_10, l_11, l_12⟩ := chAll (fun j u hj => (Below.cell hSw (p := ⟨bM, oM + k2 * 13 + j, none⟩) HbM.out).trans (HL9.out j u hj)); go_simp; try with_reducible rfl)
        simp only [Act.put, List.setIfInBounds_toArray, List.set_cons_zero, List.set_cons_succ]
        refine wpAnyH_ready (rs := [9]) (by kernel_rfl) (by simp) ?_
        refine AllReadyH.cons (o := ⟨some 112, _, _, _, _, _⟩) rfl (fun K hK => ?_) AllReadyH.nil
        go_simp
        refine (refSameCh_eq ac3 ar3 sq3 _ _ kd3 nc3 nr3 pc3 pr3 fc3 fr3 nm3 vl3 ds3 _ (IsI.below HId.out hHeld) (IsI.below HI9.out hHeld)).mono ?_
        rintro e Ut4u1 ⟨rfl, hb⟩
        (try go_wp2_with fail)
        refine hK.out _ _ (BelowH.below hHeld hb) (fun hHeld2 => ?_)
        clear hK K hHeld
        have hHeld := hHeld2
        clear hHeld2
        (try simp only [Act.put, List.setIfInBounds_toArray, List.set_cons_zero, List.set_cons_succ])
        clear hb
        refine wpAnyH_take (i := 10) (oi := ⟨some 113, _, _, _, _, _⟩) (v := ?vt4u_9x10) rfl (by kernel_rfl) (by kernel_rfl) (by kernel_rfl) (fun _ _ _ h => h) (Or.inl ⟨by rfl, ?hyt4u_9x10⟩) hHeld ?restt4u_9x10
        case hyt4u_9x10 => (intro w _; go_simp; try with_reducible rfl)
        simp only [Act.put, List.setIfInBounds_toArray, List.set_cons_zero, List.set_cons_succ]
        refine wpAnyH_take (i := 11) (oi := ⟨some 114, _, _, _, _, _⟩) (v := ?vt4u_9x11) rfl (by kernel_rfl) (by kernel_rfl) (by kernel_rfl) (fun _ _ _ h => h) (Or.inl ⟨by rfl, ?hyt4u_9x11⟩) hHeld ?restt4u_9x11
        case hyt4u_9x11 => (intro w _; go_simp; try with_reducible rfl)
        simp only [Act.put, List.setIfInBounds_toArray, List.set_cons_zero, List.set_cons_succ]
        refine wpAnyH_ready (rs := [12]) (by kernel_rfl) (by simp) ?_
        refine AllReadyH.cons (o := ⟨some 115, _, _, _, _, _⟩) rfl (fun K hK => ?_) AllReadyH.nil
        go_simp
        refine (awake_any _).mono ?_
        rintro e Ut4u2 ⟨rfl, hb⟩
        (try go_wp2_with fail)
        refine hK.out _ _ (BelowH.below hHeld hb) (fun hHeld2 => ?_)
        clear hK K hHeld
        have hHeld := hHeld2
        clear hHeld2
        (try simp only [Act.put, List.setIfInBounds_toArray, List.set_cons_zero, List.set_cons_succ])
        clear hb
        refine wpAnyH_take (i := 13) (oi := ⟨some 116, _, _, _, _, _⟩) (v := ?vt4u_9_12x13) rfl (by kernel_rfl) (by kernel_rfl) (by kernel_rfl) (fun _ _ _ h => h) (Or.inl ⟨by rfl, ?hyt4u_9_12x13⟩) hHeld ?restt4u_9_12x13
        case hyt4u_9_12x13 => (intro w _; go_simp; try with_reducible rfl)
        simp only [Act.put, List.setIfInBounds_toArray, List.set_cons_zero, List.set_cons_succ]
        refine wpAnyH_take (i := 14) (oi := ⟨some 4, _, _, _, _, _⟩) (v := ?vt4u_9_12x14) rfl (by kernel_rfl) (by kernel_rfl) (by kernel_rfl) (fun _ _ _ h => h) (Or.inl ⟨by rfl, ?hyt4u_9_12x14⟩) hHeld ?restt4u_9_12x14
        case hyt4u_9_12x14 => (intro w _; go_simp; try with_reducible rfl)
        simp only [Act.put, List.setIfInBounds_toArray, List.set_cons_zero, List.set_cons_succ]
        refine wpAnyH_done (by kernel_rfl) ?_ _
        have HBe : Hid (Below w.heap.size w Ut4u2) := HB9.out.trans (Below.mono hHeld HB9.out.size)
        clear hHeld
        go_wp2
        go_ret
        exact ⟨rfl, HBe.out⟩
    · have hres : ownR L rp sq = (zeroC, 1) := by unfold ownR; rw [if_neg hr]
      go_wp2_with fail
      refine (ownLog_any _ 50 L F rp sq _ (HLg.out.below HB6.out).v HGd.out (by omega)).mono ?_
      rintro e w7 ⟨v7, rfl, ho7, hb7⟩
      rw [hres] at ho7 ⊢
      (try simp only [zeroC] at ho7 ⊢)
      simp only [chV, chCells]
      obtain ⟨a7, c7, e7⟩ := ho7.form
      (try simp only [List.length_nil] at e7)
      subst e7
      (try simp only [List.length_nil] at ho7)
      obtain ⟨W8, eW8⟩ : ∃ X, X = w7.alloc (.cells #[.int .i64 0, .int .i64 0, .int .i64 0, .slice a7 0 c7, .int .i64 0, .int .i64 0, .int .i64 0, .int .i64 0, .int .i64 0, .int .i64 0, .int .i64 0, .string ⟨#[]⟩, .string ⟨#[]⟩] 34) := ⟨_, rfl⟩
      have hb8 : Below w7.heap.size w7 W8 := by rw [eW8]; exact (Below.refl _ _).alloc (Nat.le_refl _) _
      obtain ⟨db, edb⟩ : ∃ b, b = w7.heap.size := ⟨_, rfl⟩
      have hb78 : Below Ug3u1.heap.size Ug3u1 W8 := hb7.trans (hb8.mono hb7.size)
      have HDr : Hid (RowX db #[.int .i64 0, .int .i64 0, .int .i64 0, .slice a7 0 c7, .int .i64 0, .int .i64 0, .int .i64 0, .int .i64 0, .int .i64 0, .int .i64 0, .int .i64 0, .string ⟨#[]⟩, .string ⟨#[]⟩] 34 W8) := ⟨by rw [edb, eW8]; exact heap_alloc_new _ _⟩
      have HB8 : Hid (Below w.heap.size w W8) := HB5.out.trans (Below.trans HB6.out (hb78.mono (Below.size HB6.out)) |>.mono HB5.out.size)
      have hB58 : Below w5.heap.size w5 W8 := Below.trans HB6.out (hb78.mono (Below.size HB6.out))
      have HY8 : Hid (RowX yb #[.int .i64 50, .slice ay L.length cy] 29 W8) := HYr.out.below hB58
      have HA8 : Hid (RowX ab #[.int .i64 c, .int .i64 r, .int .i64 rp, .int .i64 sq] 42 W8) := HAr.out.below hB58
      have HF8 : Hid (HFirm G W8 (.slice ay L.length cy) L) := HFm.out.below hB58
      have HId8 : Hid (IsI W8 (.slice a7 0 c7) []) := (ho7.isI (by simp)).below hb8
      obtain ⟨y_0, y_1, _, _⟩ := row2_cells HY8.out.out
      obtain ⟨a_0, a_1, a_2, a_3⟩ := row4_cells HA8.out.out
      rw [eW8] at y_0 y_1 a_0 a_1 a_2 a_3
      clear ho7 hb7 hb8 hb78
      go_wp2_with fail
      rw [← eW8]
      clear y_0 y_1 a_0 a_1 a_2 a_3
      refine (refOwn_any _ L rp sq _ HF8.out.isH).mono ?_
      rintro e w9 ⟨rfl, hb9⟩
      (try rw [← edb])
      clear edb eW8
      have HD9 : Hid (RowX db #[.int .i64 0, .int .i64 0, .int .i64 0, .slice a7 0 c7, .int .i64 0, .int .i64 0, .int .i64 0, .int .i64 0, .int .i64 0, .int .i64 0, .int .i64 0, .string ⟨#[]⟩, .string ⟨#[]⟩] 34 w9) := HDr.out.below hb9
      have HB9 : Hid (Below w.heap.size w w9) := HB8.out.trans (hb9.mono HB8.out.size)
      have HY9 : Hid (RowX yb #[.int .i64 50, .slice ay L.length cy] 29 w9) := HY8.out.below hb9
      have HA9 : Hid (RowX ab #[.int .i64 c, .int .i64 r, .int .i64 rp, .int .i64 sq] 42 w9) := HA8.out.below hb9
      have HF9 : Hid (HFirm G w9 (.slice ay L.length cy) L) := HF8.out.below hb9
      have HId : Hid (IsI w9 (.slice a7 0 c7) []) := HId8.out.below hb9
      clear hb9 HDr HB8 HY8 HA8 HF8 HId8 hB58
      obtain ⟨a_0, a_1, a_2, a_3⟩ := row4_cells HA9.out.out
      generalize ownP L rp sq = op at *
      obtain ⟨d_0, d_1, d_2, d_3, d_4, d_5, d_6, d_7, d_8, d_9, d_10, d_11, d_12⟩ := row_cells HD9.out.out
      have q1 : rp < 0 ∨ (¬ rp < 0 ∧ 64 ≤ rp) := by omega
      clear hr hres
      rcases q1 with q1 | ⟨q1, q2⟩
      · go_wp2_with fail
        refine (refSameCh_eq 0 0 0 _ _ 0 0 0 0 0 0 0 ⟨#[]⟩ ⟨#[]⟩ [] _ HId.out (IsI.non 0)).mono ?_
        rintro e wa ⟨rfl, hba⟩
        have HBa : Hid (Below w.heap.size w wa) := HB9.out.trans (hba.mono HB9.out.size)
        clear hba
        go_wp2_with fail
        refine (awake_any _).mono ?_
        rintro e wb ⟨rfl, hbb⟩
        have HBe : Hid (Below w.heap.size w wb) := HBa.out.trans (hbb.mono HBa.out.size)
        clear hbb
        go_wp2
        go_ret
        exact ⟨rfl, HBe.out⟩
      · go_wp2_with fail
        refine (refSameCh_eq 0 0 0 _ _ 0 0 0 0 0 0 0 ⟨#[]⟩ ⟨#[]⟩ [] _ HId.out (IsI.non 0)).mono ?_
        rintro e wa ⟨rfl, hba⟩
        have HBa : Hid (Below w.heap.size w wa) := HB9.out.trans (hba.mono HB9.out.size)
        clear hba
        go_wp2_with fail
        refine (awake_any _).mono ?_
        rintro e wb ⟨rfl, hbb⟩
        have HBe : Hid (Below w.heap.size w wb) := HBa.out.trans (hbb.mono HBa.out.size)
        clear hbb
        go_wp2
        go_ret
        exact ⟨rfl, HBe.out⟩
  · obtain ⟨c9, hc9⟩ : ∃ c, c = L[k] := ⟨_, rfl⟩
    rw [← hc9] at hgl
    have HC9 : Hid (c9 = L[k]) := hc9
    clear hc9
    obtain ⟨ac1, ar1, sq1, ds1, kd1, nc1, nr1, pc1, pr1, fc1, fr1, nm1, vl1⟩ := c9
    have hdl1 : ds1.length ≤ 17592186044416 := by
      obtain ⟨_, _, _, _, h9⟩ := HG2.out.one
      obtain ⟨_, _, _, _, _, hI9, _⟩ := h9 k hk
      rw [← HC9.out] at hI9
      obtain ⟨_, _, _, _, hl, _⟩ := hI9
      exact hl
    rw [hgl] at ho3 ⊢
    simp only [Option.getD_some, Option.isSome_some] at ho3 ⊢
    simp only [chV, chCells]
    obtain ⟨av, cv, e3⟩ := ho3.form
    (try simp only [List.length_nil] at e3)
    subst e3
    (try simp only [List.length_nil] at ho3)
    obtain ⟨W4, eW4⟩ : ∃ X, X = w3.alloc (.cells #[.int .i64 ac1, .int .i64 ar1, .int .i64 sq1, .slice av ds1.length cv, .int .i64 kd1, .int .i64 nc1, .int .i64 nr1, .int .i64 pc1, .int .i64 pr1, .int .i64 fc1, .int .i64 fr1, .string nm1, .string vl1] 34) := ⟨_, rfl⟩
    obtain ⟨cb, ecb⟩ : ∃ b, b = w3.heap.size := ⟨_, rfl⟩
    have hb4 : Below w3.heap.size w3 W4 := by rw [eW4]; exact (Below.refl _ _).alloc (Nat.le_refl _) _
    have hb24 : Below W2.heap.size W2 W4 := hb3.trans (hb4.mono hb3.size)
    have HC4 : Hid (RowX cb #[.int .i64 ac1, .int .i64 ar1, .int .i64 sq1, .slice av ds1.length cv, .int .i64 kd1, .int .i64 nc1, .int .i64 nr1, .int .i64 pc1, .int .i64 pr1, .int .i64 fc1, .int .i64 fr1, .string nm1, .string vl1] 34 W4) := ⟨by rw [ecb, eW4]; exact heap_alloc_new _ _⟩
    have HY4 : Hid (RowX yb #[.int .i64 50, .slice ay L.length cy] 29 W4) := HY2.out.below hb24
    have HA4 : Hid (RowX ab #[.int .i64 c, .int .i64 r, .int .i64 rp, .int .i64 sq] 42 W4) := HA2.out.below hb24
    have HG4 : Hid (HFirm G W4 (.slice ay L.length cy) L) := HG2.out.below hb24
    have HL4 : Hid (LogOk F W4 lb 50 L) := HL2.out.below hb24
    have HB4 : Hid (Below w.heap.size w W4) := HB2.out.trans (hb24.mono HB2.out.size)
    have HI4 : Hid (IsI W4 (.slice av ds1.length cv) ds1) := (ho3.isI hdl1).below hb4
    obtain ⟨a_0, a_1, a_2, a_3⟩ := row4_cells HA4.out.out
    obtain ⟨y_0, y_1, _, _⟩ := row2_cells HY4.out.out
    rw [eW4] at a_0 a_1 a_2 a_3 y_0 y_1
    clear ho3 hb3 hb4 hb24 HY2 HA2 HG2 HL2 HB2
    go_wp2_with fail
    rw [← eW4]
    clear a_0 a_1 a_2 a_3 y_0 y_1
    refine (find_any _ L c r _ HG4.out.isH).mono ?_
    rintro e w5 ⟨rfl, hb5⟩
    (try rw [← ecb])
    clear eW4 ecb
    have HCr : Hid (RowX cb #[.int .i64 ac1, .int .i64 ar1, .int .i64 sq1, .slice av ds1.length cv, .int .i64 kd1, .int .i64 nc1, .int .i64 nr1, .int .i64 pc1, .int .i64 pr1, .int .i64 fc1, .int .i64 fr1, .string nm1, .string vl1] 34 w5) := HC4.out.below hb5
    have HYr : Hid (RowX yb #[.int .i64 50, .slice ay L.length cy] 29 w5) := HY4.out.below hb5
    have HAr : Hid (RowX ab #[.int .i64 c, .int .i64 r, .int .i64 rp, .int .i64 sq] 42 w5) := HA4.out.below hb5
    have HFm : Hid (HFirm G w5 (.slice ay L.length cy) L) := HG4.out.below hb5
    have HLg : Hid (LogOk F w5 lb 50 L) := HL4.out.below hb5
    have HB5 : Hid (Below w.heap.size w w5) := HB4.out.trans (hb5.mono HB4.out.size)
    have HIv : Hid (IsI w5 (.slice av ds1.length cv) ds1) := HI4.out.below hb5
    have hOne : ∀ i (hi : i < L.length), ∃ b o a2 e2, ay = some ⟨b, o, none⟩ ∧ IsG G w5 (.slice a2 L[i].deps.length e2) L[i].deps ∧ Sized L[i] ∧ ∀ W', KeepsS G w5 W' → ∀ j u, (chCells L[i] (.slice a2 L[i].deps.length e2))[j]? = some u → W'.cell? ⟨b, o + i * 13 + j, none⟩ = some u := by
      obtain ⟨a9, c9, e9, _, h9⟩ := HFm.out.one
      injection e9 with e9 _ _
      subst e9
      exact h9
    clear hb5 HC4 HY4 HA4 HG4 HL4 HB4 HI4
    rw [hfi]
    obtain ⟨bL, oL, a2, e2, e1L, hI2, _, hcL⟩ := hOne k hk
    rw [← HC9.out] at hI2 hcL
    simp only at hI2 hcL
    have HI2 : Hid (IsI w5 (.slice a2 ds1.length e2) ds1) := hI2.isI
    have HLk : Hid (∀ j u, (chCells (⟨ac1, ar1, sq1, ds1, kd1, nc1, nr1, pc1, pr1, fc1, fr1, nm1, vl1⟩ : Ch) (.slice a2 ds1.length e2))[j]? = some u → w5.cell? ⟨bL, oL + k * 13 + j, none⟩ = some u) := hcL _ (KeepsS.refl _ _)
    have HbL : Hid (bL < w5.heap.size) := cell_lt (HLk.out 0 _ rfl)
    have hk0 : (0 : Int) ≤ (k : Int) := by omega
    have hk1 : (k : Int) < (L.length : Int) := by omega
    clear hI2 hcL
    subst e1L
    go_upto_region 4 with fail
    refine wp_region_held_drew (S := fun W' => BelowH w5 W') (by kernel_rfl) ((Below.refl _ _).drew) (fun hHeld => ?_)
    obtain ⟨Uf5u0, eW⟩ : ∃ X, X = w5.drew := ⟨_, rfl⟩
    have hb : Below w5.heap.size w5 Uf5u0 := by rw [eW]; exact (Below.refl _ _).drew
    rw [← eW] at hHeld ⊢
    clear eW hb
    refine wpAnyH_take (i := 0) (oi := ⟨some 30, _, _, _, _, _⟩) (v := ?vf5ux0) rfl (by kernel_rfl) (by kernel_rfl) (by kernel_rfl) (fun _ _ _ h => h) (Or.inl ⟨by rfl, ?hyf5ux0⟩) hHeld ?restf5ux0
    case hyf5ux0 => (intro w _; go_simp; try with_reducible rfl)
    simp only [Act.put, List.setIfInBounds_toArray, List.set_cons_zero, List.set_cons_succ]
    refine wpAnyH_take (i := 1) (oi := ⟨some 31, _, _, _, _, _⟩) (v := ?vf5ux1) rfl (by kernel_rfl) (by kernel_rfl) (by kernel_rfl) (fun _ _ _ h => h) (Or.inl ⟨by rfl, ?hyf5ux1⟩) hHeld ?restf5ux1
    case hyf5ux1 => (intro w _; go_simp; try with_reducible rfl)
    simp only [Act.put, List.setIfInBounds_toArray, List.set_cons_zero, List.set_cons_succ]
    refine wpAnyH_take (i := 2) (oi := ⟨some 32, _, _, _, _, _⟩) (v := ?vf5ux2) rfl (by kernel_rfl) (by kernel_rfl) (by kernel_rfl) (fun _ _ _ h => h) (Or.inl ⟨by rfl, ?hyf5ux2⟩) hHeld ?restf5ux2
    case hyf5ux2 => (intro w hSw; (try dsimp only at hSw); have hk := hSw; have cr := (HCr.out.below hSw).out; obtain ⟨c_0, c_1, c_2, c_3, c_4, c_5, c_6, c_7, c_8, c_9, c_10, c_11, c_12⟩ := row_cells cr; have yr := (HYr.out.below hSw).out; obtain ⟨y_0, y_1, _, _⟩ := row2_cells yr; obtain ⟨l_0, l_1, l_2, l_3, l_4, l_5, l_6, l_7, l_8, l_9, l_10, l_11, l_12⟩ := chAll (fun j u hj => (Below.cell hSw (p := ⟨bL, oL + k * 13 + j, none⟩) HbL.out).trans (HLk.out j u hj)); go_simp; try with_reducible rfl)
    simp only [Act.put, List.setIfInBounds_toArray, List.set_cons_zero, List.set_cons_succ]
    refine wpAnyH_take (i := 3) (oi := ⟨some 33, _, _, _, _, _⟩) (v := ?vf5ux3) rfl (by kernel_rfl) (by kernel_rfl) (by kernel_rfl) (fun _ _ _ h => h) (Or.inl ⟨by rfl, ?hyf5ux3⟩) hHeld ?restf5ux3
    case hyf5ux3 => (intro w hSw; (try dsimp only at hSw); have hk := hSw; have cr := (HCr.out.below hSw).out; obtain ⟨c_0, c_1, c_2, c_3, c_4, c_5, c_6, c_7, c_8, c_9, c_10, c_11, c_12⟩ := row_cells cr; have yr := (HYr.out.below hSw).out; obtain ⟨y_0, y_1, _, _⟩ := row2_cells yr; obtain ⟨l_0, l_1, l_2, l_3, l_4, l_5, l_6, l_7, l_8, l_9, l_10, l_11, l_12⟩ := chAll (fun j u hj => (Below.cell hSw (p := ⟨bL, oL + k * 13 + j, none⟩) HbL.out).trans (HLk.out j u hj)); go_simp; try with_reducible rfl)
    simp only [Act.put, List.setIfInBounds_toArray, List.set_cons_zero, List.set_cons_succ]
    refine wpAnyH_take (i := 4) (oi := ⟨some 34, _, _, _, _, _⟩) (v := ?vf5ux4) rfl (by kernel_rfl) (by kernel_rfl) (by kernel_rfl) (fun _ _ _ h => h) (Or.inl ⟨by rfl, ?hyf5ux4⟩) hHeld ?restf5ux4
    case hyf5ux4 => (intro w _; go_simp; try with_reducible rfl)
    simp only [Act.put, List.setIfInBounds_toArray, List.set_cons_zero, List.set_cons_succ]
    refine wpAnyH_take (i := 5) (oi := ⟨some 35, _, _, _, _, _⟩) (v := ?vf5ux5) rfl (by kernel_rfl) (by kernel_rfl) (by kernel_rfl) (fun _ _ _ h => h) (Or.inl ⟨by rfl, ?hyf5ux5⟩) hHeld ?restf5ux5
    case hyf5ux5 => (intro w _; go_simp; try with_reducible rfl)
    simp only [Act.put, List.setIfInBounds_toArray, List.set_cons_zero, List.set_cons_succ]
    refine wpAnyH_take (i := 6) (oi := ⟨some 36, _, _, _, _, _⟩) (v := ?vf5ux6) rfl (by kernel_rfl) (by kernel_rfl) (by kernel_rfl) (fun _ _ _ h => h) (Or.inl ⟨by rfl, ?hyf5ux6⟩) hHeld ?restf5ux6
    case hyf5ux6 => (intro w _; go_simp; try with_reducible rfl)
    simp only [Act.put, List.setIfInBounds_toArray, List.set_cons_zero, List.set_cons_succ]
    refine wpAnyH_take (i := 7) (oi := ⟨some 37, _, _, _, _, _⟩) (v := ?vf5ux7) rfl (by kernel_rfl) (by kernel_rfl) (by kernel_rfl) (fun _ _ _ h => h) (Or.inl ⟨by rfl, ?hyf5ux7⟩) hHeld ?restf5ux7
    case hyf5ux7 => (intro w hSw; (try dsimp only at hSw); have hk := hSw; have cr := (HCr.out.below hSw).out; obtain ⟨c_0, c_1, c_2, c_3, c_4, c_5, c_6, c_7, c_8, c_9, c_10, c_11, c_12⟩ := row_cells cr; have yr := (HYr.out.below hSw).out; obtain ⟨y_0, y_1, _, _⟩ := row2_cells yr; obtain ⟨l_0, l_1, l_2, l_3, l_4, l_5, l_6, l_7, l_8, l_9, l_10, l_11, l_12⟩ := chAll (fun j u hj => (Below.cell hSw (p := ⟨bL, oL + k * 13 + j, none⟩) HbL.out).trans (HLk.out j u hj)); go_simp; try with_reducible rfl)
    simp only [Act.put, List.setIfInBounds_toArray, List.set_cons_zero, List.set_cons_succ]
    refine wpAnyH_take (i := 8) (oi := ⟨some 38, _, _, _, _, _⟩) (v := ?vf5ux8) rfl (by kernel_rfl) (by kernel_rfl) (by kernel_rfl) (fun _ _ _ h => h) (Or.inl ⟨by rfl, ?hyf5ux8⟩) hHeld ?restf5ux8
    case hyf5ux8 => (intro w _; go_simp; try with_reducible rfl)
    simp only [Act.put, List.setIfInBounds_toArray, List.set_cons_zero, List.set_cons_succ]
    refine wpAnyH_take (i := 9) (oi := ⟨some 39, _, _, _, _, _⟩) (v := ?vf5ux9) rfl (by kernel_rfl) (by kernel_rfl) (by kernel_rfl) (fun _ _ _ h => h) (Or.inl ⟨by rfl, ?hyf5ux9⟩) hHeld ?restf5ux9
    case hyf5ux9 => (intro w hSw; (try dsimp only at hSw); have hk := hSw; have cr := (HCr.out.below hSw).out; obtain ⟨c_0, c_1, c_2, c_3, c_4, c_5, c_6, c_7, c_8, c_9, c_10, c_11, c_12⟩ := row_cells cr; have yr := (HYr.out.below hSw).out; obtain ⟨y_0, y_1, _, _⟩ := row2_cells yr; obtain ⟨l_0, l_1, l_2, l_3, l_4, l_5, l_6, l_7, l_8, l_9, l_10, l_11, l_12⟩ := chAll (fun j u hj => (Below.cell hSw (p := ⟨bL, oL + k * 13 + j, none⟩) HbL.out).trans (HLk.out j u hj)); go_simp; try with_reducible rfl)
    simp only [Act.put, List.setIfInBounds_toArray, List.set_cons_zero, List.set_cons_succ]
    refine wpAnyH_take (i := 10) (oi := ⟨some 40, _, _, _, _, _⟩) (v := ?vf5ux10) rfl (by kernel_rfl) (by kernel_rfl) (by kernel_rfl) (fun _ _ _ h => h) (Or.inl ⟨by rfl, ?hyf5ux10⟩) hHeld ?restf5ux10
    case hyf5ux10 => (intro w _; go_simp; try with_reducible rfl)
    simp only [Act.put, List.setIfInBounds_toArray, List.set_cons_zero, List.set_cons_succ]
    refine wpAnyH_take (i := 11) (oi := ⟨some 41, _, _, _, _, _⟩) (v := ?vf5ux11) rfl (by kernel_rfl) (by kernel_rfl) (by kernel_rfl) (fun _ _ _ h => h) (Or.inl ⟨by rfl, ?hyf5ux11⟩) hHeld ?restf5ux11
    case hyf5ux11 => (intro w hSw; (try dsimp only at hSw); have hk := hSw; have cr := (HCr.out.below hSw).out; obtain ⟨c_0, c_1, c_2, c_3, c_4, c_5, c_6, c_7, c_8, c_9, c_10, c_11, c_12⟩ := row_cells cr; have yr := (HYr.out.below hSw).out; obtain ⟨y_0, y_1, _, _⟩ := row2_cells yr; obtain ⟨l_0, l_1, l_2, l_3, l_4, l_5, l_6, l_7, l_8, l_9, l_10, l_11, l_12⟩ := chAll (fun j u hj => (Below.cell hSw (p := ⟨bL, oL + k * 13 + j, none⟩) HbL.out).trans (HLk.out j u hj)); go_simp; try with_reducible rfl)
    simp only [Act.put, List.setIfInBounds_toArray, List.set_cons_zero, List.set_cons_succ]
    refine wpAnyH_take (i := 12) (oi := ⟨some 42, _, _, _, _, _⟩) (v := ?vf5ux12) rfl (by kernel_rfl) (by kernel_rfl) (by kernel_rfl) (fun _ _ _ h => h) (Or.inl ⟨by rfl, ?hyf5ux12⟩) hHeld ?restf5ux12
    case hyf5ux12 => (intro w hSw; (try dsimp only at hSw); have hk := hSw; have cr := (HCr.out.below hSw).out; obtain ⟨c_0, c_1, c_2, c_3, c_4, c_5, c_6, c_7, c_8, c_9, c_10, c_11, c_12⟩ := row_cells cr; have yr := (HYr.out.below hSw).out; obtain ⟨y_0, y_1, _, _⟩ := row2_cells yr; obtain ⟨l_0, l_1, l_2, l_3, l_4, l_5, l_6, l_7, l_8, l_9, l_10, l_11, l_12⟩ := chAll (fun j u hj => (Below.cell hSw (p := ⟨bL, oL + k * 13 + j, none⟩) HbL.out).trans (HLk.out j u hj)); go_simp; try with_reducible rfl)
    simp only [Act.put, List.setIfInBounds_toArray, List.set_cons_zero, List.set_cons_succ]
    refine wpAnyH_ready (rs := [13]) (by kernel_rfl) (by simp) ?_
    refine AllReadyH.cons (o := ⟨some 43, _, _, _, _, _⟩) rfl (fun K hK => ?_) AllReadyH.nil
    go_simp
    refine (refSameCh_eq ac1 ar1 sq1 _ _ kd1 nc1 nr1 pc1 pr1 fc1 fr1 nm1 vl1 ds1 _ (IsI.below HIv.out hHeld) (IsI.below HI2.out hHeld)).mono ?_
    rintro e Uf5u1 ⟨rfl, hb⟩
    (try go_wp2_with fail)
    refine hK.out _ _ (BelowH.below hHeld hb) (fun hHeld2 => ?_)
    clear hK K hHeld
    have hHeld := hHeld2
    clear hHeld2
    (try simp only [Act.put, List.setIfInBounds_toArray, List.set_cons_zero, List.set_cons_succ])
    clear hb
    refine wpAnyH_take (i := 14) (oi := ⟨some 44, _, _, _, _, _⟩) (v := ?vf5u_13x14) rfl (by kernel_rfl) (by kernel_rfl) (by kernel_rfl) (fun _ _ _ h => h) (Or.inl ⟨by rfl, ?hyf5u_13x14⟩) hHeld ?restf5u_13x14
    case hyf5u_13x14 => (intro w _; go_simp; try with_reducible rfl)
    simp only [Act.put, List.setIfInBounds_toArray, List.set_cons_zero, List.set_cons_succ]
    refine wpAnyH_take (i := 15) (oi := ⟨some 45, _, _, _, _, _⟩) (v := ?vf5u_13x15) rfl (by kernel_rfl) (by kernel_rfl) (by kernel_rfl) (fun _ _ _ h => h) (Or.inl ⟨by rfl, ?hyf5u_13x15⟩) hHeld ?restf5u_13x15
    case hyf5u_13x15 => (intro w _; go_simp; try with_reducible rfl)
    simp only [Act.put, List.setIfInBounds_toArray, List.set_cons_zero, List.set_cons_succ]
    refine wpAnyH_take (i := 16) (oi := ⟨some 46, _, _, _, _, _⟩) (v := ?vf5u_13x16) rfl (by kernel_rfl) (by kernel_rfl) (by kernel_rfl) (fun _ _ _ h => h) (Or.inl ⟨by rfl, ?hyf5u_13x16⟩) hHeld ?restf5u_13x16
    case hyf5u_13x16 => (intro w _; go_simp; try with_reducible rfl)
    simp only [Act.put, List.setIfInBounds_toArray, List.set_cons_zero, List.set_cons_succ]
    refine wpAnyH_take (i := 17) (oi := ⟨some 47, _, _, _, _, _⟩) (v := ?vf5u_13x17) rfl (by kernel_rfl) (by kernel_rfl) (by kernel_rfl) (fun _ _ _ h => h) (Or.inl ⟨by rfl, ?hyf5u_13x17⟩) hHeld ?restf5u_13x17
    case hyf5u_13x17 => (intro w _; go_simp; try with_reducible rfl)
    simp only [Act.put, List.setIfInBounds_toArray, List.set_cons_zero, List.set_cons_succ]
    refine wpAnyH_take (i := 18) (oi := ⟨some 48, _, _, _, _, _⟩) (v := ?vf5u_13x18) rfl (by kernel_rfl) (by kernel_rfl) (by kernel_rfl) (fun _ _ _ h => h) (Or.inl ⟨by rfl, ?hyf5u_13x18⟩) hHeld ?restf5u_13x18
    case hyf5u_13x18 => (intro w _; go_simp; try with_reducible rfl)
    simp only [Act.put, List.setIfInBounds_toArray, List.set_cons_zero, List.set_cons_succ]
    refine wpAnyH_take (i := 19) (oi := ⟨some 49, _, _, _, _, _⟩) (v := ?vf5u_13x19) rfl (by kernel_rfl) (by kernel_rfl) (by kernel_rfl) (fun _ _ _ h => h) (Or.inl ⟨by rfl, ?hyf5u_13x19⟩) hHeld ?restf5u_13x19
    case hyf5u_13x19 => (intro w _; go_simp; try with_reducible rfl)
    simp only [Act.put, List.setIfInBounds_toArray, List.set_cons_zero, List.set_cons_succ]
    refine wpAnyH_take (i := 20) (oi := ⟨some 50, _, _, _, _, _⟩) (v := ?vf5u_13x20) rfl (by kernel_rfl) (by kernel_rfl) (by kernel_rfl) (fun _ _ _ h => h) (Or.inl ⟨by rfl, ?hyf5u_13x20⟩) hHeld ?restf5u_13x20
    case hyf5u_13x20 => (intro w _; go_simp; try with_reducible rfl)
    simp only [Act.put, List.setIfInBounds_toArray, List.set_cons_zero, List.set_cons_succ]
    refine wpAnyH_take (i := 21) (oi := ⟨some 51, _, _, _, _, _⟩) (v := undef) rfl (by kernel_rfl) (by kernel_rfl) (by kernel_rfl) (fun _ _ _ h => h) (Or.inr ⟨by rfl, rfl⟩) hHeld ?_
    simp only [Act.put, List.setIfInBounds_toArray, List.set_cons_zero, List.set_cons_succ]
    refine wpAnyH_take (i := 22) (oi := ⟨some 52, _, _, _, _, _⟩) (v := undef) rfl (by kernel_rfl) (by kernel_rfl) (by kernel_rfl) (fun _ _ _ h => h) (Or.inr ⟨by rfl, rfl⟩) hHeld ?_
    simp only [Act.put, List.setIfInBounds_toArray, List.set_cons_zero, List.set_cons_succ]
    refine wpAnyH_take (i := 23) (oi := ⟨some 53, _, _, _, _, _⟩) (v := undef) rfl (by kernel_rfl) (by kernel_rfl) (by kernel_rfl) (fun _ _ _ h => h) (Or.inr ⟨by rfl, rfl⟩) hHeld ?_
    simp only [Act.put, List.setIfInBounds_toArray, List.set_cons_zero, List.set_cons_succ]
    refine wpAnyH_take (i := 24) (oi := ⟨some 54, _, _, _, _, _⟩) (v := undef) rfl (by kernel_rfl) (by kernel_rfl) (by kernel_rfl) (fun _ _ _ h => h) (Or.inr ⟨by rfl, rfl⟩) hHeld ?_
    simp only [Act.put, List.setIfInBounds_toArray, List.set_cons_zero, List.set_cons_succ]
    refine wpAnyH_take (i := 25) (oi := ⟨some 55, _, _, _, _, _⟩) (v := ?vf5u_13x25) rfl (by kernel_rfl) (by kernel_rfl) (by kernel_rfl) (fun _ _ _ h => h) (Or.inl ⟨by rfl, ?hyf5u_13x25⟩) hHeld ?restf5u_13x25
    case hyf5u_13x25 => (intro w _; go_simp; try with_reducible rfl)
    simp only [Act.put, List.setIfInBounds_toArray, List.set_cons_zero, List.set_cons_succ]
    refine wpAnyH_take (i := 26) (oi := ⟨some 56, _, _, _, _, _⟩) (v := ?vf5u_13x26) rfl (by kernel_rfl) (by kernel_rfl) (by kernel_rfl) (fun _ _ _ h => h) (Or.inl ⟨by rfl, ?hyf5u_13x26⟩) hHeld ?restf5u_13x26
    case hyf5u_13x26 => (intro w _; go_simp; try with_reducible rfl)
    simp only [Act.put, List.setIfInBounds_toArray, List.set_cons_zero, List.set_cons_succ]
    refine wpAnyH_done (by kernel_rfl) ?_ _
    have HB6 : Hid (BelowH w5 Uf5u1) := hHeld
    clear hHeld
    obtain ⟨a_0, a_1, a_2, a_3⟩ := row4_cells (HAr.out.below HB6.out).out
    by_cases hr : 0 ≤ rp ∧ rp < 64
    · rcases ownP_or L rp sq with ⟨ho1, ho2⟩ | ⟨k2, hk2, ho1, ho2⟩
      · have hres : ownR L rp sq = (zeroC, 4) := by unfold ownR; rw [if_pos hr, ho2]
        have q1 : ¬ rp < 0 := by omega
        have q2 : ¬ 64 ≤ rp := by omega
        go_wp2_with fail
        refine (ownLog_any _ 50 L F rp sq _ (HLg.out.below HB6.out).v HGd.out (by omega)).mono ?_
        rintro e w7 ⟨v7, rfl, ho7, hb7⟩
        rw [hres] at ho7 ⊢
        (try simp only [zeroC] at ho7 ⊢)
        simp only [chV, chCells]
        obtain ⟨a7, c7, e7⟩ := ho7.form
        (try simp only [List.length_nil] at e7)
        subst e7
        (try simp only [List.length_nil] at ho7)
        obtain ⟨W8, eW8⟩ : ∃ X, X = w7.alloc (.cells #[.int .i64 0, .int .i64 0, .int .i64 0, .slice a7 0 c7, .int .i64 0, .int .i64 0, .int .i64 0, .int .i64 0, .int .i64 0, .int .i64 0, .int .i64 0, .string ⟨#[]⟩, .string ⟨#[]⟩] 34) := ⟨_, rfl⟩
        have hb8 : Below w7.heap.size w7 W8 := by rw [eW8]; exact (Below.refl _ _).alloc (Nat.le_refl _) _
        obtain ⟨db, edb⟩ : ∃ b, b = w7.heap.size := ⟨_, rfl⟩
        have hb78 : Below Uf5u1.heap.size Uf5u1 W8 := hb7.trans (hb8.mono hb7.size)
        have HDr : Hid (RowX db #[.int .i64 0, .int .i64 0, .int .i64 0, .slice a7 0 c7, .int .i64 0, .int .i64 0, .int .i64 0, .int .i64 0, .int .i64 0, .int .i64 0, .int .i64 0, .string ⟨#[]⟩, .string ⟨#[]⟩] 34 W8) := ⟨by rw [edb, eW8]; exact heap_alloc_new _ _⟩
        have HB8 : Hid (Below w.heap.size w W8) := HB5.out.trans (Below.trans HB6.out (hb78.mono (Below.size HB6.out)) |>.mono HB5.out.size)
        have hB58 : Below w5.heap.size w5 W8 := Below.trans HB6.out (hb78.mono (Below.size HB6.out))
        have HY8 : Hid (RowX yb #[.int .i64 50, .slice (some (⟨bL, oL, none⟩ : Addr)) L.length cy] 29 W8) := HYr.out.below hB58
        have HA8 : Hid (RowX ab #[.int .i64 c, .int .i64 r, .int .i64 rp, .int .i64 sq] 42 W8) := HAr.out.below hB58
        have HF8 : Hid (HFirm G W8 (.slice (some (⟨bL, oL, none⟩ : Addr)) L.length cy) L) := HFm.out.below hB58
        have HId8 : Hid (IsI W8 (.slice a7 0 c7) []) := (ho7.isI (by simp)).below hb8
        obtain ⟨y_0, y_1, _, _⟩ := row2_cells HY8.out.out
        obtain ⟨a_0, a_1, a_2, a_3⟩ := row4_cells HA8.out.out
        rw [eW8] at y_0 y_1 a_0 a_1 a_2 a_3
        clear ho7 hb7 hb8 hb78
        go_wp2_with fail
        rw [← eW8]
        clear y_0 y_1 a_0 a_1 a_2 a_3
        refine (refOwn_any _ L rp sq _ HF8.out.isH).mono ?_
        rintro e w9 ⟨rfl, hb9⟩
        (try rw [← edb])
        clear edb eW8
        have HD9 : Hid (RowX db #[.int .i64 0, .int .i64 0, .int .i64 0, .slice a7 0 c7, .int .i64 0, .int .i64 0, .int .i64 0, .int .i64 0, .int .i64 0, .int .i64 0, .int .i64 0, .string ⟨#[]⟩, .string ⟨#[]⟩] 34 w9) := HDr.out.below hb9
        have HB9 : Hid (Below w.heap.size w w9) := HB8.out.trans (hb9.mono HB8.out.size)
        have HY9 : Hid (RowX yb #[.int .i64 50, .slice (some (⟨bL, oL, none⟩ : Addr)) L.length cy] 29 w9) := HY8.out.below hb9
        have HA9 : Hid (RowX ab #[.int .i64 c, .int .i64 r, .int .i64 rp, .int .i64 sq] 42 w9) := HA8.out.below hb9
        have HF9 : Hid (HFirm G w9 (.slice (some (⟨bL, oL, none⟩ : Addr)) L.length cy) L) := HF8.out.below hb9
        have HId : Hid (IsI w9 (.slice a7 0 c7) []) := HId8.out.below hb9
        clear hb9 HDr HB8 HY8 HA8 HF8 HId8 hB58
        obtain ⟨a_0, a_1, a_2, a_3⟩ := row4_cells HA9.out.out
        rw [ho1]
        obtain ⟨d_0, d_1, d_2, d_3, d_4, d_5, d_6, d_7, d_8, d_9, d_10, d_11, d_12⟩ := row_cells HD9.out.out
        go_wp2_with fail
        refine (refSameCh_eq 0 0 0 _ _ 0 0 0 0 0 0 0 ⟨#[]⟩ ⟨#[]⟩ [] _ HId.out (IsI.non 0)).mono ?_
        rintro e wa ⟨rfl, hba⟩
        have HBa : Hid (Below w.heap.size w wa) := HB9.out.trans (hba.mono HB9.out.size)
        clear hba
        go_wp2_with fail
        refine (awake_any _).mono ?_
        rintro e wb ⟨rfl, hbb⟩
        have HBe : Hid (Below w.heap.size w wb) := HBa.out.trans (hbb.mono HBa.out.size)
        clear hbb
        go_wp2
        go_ret
        exact ⟨rfl, HBe.out⟩
      · obtain ⟨bM, oM, aM, eM, e1M, hIM, hSM, hcM⟩ := hOne k2 hk2
        obtain ⟨c3, hc3⟩ : ∃ c, c = L[k2] := ⟨_, rfl⟩
        rw [← hc3] at hIM hSM hcM ho2
        obtain ⟨ac3, ar3, sq3, ds3, kd3, nc3, nr3, pc3, pr3, fc3, fr3, nm3, vl3⟩ := c3
        simp only at hIM hSM hcM
        have hres : ownR L rp sq = ((⟨ac3, ar3, sq3, ds3, kd3, nc3, nr3, pc3, pr3, fc3, fr3, nm3, vl3⟩ : Ch), 0) := by unfold ownR; rw [if_pos hr, ho2]
        have q1 : ¬ rp < 0 := by omega
        have q2 : ¬ 64 ≤ rp := by omega
        have hdl3 : ds3.length ≤ 17592186044416 := by obtain ⟨_, _, _, _, hl, _⟩ := hIM; exact hl
        have HIM : Hid (IsG G w5 (.slice aM ds3.length eM) ds3) := hIM
        have HCM : Hid (∀ W', KeepsS G w5 W' → ∀ j u, (chCells (⟨ac3, ar3, sq3, ds3, kd3, nc3, nr3, pc3, pr3, fc3, fr3, nm3, vl3⟩ : Ch) (.slice aM ds3.length eM))[j]? = some u → W'.cell? ⟨bM, oM + k2 * 13 + j, none⟩ = some u) := hcM
        have HE1 : Hid ((some (⟨bL, oL, none⟩ : Addr)) = some ⟨bM, oM, none⟩) := e1M
        have HK2 : Hid (k2 < L.length) := hk2
        clear hIM hSM hcM hc3 e1M
        go_wp2_with fail
        refine (ownLog_any _ 50 L F rp sq _ (HLg.out.below HB6.out).v HGd.out (by omega)).mono ?_
        rintro e w7 ⟨v7, rfl, ho7, hb7⟩
        rw [hres] at ho7 ⊢
        (try simp only [zeroC] at ho7 ⊢)
        simp only [chV, chCells]
        obtain ⟨a7, c7, e7⟩ := ho7.form
        (try simp only [List.length_nil] at e7)
        subst e7
        (try simp only [List.length_nil] at ho7)
        obtain ⟨W8, eW8⟩ : ∃ X, X = w7.alloc (.cells #[.int .i64 ac3, .int .i64 ar3, .int .i64 sq3, .slice a7 ds3.length c7, .int .i64 kd3, .int .i64 nc3, .int .i64 nr3, .int .i64 pc3, .int .i64 pr3, .int .i64 fc3, .int .i64 fr3, .string nm3, .string vl3] 34) := ⟨_, rfl⟩
        have hb8 : Below w7.heap.size w7 W8 := by rw [eW8]; exact (Below.refl _ _).alloc (Nat.le_refl _) _
        obtain ⟨db, edb⟩ : ∃ b, b = w7.heap.size := ⟨_, rfl⟩
        have hb78 : Below Uf5u1.heap.size Uf5u1 W8 := hb7.trans (hb8.mono hb7.size)
        have HDr : Hid (RowX db #[.int .i64 ac3, .int .i64 ar3, .int .i64 sq3, .slice a7 ds3.length c7, .int .i64 kd3, .int .i64 nc3, .int .i64 nr3, .int .i64 pc3, .int .i64 pr3, .int .i64 fc3, .int .i64 fr3, .string nm3, .string vl3] 34 W8) := ⟨by rw [edb, eW8]; exact heap_alloc_new _ _⟩
        have HB8 : Hid (Below w.heap.size w W8) := HB5.out.trans (Below.trans HB6.out (hb78.mono (Below.size HB6.out)) |>.mono HB5.out.size)
        have hB58 : Below w5.heap.size w5 W8 := Below.trans HB6.out (hb78.mono (Below.size HB6.out))
        have HY8 : Hid (RowX yb #[.int .i64 50, .slice (some (⟨bL, oL, none⟩ : Addr)) L.length cy] 29 W8) := HYr.out.below hB58
        have HA8 : Hid (RowX ab #[.int .i64 c, .int .i64 r, .int .i64 rp, .int .i64 sq] 42 W8) := HAr.out.below hB58
        have HF8 : Hid (HFirm G W8 (.slice (some (⟨bL, oL, none⟩ : Addr)) L.length cy) L) := HFm.out.below hB58
        have HId8 : Hid (IsI W8 (.slice a7 ds3.length c7) ds3) := (ho7.isI hdl3).below hb8
        obtain ⟨y_0, y_1, _, _⟩ := row2_cells HY8.out.out
        obtain ⟨a_0, a_1, a_2, a_3⟩ := row4_cells HA8.out.out
        rw [eW8] at y_0 y_1 a_0 a_1 a_2 a_3
        clear ho7 hb7 hb8 hb78
        go_wp2_with fail
        rw [← eW8]
        clear y_0 y_1 a_0 a_1 a_2 a_3
        refine (refOwn_any _ L rp sq _ HF8.out.isH).mono ?_
        rintro e w9 ⟨rfl, hb9⟩
        (try rw [← edb])
        clear edb eW8
        have HD9 : Hid (RowX db #[.int .i64 ac3, .int .i64 ar3, .int .i64 sq3, .slice a7 ds3.length c7, .int .i64 kd3, .int .i64 nc3, .int .i64 nr3, .int .i64 pc3, .int .i64 pr3, .int .i64 fc3, .int .i64 fr3, .string nm3, .string vl3] 34 w9) := HDr.out.below hb9
        have HB9 : Hid (Below w.heap.size w w9) := HB8.out.trans (hb9.mono HB8.out.size)
        have HY9 : Hid (RowX yb #[.int .i64 50, .slice (some (⟨bL, oL, none⟩ : Addr)) L.length cy] 29 w9) := HY8.out.below hb9
        have HA9 : Hid (RowX ab #[.int .i64 c, .int .i64 r, .int .i64 rp, .int .i64 sq] 42 w9) := HA8.out.below hb9
        have HF9 : Hid (HFirm G w9 (.slice (some (⟨bL, oL, none⟩ : Addr)) L.length cy) L) := HF8.out.below hb9
        have HId : Hid (IsI w9 (.slice a7 ds3.length c7) ds3) := HId8.out.below hb9
        have HW59 : Hid (KeepsS G w5 w9) := KeepsS.of_below (hB58.trans (hb9.mono hB58.size)) HFm.out.1
        clear hb9 HDr HB8 HY8 HA8 HF8 HId8 hB58
        obtain ⟨a_0, a_1, a_2, a_3⟩ := row4_cells HA9.out.out
        rw [ho1]
        have k1 : ¬ ((k2 : Int) < 0) := by omega
        have k2l : (k2 : Int) < (L.length : Int) := by have := HK2.out; omega
        have k20 : (0 : Int) ≤ (k2 : Int) := by omega
        have HK9 : Hid (KeepsS G w5 w9) := HW59.out
        have HI9 : Hid (IsI w9 (.slice aM ds3.length eM) ds3) := (HIM.out.keep HK9.out).isI
        have e1M := HE1.out
        injection e1M with e1M
        injection e1M with e1x e2x
        replace e1x := e1x.symm
        replace e2x := e2x.symm
        subst e1x e2x
        have HL9 : Hid (∀ j u, (chCells (⟨ac3, ar3, sq3, ds3, kd3, nc3, nr3, pc3, pr3, fc3, fr3, nm3, vl3⟩ : Ch) (.slice aM ds3.length eM))[j]? = some u → w9.cell? ⟨bM, oM + k2 * 13 + j, none⟩ = some u) := HCM.out _ HK9.out
        have HbM : Hid (bM < w9.heap.size) := cell_lt (HL9.out 0 _ rfl)
        go_upto_region 12 with fail
        clear a_0 a_1 a_2 a_3
        refine wp_region_held_drew (S := fun W' => BelowH w9 W') (by kernel_rfl) ((Below.refl _ _).drew) (fun hHeld => ?_)
        obtain ⟨Ut6u0, eW⟩ : ∃ X, X = w9.drew := ⟨_, rfl⟩
        have hb : Below w9.heap.size w9 Ut6u0 := by rw [eW]; exact (Below.refl _ _).drew
        rw [← eW] at hHeld ⊢
        clear eW hb
        refine wpAnyH_take (i := 0) (oi := ⟨some 103, _, _, _, _, _⟩) (v := ?vt6ux0) rfl (by kernel_rfl) (by kernel_rfl) (by kernel_rfl) (fun _ _ _ h => h) (Or.inl ⟨by rfl, ?hyt6ux0⟩) hHeld ?restt6ux0
        case hyt6ux0 => (intro w _; go_simp; try with_reducible rfl)
        simp only [Act.put, List.setIfInBounds_toArray, List.set_cons_zero, List.set_cons_succ]
        refine wpAnyH_take (i := 1) (oi := ⟨some 104, _, _, _, _, _⟩) (v := ?vt6ux1) rfl (by kernel_rfl) (by kernel_rfl) (by kernel_rfl) (fun _ _ _ h => h) (Or.inl ⟨by rfl, ?hyt6ux1⟩) hHeld ?restt6ux1
        case hyt6ux1 => (intro w hSw; (try dsimp only at hSw); have hk := hSw; have dr := (HD9.out.below hSw).out; obtain ⟨d_0, d_1, d_2, d_3, d_4, d_5, d_6, d_7, d_8, d_9, d_10, d_11, d_12⟩ := row_cells dr; have yr := (HY9.out.below hSw).out; obtain ⟨y_0, y_1, _, _⟩ := row2_cells yr; obtain ⟨l_0, l_1, l_2, l_3, l_4, l_5, l_6, l_7, l_8, l_9, l_10, l_11, l_12⟩ := chAll (fun j u hj => (Below.cell hSw (p := ⟨bM, oM + k2 * 13 + j, none⟩) HbM.out).trans (HL9.out j u hj)); go_simp; try with_reducible rfl)
        simp only [Act.put, List.setIfInBounds_toArray, List.set_cons_zero, List.set_cons_succ]
        refine wpAnyH_take (i := 2) (oi := ⟨some 105, _, _, _, _, _⟩) (v := ?vt6ux2) rfl (by kernel_rfl) (by kernel_rfl) (by kernel_rfl) (fun _ _ _ h => h) (Or.inl ⟨by rfl, ?hyt6ux2⟩) hHeld ?restt6ux2
        case hyt6ux2 => (intro w _; go_simp; try with_reducible rfl)
        simp only [Act.put, List.setIfInBounds_toArray, List.set_cons_zero, List.set_cons_succ]
        refine wpAnyH_take (i := 3) (oi := ⟨some 106, _, _, _, _, _⟩) (v := ?vt6ux3) rfl (by kernel_rfl) (by kernel_rfl) (by kernel_rfl) (fun _ _ _ h => h) (Or.inl ⟨by rfl, ?hyt6ux3⟩) hHeld ?restt6ux3
        case hyt6ux3 => (intro w hSw; (try dsimp only at hSw); have hk := hSw; have dr := (HD9.out.below hSw).out; obtain ⟨d_0, d_1, d_2, d_3, d_4, d_5, d_6, d_7, d_8, d_9, d_10, d_11, d_12⟩ := row_cells dr; have yr := (HY9.out.below hSw).out; obtain ⟨y_0, y_1, _, _⟩ := row2_cells yr; obtain ⟨l_0, l_1, l_2, l_3, l_4, l_5, l_6, l_7, l_8, l_9, l_10, l_11, l_12⟩ := chAll (fun j u hj => (Below.cell hSw (p := ⟨bM, oM + k2 * 13 + j, none⟩) HbM.out).trans (HL9.out j u hj)); go_simp; try with_reducible rfl)
        simp only [Act.put, List.setIfInBounds_toArray, List.set_cons_zero, List.set_cons_succ]
        refine wpAnyH_take (i := 4) (oi := ⟨some 107, _, _, _, _, _⟩) (v := ?vt6ux4) rfl (by kernel_rfl) (by kernel_rfl) (by kernel_rfl) (fun _ _ _ h => h) (Or.inl ⟨by rfl, ?hyt6ux4⟩) hHeld ?restt6ux4
        case hyt6ux4 => (intro w _; go_simp; try with_reducible rfl)
        simp only [Act.put, List.setIfInBounds_toArray, List.set_cons_zero, List.set_cons_succ]
        refine wpAnyH_take (i := 5) (oi := ⟨some 108, _, _, _, _, _⟩) (v := ?vt6ux5) rfl (by kernel_rfl) (by kernel_rfl) (by kernel_rfl) (fun _ _ _ h => h) (Or.inl ⟨by rfl, ?hyt6ux5⟩) hHeld ?restt6ux5
        case hyt6ux5 => (intro w hSw; (try dsimp only at hSw); have hk := hSw; have dr := (HD9.out.below hSw).out; obtain ⟨d_0, d_1, d_2, d_3, d_4, d_5, d_6, d_7, d_8, d_9, d_10, d_11, d_12⟩ := row_cells dr; have yr := (HY9.out.below hSw).out; obtain ⟨y_0, y_1, _, _⟩ := row2_cells yr; obtain ⟨l_0, l_1, l_2, l_3, l_4, l_5, l_6, l_7, l_8, l_9, l_10, l_11, l_12⟩ := chAll (fun j u hj => (Below.cell hSw (p := ⟨bM, oM + k2 * 13 + j, none⟩) HbM.out).trans (HL9.out j u hj)); go_simp; try with_reducible rfl)
        simp only [Act.put, List.setIfInBounds_toArray, List.set_cons_zero, List.set_cons_succ]
        refine wpAnyH_take (i := 6) (oi := ⟨some 109, _, _, _, _, _⟩) (v := ?vt6ux6) rfl (by kernel_rfl) (by kernel_rfl) (by kernel_rfl) (fun _ _ _ h => h) (Or.inl ⟨by rfl, ?hyt6ux6⟩) hHeld ?restt6ux6
        case hyt6ux6 => (intro w _; go_simp; try with_reducible rfl)
        simp only [Act.put, List.setIfInBounds_toArray, List.set_cons_zero, List.set_cons_succ]
        refine wpAnyH_take (i := 7) (oi := ⟨some 110, _, _, _, _, _⟩) (v := ?vt6ux7) rfl (by kernel_rfl) (by kernel_rfl) (by kernel_rfl) (fun _ _ _ h => h) (Or.inl ⟨by rfl, ?hyt6ux7⟩) hHeld ?restt6ux7
        case hyt6ux7 => (intro w hSw; (try dsimp only at hSw); have hk := hSw; have dr := (HD9.out.below hSw).out; obtain ⟨d_0, d_1, d_2, d_3, d_4, d_5, d_6, d_7, d_8, d_9, d_10, d_11, d_12⟩ := row_cells dr; have yr := (HY9.out.below hSw).out; obtain ⟨y_0, y_1, _, _⟩ := row2_cells yr; obtain ⟨l_0, l_1, l_2, l_3, l_4, l_5, l_6, l_7, l_8, l_9, l_10, l_11, l_12⟩ := chAll (fun j u hj => (Below.cell hSw (p := ⟨bM, oM + k2 * 13 + j, none⟩) HbM.out).trans (HL9.out j u hj)); go_simp; try with_reducible rfl)
        simp only [Act.put, List.setIfInBounds_toArray, List.set_cons_zero, List.set_cons_succ]
        refine wpAnyH_take (i := 8) (oi := ⟨some 111, _, _, _, _, _⟩) (v := ?vt6ux8) rfl (by kernel_rfl) (by kernel_rfl) (by kernel_rfl) (fun _ _ _ h => h) (Or.inl ⟨by rfl, ?hyt6ux8⟩) hHeld ?restt6ux8
        case hyt6ux8 => (intro w hSw; (try dsimp only at hSw); have hk := hSw; have dr := (HD9.out.below hSw).out; obtain ⟨d_0, d_1, d_2, d_3, d_4, d_5, d_6, d_7, d_8, d_9, d_10, d_11, d_12⟩ := row_cells dr; have yr := (HY9.out.below hSw).out; obtain ⟨y_0, y_1, _, _⟩ := row2_cells yr; obtain ⟨l_0, l_1, l_2, l_3, l_4, l_5, l_6, l_7, l_8, l_9, l_10, l_11, l_12⟩ := chAll (fun j u hj => (Below.cell hSw (p := ⟨bM, oM + k2 * 13 + j, none⟩) HbM.out).trans (HL9.out j u hj)); go_simp; try with_reducible rfl)
        simp only [Act.put, List.setIfInBounds_toArray, List.set_cons_zero, List.set_cons_succ]
        refine wpAnyH_ready (rs := [9]) (by kernel_rfl) (by simp) ?_
        refine AllReadyH.cons (o := ⟨some 112, _, _, _, _, _⟩) rfl (fun K hK => ?_) AllReadyH.nil
        go_simp
        refine (refSameCh_eq ac3 ar3 sq3 _ _ kd3 nc3 nr3 pc3 pr3 fc3 fr3 nm3 vl3 ds3 _ (IsI.below HId.out hHeld) (IsI.below HI9.out hHeld)).mono ?_
        rintro e Ut6u1 ⟨rfl, hb⟩
        (try go_wp2_with fail)
        refine hK.out _ _ (BelowH.below hHeld hb) (fun hHeld2 => ?_)
        clear hK K hHeld
        have hHeld := hHeld2
        clear hHeld2
        (try simp only [Act.put, List.setIfInBounds_toArray, List.set_cons_zero, List.set_cons_succ])
        clear hb
        refine wpAnyH_take (i := 10) (oi := ⟨some 113, _, _, _, _, _⟩) (v := ?vt6u_9x10) rfl (by kernel_rfl) (by kernel_rfl) (by kernel_rfl) (fun _ _ _ h => h) (Or.inl ⟨by rfl, ?hyt6u_9x10⟩) hHeld ?restt6u_9x10
        case hyt6u_9x10 => (intro w _; go_simp; try with_reducible rfl)
        simp only [Act.put, List.setIfInBounds_toArray, List.set_cons_zero, List.set_cons_succ]
        refine wpAnyH_take (i := 11) (oi := ⟨some 114, _, _, _, _, _⟩) (v := ?vt6u_9x11) rfl (by kernel_rfl) (by kernel_rfl) (by kernel_rfl) (fun _ _ _ h => h) (Or.inl ⟨by rfl, ?hyt6u_9x11⟩) hHeld ?restt6u_9x11
        case hyt6u_9x11 => (intro w _; go_simp; try with_reducible rfl)
        simp only [Act.put, List.setIfInBounds_toArray, List.set_cons_zero, List.set_cons_succ]
        refine wpAnyH_ready (rs := [12]) (by kernel_rfl) (by simp) ?_
        refine AllReadyH.cons (o := ⟨some 115, _, _, _, _, _⟩) rfl (fun K hK => ?_) AllReadyH.nil
        go_simp
        refine (awake_any _).mono ?_
        rintro e Ut6u2 ⟨rfl, hb⟩
        (try go_wp2_with fail)
        refine hK.out _ _ (BelowH.below hHeld hb) (fun hHeld2 => ?_)
        clear hK K hHeld
        have hHeld := hHeld2
        clear hHeld2
        (try simp only [Act.put, List.setIfInBounds_toArray, List.set_cons_zero, List.set_cons_succ])
        clear hb
        refine wpAnyH_take (i := 13) (oi := ⟨some 116, _, _, _, _, _⟩) (v := ?vt6u_9_12x13) rfl (by kernel_rfl) (by kernel_rfl) (by kernel_rfl) (fun _ _ _ h => h) (Or.inl ⟨by rfl, ?hyt6u_9_12x13⟩) hHeld ?restt6u_9_12x13
        case hyt6u_9_12x13 => (intro w _; go_simp; try with_reducible rfl)
        simp only [Act.put, List.setIfInBounds_toArray, List.set_cons_zero, List.set_cons_succ]
        refine wpAnyH_take (i := 14) (oi := ⟨some 4, _, _, _, _, _⟩) (v := ?vt6u_9_12x14) rfl (by kernel_rfl) (by kernel_rfl) (by kernel_rfl) (fun _ _ _ h => h) (Or.inl ⟨by rfl, ?hyt6u_9_12x14⟩) hHeld ?restt6u_9_12x14
        case hyt6u_9_12x14 => (intro w _; go_simp; try with_reducible rfl)
        simp only [Act.put, List.setIfInBounds_toArray, List.set_cons_zero, List.set_cons_succ]
        refine wpAnyH_done (by kernel_rfl) ?_ _
        have HBe : Hid (Below w.heap.size w Ut6u2) := HB9.out.trans (Below.mono hHeld HB9.out.size)
        clear hHeld
        go_wp2
        go_ret
        exact ⟨rfl, HBe.out⟩
    · have hres : ownR L rp sq = (zeroC, 1) := by unfold ownR; rw [if_neg hr]
      go_wp2_with fail
      refine (ownLog_any _ 50 L F rp sq _ (HLg.out.below HB6.out).v HGd.out (by omega)).mono ?_
      rintro e w7 ⟨v7, rfl, ho7, hb7⟩
      rw [hres] at ho7 ⊢
      (try simp only [zeroC] at ho7 ⊢)
      simp only [chV, chCells]
      obtain ⟨a7, c7, e7⟩ := ho7.form
      (try simp only [List.length_nil] at e7)
      subst e7
      (try simp only [List.length_nil] at ho7)
      obtain ⟨W8, eW8⟩ : ∃ X, X = w7.alloc (.cells #[.int .i64 0, .int .i64 0, .int .i64 0, .slice a7 0 c7, .int .i64 0, .int .i64 0, .int .i64 0, .int .i64 0, .int .i64 0, .int .i64 0, .int .i64 0, .string ⟨#[]⟩, .string ⟨#[]⟩] 34) := ⟨_, rfl⟩
      have hb8 : Below w7.heap.size w7 W8 := by rw [eW8]; exact (Below.refl _ _).alloc (Nat.le_refl _) _
      obtain ⟨db, edb⟩ : ∃ b, b = w7.heap.size := ⟨_, rfl⟩
      have hb78 : Below Uf5u1.heap.size Uf5u1 W8 := hb7.trans (hb8.mono hb7.size)
      have HDr : Hid (RowX db #[.int .i64 0, .int .i64 0, .int .i64 0, .slice a7 0 c7, .int .i64 0, .int .i64 0, .int .i64 0, .int .i64 0, .int .i64 0, .int .i64 0, .int .i64 0, .string ⟨#[]⟩, .string ⟨#[]⟩] 34 W8) := ⟨by rw [edb, eW8]; exact heap_alloc_new _ _⟩
      have HB8 : Hid (Below w.heap.size w W8) := HB5.out.trans (Below.trans HB6.out (hb78.mono (Below.size HB6.out)) |>.mono HB5.out.size)
      have hB58 : Below w5.heap.size w5 W8 := Below.trans HB6.out (hb78.mono (Below.size HB6.out))
      have HY8 : Hid (RowX yb #[.int .i64 50, .slice (some (⟨bL, oL, none⟩ : Addr)) L.length cy] 29 W8) := HYr.out.below hB58
      have HA8 : Hid (RowX ab #[.int .i64 c, .int .i64 r, .int .i64 rp, .int .i64 sq] 42 W8) := HAr.out.below hB58
      have HF8 : Hid (HFirm G W8 (.slice (some (⟨bL, oL, none⟩ : Addr)) L.length cy) L) := HFm.out.below hB58
      have HId8 : Hid (IsI W8 (.slice a7 0 c7) []) := (ho7.isI (by simp)).below hb8
      obtain ⟨y_0, y_1, _, _⟩ := row2_cells HY8.out.out
      obtain ⟨a_0, a_1, a_2, a_3⟩ := row4_cells HA8.out.out
      rw [eW8] at y_0 y_1 a_0 a_1 a_2 a_3
      clear ho7 hb7 hb8 hb78
      go_wp2_with fail
      rw [← eW8]
      clear y_0 y_1 a_0 a_1 a_2 a_3
      refine (refOwn_any _ L rp sq _ HF8.out.isH).mono ?_
      rintro e w9 ⟨rfl, hb9⟩
      (try rw [← edb])
      clear edb eW8
      have HD9 : Hid (RowX db #[.int .i64 0, .int .i64 0, .int .i64 0, .slice a7 0 c7, .int .i64 0, .int .i64 0, .int .i64 0, .int .i64 0, .int .i64 0, .int .i64 0, .int .i64 0, .string ⟨#[]⟩, .string ⟨#[]⟩] 34 w9) := HDr.out.below hb9
      have HB9 : Hid (Below w.heap.size w w9) := HB8.out.trans (hb9.mono HB8.out.size)
      have HY9 : Hid (RowX yb #[.int .i64 50, .slice (some (⟨bL, oL, none⟩ : Addr)) L.length cy] 29 w9) := HY8.out.below hb9
      have HA9 : Hid (RowX ab #[.int .i64 c, .int .i64 r, .int .i64 rp, .int .i64 sq] 42 w9) := HA8.out.below hb9
      have HF9 : Hid (HFirm G w9 (.slice (some (⟨bL, oL, none⟩ : Addr)) L.length cy) L) := HF8.out.below hb9
      have HId : Hid (IsI w9 (.slice a7 0 c7) []) := HId8.out.below hb9
      clear hb9 HDr HB8 HY8 HA8 HF8 HId8 hB58
      obtain ⟨a_0, a_1, a_2, a_3⟩ := row4_cells HA9.out.out
      generalize ownP L rp sq = op at *
      obtain ⟨d_0, d_1, d_2, d_3, d_4, d_5, d_6, d_7, d_8, d_9, d_10, d_11, d_12⟩ := row_cells HD9.out.out
      have q1 : rp < 0 ∨ (¬ rp < 0 ∧ 64 ≤ rp) := by omega
      clear hr hres
      rcases q1 with q1 | ⟨q1, q2⟩
      · go_wp2_with fail
        refine (refSameCh_eq 0 0 0 _ _ 0 0 0 0 0 0 0 ⟨#[]⟩ ⟨#[]⟩ [] _ HId.out (IsI.non 0)).mono ?_
        rintro e wa ⟨rfl, hba⟩
        have HBa : Hid (Below w.heap.size w wa) := HB9.out.trans (hba.mono HB9.out.size)
        clear hba
        go_wp2_with fail
        refine (awake_any _).mono ?_
        rintro e wb ⟨rfl, hbb⟩
        have HBe : Hid (Below w.heap.size w wb) := HBa.out.trans (hbb.mono HBa.out.size)
        clear hbb
        go_wp2
        go_ret
        exact ⟨rfl, HBe.out⟩
      · go_wp2_with fail
        refine (refSameCh_eq 0 0 0 _ _ 0 0 0 0 0 0 0 ⟨#[]⟩ ⟨#[]⟩ [] _ HId.out (IsI.non 0)).mono ?_
        rintro e wa ⟨rfl, hba⟩
        have HBa : Hid (Below w.heap.size w wa) := HB9.out.trans (hba.mono HB9.out.size)
        clear hba
        go_wp2_with fail
        refine (awake_any _).mono ?_
        rintro e wb ⟨rfl, hbb⟩
        have HBe : Hid (Below w.heap.size w wb) := HBa.out.trans (hbb.mono HBa.out.size)
        clear hbb
        go_wp2
        go_ret
        exact ⟨rfl, HBe.out⟩

end Go.Proofs.YtckipepodohnpaaGreat

namespace Go.Proofs.YtckipepodohnpaaGreat
open Go.ChangeShapes Go.WideShapes Go.ChangeAt Go.RowKit
open Go.ChangeMaps (open_string shut_string)
set_option linter.unusedVariables false

set_option maxRecDepth 100000 in
theorem oplogFinds_lifted (os : Os) (started : os.Started) (H : Type) (enc : TypeId × Value → H) :
    ReturnsInHanded {} Tryz.checked os 4 .any (Rows.oplogFindsSpec.pre6 enc Tryz.prog Tryz.f4 Rows.oplogFindsRow.domain false) (Rows.oplogFindsSpec.post enc Tryz.prog Tryz.f4 false true false false) := by
  refine returnsInHanded_of_change_sized (C := Tryz.checked) ownI started (by kernel_rfl) Tryz.func4
    (ChangeSpec.witness6 (enc := enc) (C := Tryz.checked) false ⟨#[], #[.slice none 0 0, .agg #[.int .i64 0, .int .i64 0, .int .i64 0, .int .i64 0]], []⟩ 8 (by kernel_rfl) (by kernel_rfl) (by kernel_rfl) (by kernel_rfl)) ?_
  intro W base args ds gs before hval0 hW _ hsz0 _
  have hval : ∀ (j : Nat) t v, Tryz.f4.params[j]? = some t → args[j]? = some v → Value.okWide Tryz.prog W .any base t v := hval0
  have hW' := hW
  obtain ⟨p, q, hA0, hV, rfl, hfz, hnd⟩ := hW
  have hA : DataW.TrodAll enc Tryz.prog W 0 (fun _ => true) true Tryz.f4.params.toList args.toList ds p := hA0
  rw [Tryz.params4] at hA hval
  obtain ⟨v0, v1, d0, d1, p0, p1, rfl, rfl, rfl, h0, h1⟩ := trodAll_two hA
  obtain ⟨rfl, rfl⟩ := trodVars_none hV
  have hk0 := h0
  have hk1 := h1
  obtain ⟨c1, r1, rp1, sq1, ev1⟩ := open_ask (hval 1 42 v1 rfl rfl) h1
  subst ev1
  have hsz : (DataW.weightsEach Tryz.prog (Tryz.f4.params.toList ++ Rows.oplogFindsSpec.plain.varTypes Tryz.prog) (_ ++ _)).all (· ≤ reachBytes) = true := hsz0
  rw [Tryz.params4] at hsz
  have hw0 : ∀ n ∈ d0.weights Tryz.prog 22, n ≤ reachBytes := fun n hn => by
    have h1 := List.all_eq_true.1 hsz n (DataW.weights_mem_each (j := 0) rfl rfl n hn)
    simpa using h1
  obtain ⟨D0, is0, hl0⟩ := open_chsV (hval 0 22 v0 rfl rfl) h0 hw0
  have hlt0 : ∀ x ∈ p0, x.block < W.heap.size := fun x hx => by simpa using hW'.lt x (by simp [hx])
  have hlt1 : ∀ x ∈ p1, x.block < W.heap.size := fun x hx => by simpa using hW'.lt x (by simp [hx])
  clear hA0 hval0
  refine (findsLaw_any v0 D0 c1 r1 rp1 sq1 W is0).mono fun e W' ⟨he, bel⟩ => ?_
  subst he
  exact ⟨_, rfl, _, _, _, [], _, [], hW', trodAll_mk1 (shut_bool Tryz.underlying4 _), trodAll_mk2 (Below.trod laidOutI (by kernel_rfl) (of_decide_eq_true (by kernel_rfl)) hk0 bel hlt0) (Below.trod laidOutI (by kernel_rfl) (of_decide_eq_true (by kernel_rfl)) hk1 bel hlt1), rfl, bel.frame _, fun h => by cases h⟩

theorem oplogFinds_holds : Rows.OplogFindsSaid :=
  OpenClaim.holds_of_wide 4 Tryz.f4 rfl rfl rfl rfl rfl rfl rfl ⟨rfl, rfl, rfl, rfl, rfl⟩ rfl rfl rfl rfl rfl (by kernel_rfl) Tryz.func4 (by kernel_rfl)
    (of_decide_eq_true (by kernel_rfl)) (by unfold Func.isWrapper; first | (rw [if_pos (by decide +kernel)]; kernel_rfl) | (rw [if_neg (by decide +kernel)]; exact ⟨rfl, rfl⟩))
    (fun os started H enc _ => oplogFinds_lifted os started H enc)
#print axioms oplogFinds_holds
end Go.Proofs.YtckipepodohnpaaGreat
