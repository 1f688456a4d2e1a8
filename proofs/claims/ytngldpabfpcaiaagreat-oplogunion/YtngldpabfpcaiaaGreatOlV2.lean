/- What checkNew does. -/
import Derived.Test.YtngldpabfpcaiaaGreatTk
import Derived.Test.YtngldpabfpcaiaaGreatOlV1
import Derived.Test.YtngldpabfpcaiaaGreatOlS
namespace Go.Proofs.YtngldpabfpcaiaaGreat
open Go.RowKit
set_option linter.unusedVariables false
set_option linter.unusedSimpArgs false

theorem step_store_new {P : Program} {ops : Array Oper} {o : Oper} {a : Act} {w : World} {K : Act → World → Prop} {Q : Exit → Act → World → Prop} {E : Prop} (hgd : o.guard = none) (ty : TypeId) (x y : Operand) (ho : o.op = .store ty x y)
    (c c' : Array Value) (hx : a.eval x = .pointer (some ⟨w.heap.size, 0, none⟩)) (hy : a.eval y = .agg c')
    (hi : (P.info? ty).map (·.size) = some c'.size) (hs : c.size = c'.size) (h1 : c'.all (·.oneCell') = true)
    (h : K (a.put o.dst undef) (w.alloc (.cells c' ty))) : if Region.wanted o (yielded ops a.tmps) = true then Oper.wp P o a (w.alloc (.cells c ty)) K Q else E := by
  have hw : Region.wanted o (yielded ops a.tmps) = true := by simp [Region.wanted, hgd]
  rw [if_pos hw]
  exact wp_store_new ty x y ho c c' hx hy hi hs h1 h
def KeptD (w0 : World) (b : Nat) (cs : List Value) (w : World) : Prop := KeptC w0 b cs w
theorem KeptD.below {w0 : World} {b : Nat} {cs : List Value} {W W' : World} (h : KeptD w0 b cs W) (hb : Below W.heap.size W W') : KeptD w0 b cs W' := KeptC.step h hb
theorem KeptD.step {w0 : World} {b : Nat} {cs : List Value} {W W' : World} (h : KeptD w0 b cs W) (hb : Below W.heap.size W W') : KeptC w0 b cs W' := KeptC.step h hb
theorem getD_get {F : Nat → Prop} {w : World} {lb : Nat} {room : Int} {L : List Ch} {mb : Nat} {ord : Value} {own : List Value} {D : List (Ch × Value)} (h : LogIs F w lb room L mb ord own D) (hs : Srt L) (a r : Int) : (∃ x, getD D a r = some x ∧ getL L a r = some x.1 ∧ x ∈ D) ∨ (getD D a r = none ∧ getL L a r = none) := by
  cases e : getD D a r with
  | some x =>
    refine .inl ⟨x, rfl, ?_, List.mem_of_find?_eq_some e⟩
    have h2 := List.find?_some e
    simp only [isAt, decide_eq_true_eq] at h2
    exact (getL_some hs).2 ⟨(h.hmem x.1).2 ⟨x.2, List.mem_of_find?_eq_some e⟩, h2⟩
  | none =>
    refine .inr ⟨rfl, getL_none.2 fun c hc hat => ?_⟩
    obtain ⟨dv, hd⟩ := (h.hmem c).1 hc
    have := List.find?_eq_none.1 e (c, dv) hd
    simp [isAt, hat.1, hat.2] at this

set_option maxRecDepth 100000 in
set_option maxHeartbeats 4000000 in
theorem checkNew_any (F : Nat → Prop) (lb : Nat) (room : Int) (L : List Ch) (ac ar sq : Int) (dv : Value) (kd nc nr pc pr fc fr : Int) (nm vl : ByteArray) (ds : List Int) (w : World) (h : LogOk F w lb room L) (hs : Srt L) (hd : IsI w dv ds) (h0 : 0 ≤ ar) (h1 : ar < 64) :
    Calls Tryz.prog 40 #[.pointer (some ⟨lb, 0, none⟩), .agg #[.int .i64 ac, .int .i64 ar, .int .i64 sq, dv, .int .i64 kd, .int .i64 nc, .int .i64 nr, .int .i64 pc, .int .i64 pr, .int .i64 fc, .int .i64 fr, .string nm, .string vl]] w fun e w' => e = .returned (.int .i64 (newC L ⟨ac, ar, sq, ds, kd, nc, nr, pc, pr, fc, fr, nm, vl⟩)) ∧ Below w.heap.size w w' := by
  obtain ⟨r, hr⟩ := Int.eq_ofNat_of_zero_le h0
  subst hr
  obtain ⟨mb, ord, own, D, h⟩ := h
  obtain ⟨a0, c0, e0⟩ := hd.form
  subst e0
  have K0 := KeptC.start w [.int .i64 ac, .int .i64 (r : Int), .int .i64 sq, .slice a0 ds.length c0, .int .i64 kd, .int .i64 nc, .int .i64 nr, .int .i64 pc, .int .i64 pr, .int .i64 fc, .int .i64 fr, .string nm, .string vl] 38
  obtain ⟨W0, eW⟩ : ∃ X, X = w.alloc (.cells #[.int .i64 ac, .int .i64 (r : Int), .int .i64 sq, .slice a0 ds.length c0, .int .i64 kd, .int .i64 nc, .int .i64 nr, .int .i64 pc, .int .i64 pr, .int .i64 fc, .int .i64 fr, .string nm, .string vl] 38) := ⟨_, rfl⟩
  have HK : Hid (KeptC w w.heap.size [.int .i64 ac, .int .i64 (r : Int), .int .i64 sq, .slice a0 ds.length c0, .int .i64 kd, .int .i64 nc, .int .i64 nr, .int .i64 pc, .int .i64 pr, .int .i64 fc, .int .i64 fr, .string nm, .string vl] W0) := by rw [eW]; exact K0
  have HL : Hid (LogIs F W0 lb room L mb ord own D) := h.below HK.out.2.2
  have HI : Hid (IsI W0 (.slice a0 ds.length c0) ds) := hd.below HK.out.2.2
  have hlen := h.len
  have HS : Hid (Srt L) := hs
  clear K0

  have hro : r < own.length := by omega
  have HKx : Hid (KeptD w w.heap.size [.int .i64 ac, .int .i64 (r : Int), .int .i64 sq, .slice a0 ds.length c0, .int .i64 kd, .int .i64 nc, .int .i64 nr, .int .i64 pc, .int .i64 pr, .int .i64 fc, .int .i64 fr, .string nm, .string vl] W0) := HK
  have HLx : Hid (LogIs F W0 lb room L mb ord own D) := HL
  have HIx : Hid (IsI W0 (.slice a0 ds.length c0) ds) := HI
  rcases getD_get h hs ac (r : Int) with ⟨x, hgd, hgl, hx⟩ | ⟨hgd, hgl⟩
  · obtain ⟨⟨ac2, ar2, sq2, ds2, kd2, nc2, nr2, pc2, pr2, fc2, fr2, nm2, vl2⟩, dv2⟩ := x
    have hdx := h.hdep _ hx
    have hi2 : IsI w dv2 ds2 := hdx.1.isI hdx.2.2
    obtain ⟨a2, c2, e2⟩ := hi2.form
    subst e2
    have HGD : Hid (getD D ac (r : Int) = some ((⟨ac2, ar2, sq2, ds2, kd2, nc2, nr2, pc2, pr2, fc2, fr2, nm2, vl2⟩ : Ch), .slice a2 ds2.length c2)) := hgd
    have HG : Hid (getL L ac (r : Int) = some (⟨ac2, ar2, sq2, ds2, kd2, nc2, nr2, pc2, pr2, fc2, fr2, nm2, vl2⟩ : Ch)) := hgl
    have HI2 : Hid (IsI W0 (.slice a2 ds2.length c2) ds2) := hi2.below HK.out.2.2
    clear h hs hd hgd hgl hx hdx hi2 hro
    go_enter Tryz.func40, Tryz.ntmps40
    go_wp2
    rw [← eW]
    clear eW
    refine wp_region_held_drew (S := fun W' => KeptC w w.heap.size [.int .i64 ac, .int .i64 (r : Int), .int .i64 sq, .slice a0 ds.length c0, .int .i64 kd, .int .i64 nc, .int .i64 nr, .int .i64 pc, .int .i64 pr, .int .i64 fc, .int .i64 fr, .string nm, .string vl] W' ∧ LogIs F W' lb room L mb ord own D) (by kernel_rfl) ⟨HK.out.drew, HL.out.below (Below.refl _ _).drew⟩ (fun hHeld => ?_)
    obtain ⟨Un1u0, eW⟩ : ∃ X, X = W0.drew := ⟨_, rfl⟩
    have hb : Below W0.heap.size W0 Un1u0 := by rw [eW]; exact (Below.refl _ _).drew
    replace HKx : Hid (KeptD w w.heap.size [.int .i64 ac, .int .i64 (r : Int), .int .i64 sq, .slice a0 ds.length c0, .int .i64 kd, .int .i64 nc, .int .i64 nr, .int .i64 pc, .int .i64 pr, .int .i64 fc, .int .i64 fr, .string nm, .string vl] Un1u0) := HKx.out.below hb
    replace HLx : Hid (LogIs F Un1u0 lb room L mb ord own D) := HLx.out.below hb
    replace HIx : Hid (IsI Un1u0 (.slice a0 ds.length c0) ds) := HIx.out.below hb
    replace HI2 : Hid (IsI Un1u0 (.slice a2 ds2.length c2) ds2) := HI2.out.below hb
    rw [← eW] at hHeld ⊢
    clear eW hb
    refine tkW 0 (some 8) (v := ?_) ?_ hHeld ?_
    rotate_left
    · (intro w _; go_simp; try with_reducible rfl)
    refine tkW 1 (some 9) (v := ?_) ?_ hHeld ?_
    rotate_left
    · (intro w hSw; (try dsimp only at hSw); obtain ⟨hk, hlg⟩ := hSw; obtain ⟨k_0, k_1, k_2, k_3, k_4, k_5, k_6, k_7, k_8, k_9, k_10, k_11, k_12⟩ := hk.all; have lc1 := hlg.cell1; have hlk : (Instr.lookup 73 (.map (some mb)) (.agg #[.int .i64 ac, .int .i64 (r : Int)]) true).run Tryz.prog w = .ok (.tuple #[.agg #[.int .i64 ac2, .int .i64 ar2, .int .i64 sq2, .slice a2 ds2.length c2, .int .i64 kd2, .int .i64 nc2, .int .i64 nr2, .int .i64 pc2, .int .i64 pr2, .int .i64 fc2, .int .i64 fr2, .string nm2, .string vl2], .bool true]) w := (by have h0 := look_st hlg.hmap ac (r : Int); rw [HGD.out] at h0; exact h0); go_simp; try with_reducible rfl)
    refine tkW 2 (some 10) (v := ?_) ?_ hHeld ?_
    rotate_left
    · (intro w _; go_simp; try with_reducible rfl)
    refine tkW 3 (some 11) (v := ?_) ?_ hHeld ?_
    rotate_left
    · (intro w hSw; (try dsimp only at hSw); obtain ⟨hk, hlg⟩ := hSw; obtain ⟨k_0, k_1, k_2, k_3, k_4, k_5, k_6, k_7, k_8, k_9, k_10, k_11, k_12⟩ := hk.all; have lc1 := hlg.cell1; have hlk : (Instr.lookup 73 (.map (some mb)) (.agg #[.int .i64 ac, .int .i64 (r : Int)]) true).run Tryz.prog w = .ok (.tuple #[.agg #[.int .i64 ac2, .int .i64 ar2, .int .i64 sq2, .slice a2 ds2.length c2, .int .i64 kd2, .int .i64 nc2, .int .i64 nr2, .int .i64 pc2, .int .i64 pr2, .int .i64 fc2, .int .i64 fr2, .string nm2, .string vl2], .bool true]) w := (by have h0 := look_st hlg.hmap ac (r : Int); rw [HGD.out] at h0; exact h0); go_simp; try with_reducible rfl)
    refine tkW 4 (some 12) (v := ?_) ?_ hHeld ?_
    rotate_left
    · (intro w _; go_simp; try with_reducible rfl)
    refine tkW 5 (some 13) (v := ?_) ?_ hHeld ?_
    rotate_left
    · (intro w hSw; (try dsimp only at hSw); obtain ⟨hk, hlg⟩ := hSw; obtain ⟨k_0, k_1, k_2, k_3, k_4, k_5, k_6, k_7, k_8, k_9, k_10, k_11, k_12⟩ := hk.all; have lc1 := hlg.cell1; have hlk : (Instr.lookup 73 (.map (some mb)) (.agg #[.int .i64 ac, .int .i64 (r : Int)]) true).run Tryz.prog w = .ok (.tuple #[.agg #[.int .i64 ac2, .int .i64 ar2, .int .i64 sq2, .slice a2 ds2.length c2, .int .i64 kd2, .int .i64 nc2, .int .i64 nr2, .int .i64 pc2, .int .i64 pr2, .int .i64 fc2, .int .i64 fr2, .string nm2, .string vl2], .bool true]) w := (by have h0 := look_st hlg.hmap ac (r : Int); rw [HGD.out] at h0; exact h0); go_simp; try with_reducible rfl)
    refine tkW 6 (some 14) (v := ?_) ?_ hHeld ?_
    rotate_left
    · (intro w hSw; (try dsimp only at hSw); obtain ⟨hk, hlg⟩ := hSw; obtain ⟨k_0, k_1, k_2, k_3, k_4, k_5, k_6, k_7, k_8, k_9, k_10, k_11, k_12⟩ := hk.all; have lc1 := hlg.cell1; have hlk : (Instr.lookup 73 (.map (some mb)) (.agg #[.int .i64 ac, .int .i64 (r : Int)]) true).run Tryz.prog w = .ok (.tuple #[.agg #[.int .i64 ac2, .int .i64 ar2, .int .i64 sq2, .slice a2 ds2.length c2, .int .i64 kd2, .int .i64 nc2, .int .i64 nr2, .int .i64 pc2, .int .i64 pr2, .int .i64 fc2, .int .i64 fr2, .string nm2, .string vl2], .bool true]) w := (by have h0 := look_st hlg.hmap ac (r : Int); rw [HGD.out] at h0; exact h0); go_simp; try with_reducible rfl)
    refine tkW 7 (some 7) (v := ?_) ?_ hHeld ?_
    rotate_left
    · (intro w _; go_simp; try with_reducible rfl)
    refine tkW 8 (some 15) (v := ?_) ?_ hHeld ?_
    rotate_left
    · (intro w _; go_simp; try with_reducible rfl)
    refine tkW 9 (some 16) (v := ?_) ?_ hHeld ?_
    rotate_left
    · (intro w _; go_simp; try with_reducible rfl)
    refine wpAnyH_ready (rs := [10]) (by kernel_rfl) (by simp) ?_
    refine AllReadyH.cons (o := ⟨some 5, _, _, _, _, _⟩) rfl (fun K hK => ?_) AllReadyH.nil
    go_simp
    refine hK.out _ _ (⟨hHeld.1.step ((Below.refl _ _).alloc (Nat.le_refl _) _), hHeld.2.below ((Below.refl _ _).alloc (Nat.le_refl _) _)⟩) (fun hHeld2 => ?_)
    clear hK K hHeld
    have hHeld := hHeld2
    clear hHeld2
    (try simp only [Act.put, List.setIfInBounds_toArray, List.set_cons_zero, List.set_cons_succ])
    refine wpAnyH_ready (rs := [11]) (by kernel_rfl) (by simp) ?_
    refine AllReadyH.cons (o := ⟨none, _, _, _, _, _⟩) rfl (fun K hK => ?_) AllReadyH.nil
    refine step_store_new rfl 38 (.tmp 5) (.tmp 15) rfl _ _ rfl rfl sizeChange rfl (by simp [Value.oneCell']) ?_
    obtain ⟨Un1u2, eW⟩ : ∃ Y, Y = Un1u0.alloc (.cells #[.int .i64 ac2, .int .i64 ar2, .int .i64 sq2, .slice a2 ds2.length c2, .int .i64 kd2, .int .i64 nc2, .int .i64 nr2, .int .i64 pc2, .int .i64 pr2, .int .i64 fc2, .int .i64 fr2, .string nm2, .string vl2] 38) := ⟨_, rfl⟩
    have hb : Below Un1u0.heap.size Un1u0 Un1u2 := by rw [eW]; exact (Below.refl _ _).alloc (Nat.le_refl _) _
    have HM0 : Hid (KeptC Un1u0 Un1u0.heap.size [.int .i64 ac2, .int .i64 ar2, .int .i64 sq2, .slice a2 ds2.length c2, .int .i64 kd2, .int .i64 nc2, .int .i64 nr2, .int .i64 pc2, .int .i64 pr2, .int .i64 fc2, .int .i64 fr2, .string nm2, .string vl2] Un1u2) := by rw [eW]; exact KeptC.start Un1u0 [.int .i64 ac2, .int .i64 ar2, .int .i64 sq2, .slice a2 ds2.length c2, .int .i64 kd2, .int .i64 nc2, .int .i64 nr2, .int .i64 pc2, .int .i64 pr2, .int .i64 fc2, .int .i64 fr2, .string nm2, .string vl2] 38
    have HK2 : Hid (KeptC w w.heap.size [.int .i64 ac, .int .i64 (r : Int), .int .i64 sq, .slice a0 ds.length c0, .int .i64 kd, .int .i64 nc, .int .i64 nr, .int .i64 pc, .int .i64 pr, .int .i64 fc, .int .i64 fr, .string nm, .string vl] Un1u2) := HKx.out.step hb
    have HL2 : Hid (LogIs F Un1u2 lb room L mb ord own D) := HLx.out.below hb
    rw [← eW]
    refine hK.out _ _ (⟨HK2.out, HL2.out⟩) (fun hHeld2 => ?_)
    clear hK K hHeld
    have hHeld := hHeld2
    clear hHeld2
    (try simp only [Act.put, List.setIfInBounds_toArray, List.set_cons_zero, List.set_cons_succ])
    clear eW hb
    refine tkW 12 (some 6) (v := ?_) ?_ hHeld ?_
    rotate_left
    · (intro w _; go_simp; try with_reducible rfl)
    refine wpAnyH_done (by kernel_rfl) ?_ _
    clear hHeld
    obtain ⟨k_0, k_1, k_2, k_3, k_4, k_5, k_6, k_7, k_8, k_9, k_10, k_11, k_12⟩ := HK2.out.all
    obtain ⟨m_0, m_1, m_2, m_3, m_4, m_5, m_6, m_7, m_8, m_9, m_10, m_11, m_12⟩ := HM0.out.all
    go_wp2_with fail
    refine (same_any ac2 ar2 sq2 (.slice a2 ds2.length c2) kd2 nc2 nr2 pc2 pr2 fc2 fr2 nm2 vl2 ac (r : Int) sq (.slice a0 ds.length c0) kd nc nr pc pr fc fr nm vl ds2 ds _ (HI2.out.below HM0.out.2.2) (HIx.out.below HM0.out.2.2)).mono ?_
    rintro e w9 ⟨rfl, hb9⟩
    have HB9 : Hid (Below w.heap.size w w9) := HK2.out.2.2.trans (hb9.mono HK2.out.2.2.size)
    have HE2 : Hid (newC L (⟨ac, (r : Int), sq, ds, kd, nc, nr, pc, pr, fc, fr, nm, vl⟩ : Ch) = if sameB (⟨ac2, ar2, sq2, ds2, kd2, nc2, nr2, pc2, pr2, fc2, fr2, nm2, vl2⟩ : Ch) (⟨ac, (r : Int), sq, ds, kd, nc, nr, pc, pr, fc, fr, nm, vl⟩ : Ch) = true then 5 else 7) := by show _ = _; unfold newC; rw [HG.out]
    obtain ⟨sb, hsb⟩ : ∃ b, b = sameB (⟨ac2, ar2, sq2, ds2, kd2, nc2, nr2, pc2, pr2, fc2, fr2, nm2, vl2⟩ : Ch) (⟨ac, (r : Int), sq, ds, kd, nc, nr, pc, pr, fc, fr, nm, vl⟩ : Ch) := ⟨_, rfl⟩
    rw [← hsb]
    have HSB : Hid (sb = sameB (⟨ac2, ar2, sq2, ds2, kd2, nc2, nr2, pc2, pr2, fc2, fr2, nm2, vl2⟩ : Ch) (⟨ac, (r : Int), sq, ds, kd, nc, nr, pc, pr, fc, fr, nm, vl⟩ : Ch)) := hsb
    clear hsb hb9
    cases sb
    · go_wp2
      go_ret
      exact ⟨ret_int (by rw [HE2.out, ← HSB.out]; rfl), HB9.out⟩
    · go_wp2
      go_ret
      exact ⟨ret_int (by rw [HE2.out, ← HSB.out]; rfl), HB9.out⟩
  · have HGD : Hid (getD D ac (r : Int) = none) := hgd
    have HG : Hid (getL L ac (r : Int) = none) := hgl
    have k0 : (0 : Int) ≤ (r : Int) := by omega
    have k64 : (r : Int) < 64 := by omega
    clear h hs hd hgd hgl
    go_enter Tryz.func40, Tryz.ntmps40
    go_wp2
    rw [← eW]
    clear eW
    refine wp_region_held_drew (S := fun W' => KeptC w w.heap.size [.int .i64 ac, .int .i64 (r : Int), .int .i64 sq, .slice a0 ds.length c0, .int .i64 kd, .int .i64 nc, .int .i64 nr, .int .i64 pc, .int .i64 pr, .int .i64 fc, .int .i64 fr, .string nm, .string vl] W' ∧ LogIs F W' lb room L mb ord own D) (by kernel_rfl) ⟨HK.out.drew, HL.out.below (Below.refl _ _).drew⟩ (fun hHeld => ?_)
    obtain ⟨Um2u0, eW⟩ : ∃ X, X = W0.drew := ⟨_, rfl⟩
    have hb : Below W0.heap.size W0 Um2u0 := by rw [eW]; exact (Below.refl _ _).drew
    replace HKx : Hid (KeptD w w.heap.size [.int .i64 ac, .int .i64 (r : Int), .int .i64 sq, .slice a0 ds.length c0, .int .i64 kd, .int .i64 nc, .int .i64 nr, .int .i64 pc, .int .i64 pr, .int .i64 fc, .int .i64 fr, .string nm, .string vl] Um2u0) := HKx.out.below hb
    replace HLx : Hid (LogIs F Um2u0 lb room L mb ord own D) := HLx.out.below hb
    replace HIx : Hid (IsI Um2u0 (.slice a0 ds.length c0) ds) := HIx.out.below hb
    rw [← eW] at hHeld ⊢
    clear eW hb
    refine tkW 0 (some 8) (v := ?_) ?_ hHeld ?_
    rotate_left
    · (intro w _; go_simp; try with_reducible rfl)
    refine tkW 1 (some 9) (v := ?_) ?_ hHeld ?_
    rotate_left
    · (intro w hSw; (try dsimp only at hSw); obtain ⟨hk, hlg⟩ := hSw; obtain ⟨k_0, k_1, k_2, k_3, k_4, k_5, k_6, k_7, k_8, k_9, k_10, k_11, k_12⟩ := hk.all; have lc1 := hlg.cell1; have hlk : (Instr.lookup 73 (.map (some mb)) (.agg #[.int .i64 ac, .int .i64 (r : Int)]) true).run Tryz.prog w = .ok (.tuple #[.agg #[.int .i64 0, .int .i64 0, .int .i64 0, .slice none 0 0, .int .i64 0, .int .i64 0, .int .i64 0, .int .i64 0, .int .i64 0, .int .i64 0, .int .i64 0, .string ⟨#[]⟩, .string ⟨#[]⟩], .bool false]) w := (by have h0 := look_st hlg.hmap ac (r : Int); rw [HGD.out] at h0; exact h0); go_simp; try with_reducible rfl)
    refine tkW 2 (some 10) (v := ?_) ?_ hHeld ?_
    rotate_left
    · (intro w _; go_simp; try with_reducible rfl)
    refine tkW 3 (some 11) (v := ?_) ?_ hHeld ?_
    rotate_left
    · (intro w hSw; (try dsimp only at hSw); obtain ⟨hk, hlg⟩ := hSw; obtain ⟨k_0, k_1, k_2, k_3, k_4, k_5, k_6, k_7, k_8, k_9, k_10, k_11, k_12⟩ := hk.all; have lc1 := hlg.cell1; have hlk : (Instr.lookup 73 (.map (some mb)) (.agg #[.int .i64 ac, .int .i64 (r : Int)]) true).run Tryz.prog w = .ok (.tuple #[.agg #[.int .i64 0, .int .i64 0, .int .i64 0, .slice none 0 0, .int .i64 0, .int .i64 0, .int .i64 0, .int .i64 0, .int .i64 0, .int .i64 0, .int .i64 0, .string ⟨#[]⟩, .string ⟨#[]⟩], .bool false]) w := (by have h0 := look_st hlg.hmap ac (r : Int); rw [HGD.out] at h0; exact h0); go_simp; try with_reducible rfl)
    refine tkW 4 (some 12) (v := ?_) ?_ hHeld ?_
    rotate_left
    · (intro w _; go_simp; try with_reducible rfl)
    refine tkW 5 (some 13) (v := ?_) ?_ hHeld ?_
    rotate_left
    · (intro w hSw; (try dsimp only at hSw); obtain ⟨hk, hlg⟩ := hSw; obtain ⟨k_0, k_1, k_2, k_3, k_4, k_5, k_6, k_7, k_8, k_9, k_10, k_11, k_12⟩ := hk.all; have lc1 := hlg.cell1; have hlk : (Instr.lookup 73 (.map (some mb)) (.agg #[.int .i64 ac, .int .i64 (r : Int)]) true).run Tryz.prog w = .ok (.tuple #[.agg #[.int .i64 0, .int .i64 0, .int .i64 0, .slice none 0 0, .int .i64 0, .int .i64 0, .int .i64 0, .int .i64 0, .int .i64 0, .int .i64 0, .int .i64 0, .string ⟨#[]⟩, .string ⟨#[]⟩], .bool false]) w := (by have h0 := look_st hlg.hmap ac (r : Int); rw [HGD.out] at h0; exact h0); go_simp; try with_reducible rfl)
    refine tkW 6 (some 14) (v := ?_) ?_ hHeld ?_
    rotate_left
    · (intro w hSw; (try dsimp only at hSw); obtain ⟨hk, hlg⟩ := hSw; obtain ⟨k_0, k_1, k_2, k_3, k_4, k_5, k_6, k_7, k_8, k_9, k_10, k_11, k_12⟩ := hk.all; have lc1 := hlg.cell1; have hlk : (Instr.lookup 73 (.map (some mb)) (.agg #[.int .i64 ac, .int .i64 (r : Int)]) true).run Tryz.prog w = .ok (.tuple #[.agg #[.int .i64 0, .int .i64 0, .int .i64 0, .slice none 0 0, .int .i64 0, .int .i64 0, .int .i64 0, .int .i64 0, .int .i64 0, .int .i64 0, .int .i64 0, .string ⟨#[]⟩, .string ⟨#[]⟩], .bool false]) w := (by have h0 := look_st hlg.hmap ac (r : Int); rw [HGD.out] at h0; exact h0); go_simp; try with_reducible rfl)
    refine tkW 7 (some 7) (v := ?_) ?_ hHeld ?_
    rotate_left
    · (intro w _; go_simp; try with_reducible rfl)
    refine tkW 8 (some 15) (v := ?_) ?_ hHeld ?_
    rotate_left
    · (intro w _; go_simp; try with_reducible rfl)
    refine tkW 9 (some 16) (v := ?_) ?_ hHeld ?_
    rotate_left
    · (intro w _; go_simp; try with_reducible rfl)
    refine wpAnyH_ready (rs := [10]) (by kernel_rfl) (by simp) ?_
    refine AllReadyH.cons (o := ⟨some 5, _, _, _, _, _⟩) rfl (fun K hK => ?_) AllReadyH.nil
    go_simp
    refine hK.out _ _ (⟨hHeld.1.step ((Below.refl _ _).alloc (Nat.le_refl _) _), hHeld.2.below ((Below.refl _ _).alloc (Nat.le_refl _) _)⟩) (fun hHeld2 => ?_)
    clear hK K hHeld
    have hHeld := hHeld2
    clear hHeld2
    (try simp only [Act.put, List.setIfInBounds_toArray, List.set_cons_zero, List.set_cons_succ])
    refine wpAnyH_ready (rs := [11]) (by kernel_rfl) (by simp) ?_
    refine AllReadyH.cons (o := ⟨none, _, _, _, _, _⟩) rfl (fun K hK => ?_) AllReadyH.nil
    refine step_store_new rfl 38 (.tmp 5) (.tmp 15) rfl _ _ rfl rfl sizeChange rfl (by simp [Value.oneCell']) ?_
    obtain ⟨Um2u2, eW⟩ : ∃ Y, Y = Um2u0.alloc (.cells #[.int .i64 0, .int .i64 0, .int .i64 0, .slice none 0 0, .int .i64 0, .int .i64 0, .int .i64 0, .int .i64 0, .int .i64 0, .int .i64 0, .int .i64 0, .string ⟨#[]⟩, .string ⟨#[]⟩] 38) := ⟨_, rfl⟩
    have hb : Below Um2u0.heap.size Um2u0 Um2u2 := by rw [eW]; exact (Below.refl _ _).alloc (Nat.le_refl _) _
    have HM0 : Hid (KeptC Um2u0 Um2u0.heap.size [.int .i64 0, .int .i64 0, .int .i64 0, .slice none 0 0, .int .i64 0, .int .i64 0, .int .i64 0, .int .i64 0, .int .i64 0, .int .i64 0, .int .i64 0, .string ⟨#[]⟩, .string ⟨#[]⟩] Um2u2) := by rw [eW]; exact KeptC.start Um2u0 [.int .i64 0, .int .i64 0, .int .i64 0, .slice none 0 0, .int .i64 0, .int .i64 0, .int .i64 0, .int .i64 0, .int .i64 0, .int .i64 0, .int .i64 0, .string ⟨#[]⟩, .string ⟨#[]⟩] 38
    have HK2 : Hid (KeptC w w.heap.size [.int .i64 ac, .int .i64 (r : Int), .int .i64 sq, .slice a0 ds.length c0, .int .i64 kd, .int .i64 nc, .int .i64 nr, .int .i64 pc, .int .i64 pr, .int .i64 fc, .int .i64 fr, .string nm, .string vl] Um2u2) := HKx.out.step hb
    have HL2 : Hid (LogIs F Um2u2 lb room L mb ord own D) := HLx.out.below hb
    rw [← eW]
    refine hK.out _ _ (⟨HK2.out, HL2.out⟩) (fun hHeld2 => ?_)
    clear hK K hHeld
    have hHeld := hHeld2
    clear hHeld2
    (try simp only [Act.put, List.setIfInBounds_toArray, List.set_cons_zero, List.set_cons_succ])
    clear eW hb
    refine tkW 12 (some 6) (v := ?_) ?_ hHeld ?_
    rotate_left
    · (intro w _; go_simp; try with_reducible rfl)
    refine wpAnyH_done (by kernel_rfl) ?_ _
    clear hHeld
    obtain ⟨k_0, k_1, k_2, k_3, k_4, k_5, k_6, k_7, k_8, k_9, k_10, k_11, k_12⟩ := HK2.out.all
    obtain ⟨m_0, m_1, m_2, m_3, m_4, m_5, m_6, m_7, m_8, m_9, m_10, m_11, m_12⟩ := HM0.out.all
    have HE2 : Hid (newC L (⟨ac, (r : Int), sq, ds, kd, nc, nr, pc, pr, fc, fr, nm, vl⟩ : Ch) = if sq ≤ (cntR L (r : Int) : Int) then 7 else 0) := by show _ = _; unfold newC; rw [HG.out]
    have xo := HL2.out.cellr hro
    obtain ⟨a3, c3, e3⟩ := (HL2.out.hown r hro).form
    rw [e3, stL_length] at xo
    have HC : Hid ((ofR L (r : Int)).length = cntR L (r : Int)) := rfl
    rw [HC.out] at xo
    clear e3
    generalize cntR L (r : Int) = n1 at *
    have HB9 : Hid (Below w.heap.size w _) := HK2.out.2.2
    by_cases hn : sq ≤ (n1 : Int)
    · have hnd : decide (sq ≤ (n1 : Int)) = true := by simp [hn]
      go_wp2
      go_quiet (fail)
      go_wp2
      go_ret
      exact ⟨ret_int (by rw [HE2.out, if_pos hn]), below_drewN HB9.out _⟩
    · have hnd : decide (sq ≤ (n1 : Int)) = false := by simp [hn]
      go_wp2
      go_quiet (fail)
      go_wp2
      go_ret
      exact ⟨ret_int (by rw [HE2.out, if_neg (by omega)]), below_drewN HB9.out _⟩

end Go.Proofs.YtngldpabfpcaiaaGreat
