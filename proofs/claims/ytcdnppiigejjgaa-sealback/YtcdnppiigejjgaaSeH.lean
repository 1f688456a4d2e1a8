/- What Open does. -/
import Derived.Test.YtcdnppiigejjgaaSeE
import Derived.Deep.RegionHeld
namespace Go.Proofs.Ytcdnppiigejjgaa
open Go.RowKit
set_option linter.unusedVariables false

/-- 'append(out, b...)' in a region that draws its order. -/
theorem step_appS {w : World} {ops : Array Oper} {o : Oper} {a : Act} {K : Act → World → Prop} {Q : Exit → Act → World → Prop} {E : Prop} (hgd : o.guard = none) (s x : Operand)
    (ho : o.op = .call { callee := .builtin .append, args := #[s, x], argTypes := #[23, 23] })
    (B : Nat) (v : Value) (D : List UInt8) (hs : a.eval s = v) (hown : OwnB B w v D) (hB : B ≤ w.heap.size) (ad : Addr) (m c : Nat) (p : List UInt8) (hx : a.eval x = .slice (some ad) m c) (hv : IsB w (.slice (some ad) m c) p) (hl : D.length + p.length ≤ 140737488355328)
    (h : ∀ v' w', OwnB B w' v' (D ++ p) → w.grownBy w' v.ownBlock → K (a.put o.dst v') w') :
    if Region.wanted o (yielded ops a.tmps) = true then Oper.wp Try.prog o a w K Q else E := by
  obtain ⟨i0, hi, hz0, hz1, hz2⟩ := info_parts infoByte
  have hw : Region.wanted o (yielded ops a.tmps) = true := by simp [Region.wanted, hgd]
  rw [if_pos hw]
  obtain ⟨a1, c1, e, hc1, hl1, r1⟩ := hv
  cases e
  refine wp_append_own _ s x 23 ho B 5 i0 (.int .u8 0) 1 1 Try.underlying23 hi hz0 hz1 hz2 rfl (by decide) _ _ _ hs hown ad p.length c (cellsB p) hx (cellsB_length p) ?_ (cellsB_one p) (by unfold maxLen; omega) (by omega) hB ?_
  · intro j u hj
    rcases r1 with rfl | ⟨b, o, e, g⟩
    · simp [cellsB] at hj
    · cases e
      exact g.news j u hj
  · intro v3 w3 hown3 hgrow _
    exact h v3 w3 (OwnB.more hown3 rfl rfl) hgrow

theorem openL_no {p : List UInt8} (h : frameB p = false) : openL p = (0, [], 2) := by unfold openL; rw [h]; rfl
theorem openL_sum {p : List UInt8} {e : Nat} (h : frameB p = true) (he : p.length = e + 4) (h2 : leL ((p.drop e).take 4) ≠ sumL (p.take e)) : openL p = (0, [], 9) := by
  unfold openL
  rw [h, he, Nat.add_sub_cancel, if_pos rfl, if_neg]
  rwa [List.take_of_length_le (by rw [List.length_drop]; omega)] at h2
theorem openL_yes {p : List UInt8} {e : Nat} (h : frameB p = true) (he : p.length = e + 4) (h2 : leL ((p.drop e).take 4) = sumL (p.take e)) (h0 : 0 < p.length) : openL p = (p[0].toNat, (p.take e).drop 5, 0) := by
  unfold openL
  rw [h, he, Nat.add_sub_cancel, if_pos rfl, if_pos, List.getD_eq_getElem?_getD, List.getElem?_eq_getElem h0]
  · rfl
  · rwa [List.take_of_length_le (by rw [List.length_drop]; omega)] at h2
theorem frameB_nine {p : List UInt8} (h : frameB p = true) : 9 ≤ p.length := by
  rcases Nat.lt_or_ge p.length 9 with h' | h'
  · rw [frameB_short (by omega)] at h; cases h
  · exact h'

theorem frameB_most {p : List UInt8} (h : frameB p = true) : p.length ≤ 65545 := by
  have h9 := frameB_nine h
  rw [frameB_long h9] at h
  simp only [Bool.and_eq_true, decide_eq_true_eq] at h
  omega

set_option maxRecDepth 100000 in
set_option maxHeartbeats 2000000 in
/-- seal.Open. -/
theorem open_any (v : Value) (p : List UInt8) (w : World) (h : IsB w v p) :
    Calls Try.prog 14 #[v] w fun e w' => ∃ v', e = .returned (.tuple #[.int .i64 ((openL p).1 : Int), v', .int .i64 (openL p).2.2]) ∧ OwnB w.heap.size w' v' (openL p).2.1 ∧ Below w.heap.size w w' := by
  have H : Hid (IsB w v p) := h
  obtain ⟨a1, c1, rfl, hc1, hl1, r1⟩ := h
  cases hf : frameB p with
  | false =>
    have HS : Hid (openL p = (0, [], 2)) := openL_no hf
    have HF : Hid (∀ W, IsB W (.slice a1 p.length c1) p → Calls Try.prog 22 #[.slice a1 p.length c1] W fun e w' => e = .returned (.bool false) ∧ w' = W) := fun W hW => by have := isFrame_any _ p W hW; rw [hf] at this; exact this
    clear hf r1
    go_enter Try.func14, Try.ntmps14
    go_wp2_with (go_at_call 22; refine (HF.out _ H.out).mono ?_; rintro e w' ⟨rfl, hw⟩; replace hw := hw.symm; subst hw)
    go_ret3
    exact ⟨_, by rw [HS.out]; rfl, by rw [HS.out]; exact OwnB.nil0 _ _, Below.refl _ _⟩
  | true =>
    have h9 := frameB_nine hf
    obtain ⟨b1, o1, rfl, g1⟩ := r1.resolve_left (by intro e; subst e; simp at h9)
    obtain ⟨e, he⟩ : ∃ e, p.length = e + 4 := ⟨p.length - 4, by omega⟩
    have he5 : 5 ≤ e := by omega
    have HF : Hid (∀ W, IsB W (.slice (some ⟨b1, o1, none⟩) p.length c1) p → Calls Try.prog 22 #[.slice (some ⟨b1, o1, none⟩) p.length c1] W fun e w' => e = .returned (.bool true) ∧ w' = W) := fun W hW => by have := isFrame_any _ p W hW; rw [hf] at this; exact this
    have HHE : Hid (p.length = e + 4) := he
    rw [he] at HF H hc1 hl1 ⊢
    clear r1 g1 h9 he
    go_enter Try.func14, Try.ntmps14
    go_wp2_with (go_at_call 22; refine (HF.out _ H.out).mono ?_; rintro e w' ⟨rfl, hw⟩; replace hw := hw.symm; subst hw)
    have HW : Hid (∀ W, IsB W (.slice (some ⟨b1, o1 + e, none⟩) 4 (c1 - e)) ((p.drop e).take 4) → Calls Try.prog 23 #[.slice (some ⟨b1, o1 + e, none⟩) 4 (c1 - e)] W fun e' w' => e' = .returned (.int .u32 (leL ((p.drop e).take 4) : Int)) ∧ w' = W) := fun W hW => by
      have := word_any _ _ W hW (by rw [List.length_take, List.length_drop, HHE.out]; omega)
      rw [List.take_of_length_le (by rw [List.length_take]; omega)] at this
      exact this
    have HSub : Hid (∀ W, IsB W (.slice (some ⟨b1, o1, none⟩) (e + 4) c1) p → IsB W (.slice (some ⟨b1, o1 + e, none⟩) 4 (c1 - e)) ((p.drop e).take 4)) := fun W hW => by
      have h1 := hW
      rw [← HHE.out] at h1
      have h2 := h1.sub e 4 (by rw [HHE.out]; omega)
      rw [Option.map_some, Addr.add_lit] at h2
      exact h2
    have HHd : Hid (∀ W, IsB W (.slice (some ⟨b1, o1, none⟩) (e + 4) c1) p → IsB W (.slice (some ⟨b1, o1, none⟩) e c1) (p.take e)) := fun W hW => by
      have h1 := hW
      rw [← HHE.out] at h1
      exact h1.head e (by rw [HHE.out]; omega)
    have h0p : 0 < p.length := by rw [HHE.out]; omega
    have HY : Hid (leL ((p.drop e).take 4) = sumL (p.take e) → openL p = (p[0].toNat, (p.drop 5).take (e - 5), 0)) := fun hq => by rw [← List.drop_take]; exact openL_yes hf HHE.out hq h0p
    have HN : Hid (leL ((p.drop e).take 4) ≠ sumL (p.take e) → openL p = (0, [], 9)) := fun hq => openL_sum hf HHE.out hq
    have HC : Hid (∀ W, IsB W (.slice (some ⟨b1, o1, none⟩) (e + 4) c1) p → W.cell? ⟨b1, o1, none⟩ = some (.int .u8 (p[0].toNat : Int))) := fun W hW => by
      obtain ⟨a, c, e1, _, _, r⟩ := hW
      obtain ⟨b, o, e2, g⟩ := r.resolve_left (by intro e; rw [e] at h0p; simp at h0p)
      rw [e2] at e1
      injection e1 with h1 _ _
      injection h1 with h1
      injection h1 with hb ho _
      subst hb ho
      have := g 0 h0p
      rwa [Nat.add_zero] at this
    have HS5 : Hid (∀ W, IsB W (.slice (some ⟨b1, o1, none⟩) (e + 4) c1) p → IsB W (.slice (some ⟨b1, o1 + 5, none⟩) (e - 5) (c1 - 5)) ((p.drop 5).take (e - 5))) := fun W hW => by
      have h1 := hW
      rw [← HHE.out] at h1
      have h2 := h1.sub 5 (e - 5) (by rw [HHE.out]; omega)
      rw [Option.map_some, Addr.add_lit] at h2
      exact h2
    have HL5 : Hid (([] : List UInt8).length + ((p.drop 5).take (e - 5)).length ≤ 140737488355328) := by have := frameB_most hf; rw [HHE.out] at this; show _ ≤ _; rw [List.length_take, List.length_drop, HHE.out]; simp; omega
    have hk0 := UInt8.toNat_lt p[0]
    generalize p[0].toNat = k at *
    have hwr : IntKind.i64.wrap (k : Int) = (k : Int) := by rw [IntKind.wrap_i64]; omega
    have hce : c1 ≠ e := by omega
    have hle1 : (e : Int) ≤ (e : Int) + 4 := by omega
    have hle2 : (e : Int) ≤ (c1 : Int) := by omega
    have hle6 : (0 : Int) < (e : Int) + 4 := by omega
    have hle5 : (5 : Int) ≤ (e : Int) := by omega
    have hce5 : c1 ≠ 5 := by omega
    have hle3 : (0 : Int) ≤ (e : Int) := by omega
    clear hf h0p
    refine wp_region_held_drew (S := fun W' => IsB W' (.slice (some ⟨b1, o1, none⟩) (e + 4) c1) p ∧ Below w.heap.size w W') (by kernel_rfl) ⟨H.out.below ((Below.refl _ _).drew), (Below.refl _ _).drew⟩ (fun hHeld => ?_)
    refine wpAnyH_take (i := 0) (oi := ⟨some 12, _, _, _, _, _⟩) (v := ?vax0) rfl (by kernel_rfl) (by kernel_rfl) (by kernel_rfl) (fun _ _ _ h => h) (Or.inl ⟨by rfl, ?hyax0⟩) hHeld ?restax0
    case hyax0 => (intro w hSw; (try dsimp only at hSw); go_simp; try with_reducible rfl)
    simp only [Act.put, List.setIfInBounds_toArray, List.set_cons_zero, List.set_cons_succ]
    refine wpAnyH_take (i := 1) (oi := ⟨some 13, _, _, _, _, _⟩) (v := ?vax1) rfl (by kernel_rfl) (by kernel_rfl) (by kernel_rfl) (fun _ _ _ h => h) (Or.inl ⟨by rfl, ?hyax1⟩) hHeld ?restax1
    case hyax1 => (intro w hSw; (try dsimp only at hSw); go_simp; try with_reducible rfl)
    simp only [Act.put, List.setIfInBounds_toArray, List.set_cons_zero, List.set_cons_succ]
    refine wpAnyH_take (i := 2) (oi := ⟨some 14, _, _, _, _, _⟩) (v := ?vax2) rfl (by kernel_rfl) (by kernel_rfl) (by kernel_rfl) (fun _ _ _ h => h) (Or.inl ⟨by rfl, ?hyax2⟩) hHeld ?restax2
    case hyax2 => (intro w hSw; (try dsimp only at hSw); go_simp; try with_reducible rfl)
    simp only [Act.put, List.setIfInBounds_toArray, List.set_cons_zero, List.set_cons_succ]
    refine wpAnyH_take (i := 4) (oi := ⟨some 16, _, _, _, _, _⟩) (v := ?vax4) rfl (by kernel_rfl) (by kernel_rfl) (by kernel_rfl) (fun _ _ _ h => h) (Or.inl ⟨by rfl, ?hyax4⟩) hHeld ?restax4
    case hyax4 => (intro w hSw; (try dsimp only at hSw); go_simp; try with_reducible rfl)
    simp only [Act.put, List.setIfInBounds_toArray, List.set_cons_zero, List.set_cons_succ]
    refine wpAnyH_take (i := 5) (oi := ⟨some 17, _, _, _, _, _⟩) (v := ?vax5) rfl (by kernel_rfl) (by kernel_rfl) (by kernel_rfl) (fun _ _ _ h => h) (Or.inl ⟨by rfl, ?hyax5⟩) hHeld ?restax5
    case hyax5 => (intro w hSw; (try dsimp only at hSw); go_simp; try with_reducible rfl)
    simp only [Act.put, List.setIfInBounds_toArray, List.set_cons_zero, List.set_cons_succ]
    refine wpAnyH_take (i := 6) (oi := ⟨some 18, _, _, _, _, _⟩) (v := ?vax6) rfl (by kernel_rfl) (by kernel_rfl) (by kernel_rfl) (fun _ _ _ h => h) (Or.inl ⟨by rfl, ?hyax6⟩) hHeld ?restax6
    case hyax6 => (intro w hSw; (try dsimp only at hSw); go_simp; try with_reducible rfl)
    simp only [Act.put, List.setIfInBounds_toArray, List.set_cons_zero, List.set_cons_succ]
    refine wpAnyH_ready (rs := [3, 7]) (by kernel_rfl) (by simp) ?_
    refine AllReadyH.cons (o := ⟨some 15, _, _, _, _, _⟩) rfl (fun K hK => ?_) (AllReadyH.cons (o := ⟨some 19, _, _, _, _, _⟩) rfl (fun K hK => ?_) AllReadyH.nil)
    · go_simp
      refine (HW.out _ (HSub.out _ hHeld.1)).mono ?_
      rintro e' w' ⟨rfl, hw⟩; replace hw := hw.symm; subst hw
      (try go_wp2_with fail)
      refine hK.out _ _ (hHeld) (fun hHeld2 => ?_)
      clear hK K hHeld
      have hHeld := hHeld2
      clear hHeld2
      (try simp only [Act.put, List.setIfInBounds_toArray, List.set_cons_zero, List.set_cons_succ])
      refine wpAnyH_ready (rs := [7]) (by kernel_rfl) (by simp) ?_
      refine AllReadyH.cons (o := ⟨some 19, _, _, _, _, _⟩) rfl (fun K hK => ?_) AllReadyH.nil
      go_simp
      have hPrev := hHeld
      refine hK.out _ _ (⟨hPrev.1.below ((Below.refl _ _).alloc (Nat.le_refl _) _), hPrev.2.alloc hPrev.2.size _⟩) (fun hHeld2 => ?_)
      clear hK K hHeld
      have hHeld := hHeld2
      clear hHeld2
      (try simp only [Act.put, List.setIfInBounds_toArray, List.set_cons_zero, List.set_cons_succ])
      refine wpAnyH_ready (rs := [8]) (by kernel_rfl) (by simp) ?_
      refine AllReadyH.cons (o := ⟨some 20, _, _, _, _, _⟩) rfl (fun K hK => ?_) AllReadyH.nil
      go_simp
      refine (sum_any _ [p.take e] _ (IsBB.one (HHd.out _ hPrev.1) _)).mono ?_
      rintro e' w' ⟨rfl, hw⟩; replace hw := hw.symm; subst hw; rw [List.flatten_cons, List.flatten_nil, List.append_nil]
      (try go_wp2_with fail)
      refine hK.out _ _ (hHeld) (fun hHeld2 => ?_)
      clear hK K hHeld
      have hHeld := hHeld2
      clear hHeld2
      (try simp only [Act.put, List.setIfInBounds_toArray, List.set_cons_zero, List.set_cons_succ])
      refine wpAnyH_take (i := 9) (oi := ⟨some 21, _, _, _, _, _⟩) (v := ?va_3_7_8x9) rfl (by kernel_rfl) (by kernel_rfl) (by kernel_rfl) (fun _ _ _ h => h) (Or.inl ⟨by rfl, ?hya_3_7_8x9⟩) hHeld ?resta_3_7_8x9
      case hya_3_7_8x9 => (intro w hSw; (try dsimp only at hSw); go_simp; try with_reducible rfl)
      simp only [Act.put, List.setIfInBounds_toArray, List.set_cons_zero, List.set_cons_succ]
      refine wpAnyH_done (by kernel_rfl) ?_ _
      have HBn : Hid (Below w.heap.size w ((w.alloc (.cells #[.slice (some ⟨b1, o1, none⟩) e c1] 23)).drew)) := hHeld.2
      have HIn : Hid (IsB ((w.alloc (.cells #[.slice (some ⟨b1, o1, none⟩) e c1] 23)).drew) (.slice (some ⟨b1, o1, none⟩) (e + 4) c1) p) := hHeld.1
      clear hHeld hPrev
      by_cases hq : leL ((p.drop e).take 4) = sumL (p.take e)
      · have qq : ((leL ((p.drop e).take 4) : Int) != (sumL (p.take e) : Int)) = false := by rw [hq]; simp
        have HS : Hid (openL p = (k, (p.drop 5).take (e - 5), 0)) := HY.out hq
        clear hq
        go_wp2
        refine wp_region_held_drew (S := fun W' => W'.cell? ⟨b1, o1, none⟩ = some (.int .u8 (k : Int)) ∧ IsB W' (.slice (some ⟨b1, o1, none⟩) (e + 4) c1) p ∧ Below w.heap.size w W') (by kernel_rfl) ⟨HC.out _ (HIn.out.below (Below.refl _ _).drew), HIn.out.below (Below.refl _ _).drew, HBn.out.drew⟩ (fun hHeld => ?_)
        refine wpAnyH_take (i := 0) (oi := ⟨some 22, _, _, _, _, _⟩) (v := ?vb3_7_8x0) rfl (by kernel_rfl) (by kernel_rfl) (by kernel_rfl) (fun _ _ _ h => h) (Or.inl ⟨by rfl, ?hyb3_7_8x0⟩) hHeld ?restb3_7_8x0
        case hyb3_7_8x0 => (intro w hSw; (try dsimp only at hSw); go_simp; try with_reducible rfl)
        simp only [Act.put, List.setIfInBounds_toArray, List.set_cons_zero, List.set_cons_succ]
        refine wpAnyH_take (i := 1) (oi := ⟨some 23, _, _, _, _, _⟩) (v := ?vb3_7_8x1) rfl (by kernel_rfl) (by kernel_rfl) (by kernel_rfl) (fun _ _ _ h => h) (Or.inl ⟨by rfl, ?hyb3_7_8x1⟩) hHeld ?restb3_7_8x1
        case hyb3_7_8x1 => (intro w hSw; (try dsimp only at hSw); go_simp; try with_reducible rfl)
        simp only [Act.put, List.setIfInBounds_toArray, List.set_cons_zero, List.set_cons_succ]
        refine wpAnyH_take (i := 2) (oi := ⟨some 24, _, _, _, _, _⟩) (v := ?vb3_7_8x2) rfl (by kernel_rfl) (by kernel_rfl) (by kernel_rfl) (fun _ _ _ h => h) (Or.inl ⟨by rfl, ?hyb3_7_8x2⟩) hHeld ?restb3_7_8x2
        case hyb3_7_8x2 => (intro w hSw; (try dsimp only at hSw); go_simp; try with_reducible rfl)
        simp only [Act.put, List.setIfInBounds_toArray, List.set_cons_zero, List.set_cons_succ]
        refine wpAnyH_take (i := 3) (oi := ⟨some 25, _, _, _, _, _⟩) (v := ?vb3_7_8x3) rfl (by kernel_rfl) (by kernel_rfl) (by kernel_rfl) (fun _ _ _ h => h) (Or.inl ⟨by rfl, ?hyb3_7_8x3⟩) hHeld ?restb3_7_8x3
        case hyb3_7_8x3 => (intro w hSw; (try dsimp only at hSw); go_simp; try with_reducible rfl)
        simp only [Act.put, List.setIfInBounds_toArray, List.set_cons_zero, List.set_cons_succ]
        refine wpAnyH_take (i := 4) (oi := ⟨some 26, _, _, _, _, _⟩) (v := ?vb3_7_8x4) rfl (by kernel_rfl) (by kernel_rfl) (by kernel_rfl) (fun _ _ _ h => h) (Or.inl ⟨by rfl, ?hyb3_7_8x4⟩) hHeld ?restb3_7_8x4
        case hyb3_7_8x4 => (intro w hSw; (try dsimp only at hSw); go_simp; try with_reducible rfl)
        simp only [Act.put, List.setIfInBounds_toArray, List.set_cons_zero, List.set_cons_succ]
        refine wpAnyH_take (i := 5) (oi := ⟨some 27, _, _, _, _, _⟩) (v := ?vb3_7_8x5) rfl (by kernel_rfl) (by kernel_rfl) (by kernel_rfl) (fun _ _ _ h => h) (Or.inl ⟨by rfl, ?hyb3_7_8x5⟩) hHeld ?restb3_7_8x5
        case hyb3_7_8x5 => (intro w hSw; (try dsimp only at hSw); go_simp; try with_reducible rfl)
        simp only [Act.put, List.setIfInBounds_toArray, List.set_cons_zero, List.set_cons_succ]
        refine wpAnyH_take (i := 6) (oi := ⟨some 28, _, _, _, _, _⟩) (v := ?vb3_7_8x6) rfl (by kernel_rfl) (by kernel_rfl) (by kernel_rfl) (fun _ _ _ h => h) (Or.inl ⟨by rfl, ?hyb3_7_8x6⟩) hHeld ?restb3_7_8x6
        case hyb3_7_8x6 => (intro w hSw; (try dsimp only at hSw); go_simp; try with_reducible rfl)
        simp only [Act.put, List.setIfInBounds_toArray, List.set_cons_zero, List.set_cons_succ]
        refine wpAnyH_ready (rs := [7]) (by kernel_rfl) (by simp) ?_
        refine AllReadyH.cons (o := ⟨some 29, _, _, _, _, _⟩) rfl (fun K hK => ?_) AllReadyH.nil
        refine step_appS (by rfl) _ _ (by rfl) w.heap.size (.slice none 0 0) [] (by rfl) (OwnB.nil0 _ _) hHeld.2.2.size ⟨b1, o1 + 5, none⟩ (e - 5) (c1 - 5) ((p.drop 5).take (e - 5)) (by rfl) (HS5.out _ hHeld.2.1) (HL5.out) ?_
        intro v7 w7 ho7 hg7
        refine hK.out _ _ (⟨HC.out _ (hHeld.2.1.below ((Below.refl _ _).grown hg7 (Nat.le_refl _) (fun j e => by cases e))), hHeld.2.1.below ((Below.refl _ _).grown hg7 (Nat.le_refl _) (fun j e => by cases e)), hHeld.2.2.grown hg7 hHeld.2.2.size (fun j e => by cases e)⟩) (fun hHeld2 => ?_)
        clear hK K hHeld
        have hHeld := hHeld2
        clear hHeld2
        (try simp only [Act.put, List.setIfInBounds_toArray, List.set_cons_zero, List.set_cons_succ])
        refine wpAnyH_take (i := 8) (oi := ⟨some 2, _, _, _, _, _⟩) (v := ?vb3_7_8_7x8) rfl (by kernel_rfl) (by kernel_rfl) (by kernel_rfl) (fun _ _ _ h => h) (Or.inl ⟨by rfl, ?hyb3_7_8_7x8⟩) hHeld ?restb3_7_8_7x8
        case hyb3_7_8_7x8 => (intro w hSw; (try dsimp only at hSw); go_simp; try with_reducible rfl)
        simp only [Act.put, List.setIfInBounds_toArray, List.set_cons_zero, List.set_cons_succ]
        refine wpAnyH_take (i := 9) (oi := ⟨some 3, _, _, _, _, _⟩) (v := ?vb3_7_8_7x9) rfl (by kernel_rfl) (by kernel_rfl) (by kernel_rfl) (fun _ _ _ h => h) (Or.inl ⟨by rfl, ?hyb3_7_8_7x9⟩) hHeld ?restb3_7_8_7x9
        case hyb3_7_8_7x9 => (intro w hSw; (try dsimp only at hSw); go_simp; try with_reducible rfl)
        simp only [Act.put, List.setIfInBounds_toArray, List.set_cons_zero, List.set_cons_succ]
        refine wpAnyH_take (i := 10) (oi := ⟨some 4, _, _, _, _, _⟩) (v := ?vb3_7_8_7x10) rfl (by kernel_rfl) (by kernel_rfl) (by kernel_rfl) (fun _ _ _ h => h) (Or.inl ⟨by rfl, ?hyb3_7_8_7x10⟩) hHeld ?restb3_7_8_7x10
        case hyb3_7_8_7x10 => (intro w hSw; (try dsimp only at hSw); go_simp; try with_reducible rfl)
        simp only [Act.put, List.setIfInBounds_toArray, List.set_cons_zero, List.set_cons_succ]
        refine wpAnyH_done (by kernel_rfl) ?_ _
        have HBn : Hid (Below w.heap.size w w7) := hHeld.2.2
        have HOn : Hid (OwnB w.heap.size w7 v7 ((p.drop 5).take (e - 5))) := ho7
        clear hHeld ho7 hg7
        go_wp2
        go_ret3
        exact ⟨v7, by rw [HS.out]; rfl, by rw [HS.out]; exact HOn.out, HBn.out⟩
      · have qq : ((leL ((p.drop e).take 4) : Int) != (sumL (p.take e) : Int)) = true := by simp; omega
        have HS : Hid (openL p = (0, [], 9)) := HN.out hq
        clear hq
        go_wp2
        go_ret3
        exact ⟨_, by rw [HS.out]; rfl, by rw [HS.out]; exact OwnB.nil0 _ _, HBn.out⟩
    · go_simp
      have hPrev := hHeld
      refine hK.out _ _ (⟨hPrev.1.below ((Below.refl _ _).alloc (Nat.le_refl _) _), hPrev.2.alloc hPrev.2.size _⟩) (fun hHeld2 => ?_)
      clear hK K hHeld
      have hHeld := hHeld2
      clear hHeld2
      (try simp only [Act.put, List.setIfInBounds_toArray, List.set_cons_zero, List.set_cons_succ])
      refine wpAnyH_ready (rs := [3]) (by kernel_rfl) (by simp) ?_
      refine AllReadyH.cons (o := ⟨some 15, _, _, _, _, _⟩) rfl (fun K hK => ?_) AllReadyH.nil
      go_simp
      refine (HW.out _ (HSub.out _ hHeld.1)).mono ?_
      rintro e' w' ⟨rfl, hw⟩; replace hw := hw.symm; subst hw
      (try go_wp2_with fail)
      refine hK.out _ _ (hHeld) (fun hHeld2 => ?_)
      clear hK K hHeld
      have hHeld := hHeld2
      clear hHeld2
      (try simp only [Act.put, List.setIfInBounds_toArray, List.set_cons_zero, List.set_cons_succ])
      refine wpAnyH_ready (rs := [8]) (by kernel_rfl) (by simp) ?_
      refine AllReadyH.cons (o := ⟨some 20, _, _, _, _, _⟩) rfl (fun K hK => ?_) AllReadyH.nil
      go_simp
      refine (sum_any _ [p.take e] _ (IsBB.one (HHd.out _ hPrev.1) _)).mono ?_
      rintro e' w' ⟨rfl, hw⟩; replace hw := hw.symm; subst hw; rw [List.flatten_cons, List.flatten_nil, List.append_nil]
      (try go_wp2_with fail)
      refine hK.out _ _ (hHeld) (fun hHeld2 => ?_)
      clear hK K hHeld
      have hHeld := hHeld2
      clear hHeld2
      (try simp only [Act.put, List.setIfInBounds_toArray, List.set_cons_zero, List.set_cons_succ])
      refine wpAnyH_take (i := 9) (oi := ⟨some 21, _, _, _, _, _⟩) (v := ?va_7_3_8x9) rfl (by kernel_rfl) (by kernel_rfl) (by kernel_rfl) (fun _ _ _ h => h) (Or.inl ⟨by rfl, ?hya_7_3_8x9⟩) hHeld ?resta_7_3_8x9
      case hya_7_3_8x9 => (intro w hSw; (try dsimp only at hSw); go_simp; try with_reducible rfl)
      simp only [Act.put, List.setIfInBounds_toArray, List.set_cons_zero, List.set_cons_succ]
      refine wpAnyH_done (by kernel_rfl) ?_ _
      have HBn : Hid (Below w.heap.size w ((w.alloc (.cells #[.slice (some ⟨b1, o1, none⟩) e c1] 23)).drew)) := hHeld.2
      have HIn : Hid (IsB ((w.alloc (.cells #[.slice (some ⟨b1, o1, none⟩) e c1] 23)).drew) (.slice (some ⟨b1, o1, none⟩) (e + 4) c1) p) := hHeld.1
      clear hHeld hPrev
      by_cases hq : leL ((p.drop e).take 4) = sumL (p.take e)
      · have qq : ((leL ((p.drop e).take 4) : Int) != (sumL (p.take e) : Int)) = false := by rw [hq]; simp
        have HS : Hid (openL p = (k, (p.drop 5).take (e - 5), 0)) := HY.out hq
        clear hq
        go_wp2
        refine wp_region_held_drew (S := fun W' => W'.cell? ⟨b1, o1, none⟩ = some (.int .u8 (k : Int)) ∧ IsB W' (.slice (some ⟨b1, o1, none⟩) (e + 4) c1) p ∧ Below w.heap.size w W') (by kernel_rfl) ⟨HC.out _ (HIn.out.below (Below.refl _ _).drew), HIn.out.below (Below.refl _ _).drew, HBn.out.drew⟩ (fun hHeld => ?_)
        refine wpAnyH_take (i := 0) (oi := ⟨some 22, _, _, _, _, _⟩) (v := ?vb7_3_8x0) rfl (by kernel_rfl) (by kernel_rfl) (by kernel_rfl) (fun _ _ _ h => h) (Or.inl ⟨by rfl, ?hyb7_3_8x0⟩) hHeld ?restb7_3_8x0
        case hyb7_3_8x0 => (intro w hSw; (try dsimp only at hSw); go_simp; try with_reducible rfl)
        simp only [Act.put, List.setIfInBounds_toArray, List.set_cons_zero, List.set_cons_succ]
        refine wpAnyH_take (i := 1) (oi := ⟨some 23, _, _, _, _, _⟩) (v := ?vb7_3_8x1) rfl (by kernel_rfl) (by kernel_rfl) (by kernel_rfl) (fun _ _ _ h => h) (Or.inl ⟨by rfl, ?hyb7_3_8x1⟩) hHeld ?restb7_3_8x1
        case hyb7_3_8x1 => (intro w hSw; (try dsimp only at hSw); go_simp; try with_reducible rfl)
        simp only [Act.put, List.setIfInBounds_toArray, List.set_cons_zero, List.set_cons_succ]
        refine wpAnyH_take (i := 2) (oi := ⟨some 24, _, _, _, _, _⟩) (v := ?vb7_3_8x2) rfl (by kernel_rfl) (by kernel_rfl) (by kernel_rfl) (fun _ _ _ h => h) (Or.inl ⟨by rfl, ?hyb7_3_8x2⟩) hHeld ?restb7_3_8x2
        case hyb7_3_8x2 => (intro w hSw; (try dsimp only at hSw); go_simp; try with_reducible rfl)
        simp only [Act.put, List.setIfInBounds_toArray, List.set_cons_zero, List.set_cons_succ]
        refine wpAnyH_take (i := 3) (oi := ⟨some 25, _, _, _, _, _⟩) (v := ?vb7_3_8x3) rfl (by kernel_rfl) (by kernel_rfl) (by kernel_rfl) (fun _ _ _ h => h) (Or.inl ⟨by rfl, ?hyb7_3_8x3⟩) hHeld ?restb7_3_8x3
        case hyb7_3_8x3 => (intro w hSw; (try dsimp only at hSw); go_simp; try with_reducible rfl)
        simp only [Act.put, List.setIfInBounds_toArray, List.set_cons_zero, List.set_cons_succ]
        refine wpAnyH_take (i := 4) (oi := ⟨some 26, _, _, _, _, _⟩) (v := ?vb7_3_8x4) rfl (by kernel_rfl) (by kernel_rfl) (by kernel_rfl) (fun _ _ _ h => h) (Or.inl ⟨by rfl, ?hyb7_3_8x4⟩) hHeld ?restb7_3_8x4
        case hyb7_3_8x4 => (intro w hSw; (try dsimp only at hSw); go_simp; try with_reducible rfl)
        simp only [Act.put, List.setIfInBounds_toArray, List.set_cons_zero, List.set_cons_succ]
        refine wpAnyH_take (i := 5) (oi := ⟨some 27, _, _, _, _, _⟩) (v := ?vb7_3_8x5) rfl (by kernel_rfl) (by kernel_rfl) (by kernel_rfl) (fun _ _ _ h => h) (Or.inl ⟨by rfl, ?hyb7_3_8x5⟩) hHeld ?restb7_3_8x5
        case hyb7_3_8x5 => (intro w hSw; (try dsimp only at hSw); go_simp; try with_reducible rfl)
        simp only [Act.put, List.setIfInBounds_toArray, List.set_cons_zero, List.set_cons_succ]
        refine wpAnyH_take (i := 6) (oi := ⟨some 28, _, _, _, _, _⟩) (v := ?vb7_3_8x6) rfl (by kernel_rfl) (by kernel_rfl) (by kernel_rfl) (fun _ _ _ h => h) (Or.inl ⟨by rfl, ?hyb7_3_8x6⟩) hHeld ?restb7_3_8x6
        case hyb7_3_8x6 => (intro w hSw; (try dsimp only at hSw); go_simp; try with_reducible rfl)
        simp only [Act.put, List.setIfInBounds_toArray, List.set_cons_zero, List.set_cons_succ]
        refine wpAnyH_ready (rs := [7]) (by kernel_rfl) (by simp) ?_
        refine AllReadyH.cons (o := ⟨some 29, _, _, _, _, _⟩) rfl (fun K hK => ?_) AllReadyH.nil
        refine step_appS (by rfl) _ _ (by rfl) w.heap.size (.slice none 0 0) [] (by rfl) (OwnB.nil0 _ _) hHeld.2.2.size ⟨b1, o1 + 5, none⟩ (e - 5) (c1 - 5) ((p.drop 5).take (e - 5)) (by rfl) (HS5.out _ hHeld.2.1) (HL5.out) ?_
        intro v7 w7 ho7 hg7
        refine hK.out _ _ (⟨HC.out _ (hHeld.2.1.below ((Below.refl _ _).grown hg7 (Nat.le_refl _) (fun j e => by cases e))), hHeld.2.1.below ((Below.refl _ _).grown hg7 (Nat.le_refl _) (fun j e => by cases e)), hHeld.2.2.grown hg7 hHeld.2.2.size (fun j e => by cases e)⟩) (fun hHeld2 => ?_)
        clear hK K hHeld
        have hHeld := hHeld2
        clear hHeld2
        (try simp only [Act.put, List.setIfInBounds_toArray, List.set_cons_zero, List.set_cons_succ])
        refine wpAnyH_take (i := 8) (oi := ⟨some 2, _, _, _, _, _⟩) (v := ?vb7_3_8_7x8) rfl (by kernel_rfl) (by kernel_rfl) (by kernel_rfl) (fun _ _ _ h => h) (Or.inl ⟨by rfl, ?hyb7_3_8_7x8⟩) hHeld ?restb7_3_8_7x8
        case hyb7_3_8_7x8 => (intro w hSw; (try dsimp only at hSw); go_simp; try with_reducible rfl)
        simp only [Act.put, List.setIfInBounds_toArray, List.set_cons_zero, List.set_cons_succ]
        refine wpAnyH_take (i := 9) (oi := ⟨some 3, _, _, _, _, _⟩) (v := ?vb7_3_8_7x9) rfl (by kernel_rfl) (by kernel_rfl) (by kernel_rfl) (fun _ _ _ h => h) (Or.inl ⟨by rfl, ?hyb7_3_8_7x9⟩) hHeld ?restb7_3_8_7x9
        case hyb7_3_8_7x9 => (intro w hSw; (try dsimp only at hSw); go_simp; try with_reducible rfl)
        simp only [Act.put, List.setIfInBounds_toArray, List.set_cons_zero, List.set_cons_succ]
        refine wpAnyH_take (i := 10) (oi := ⟨some 4, _, _, _, _, _⟩) (v := ?vb7_3_8_7x10) rfl (by kernel_rfl) (by kernel_rfl) (by kernel_rfl) (fun _ _ _ h => h) (Or.inl ⟨by rfl, ?hyb7_3_8_7x10⟩) hHeld ?restb7_3_8_7x10
        case hyb7_3_8_7x10 => (intro w hSw; (try dsimp only at hSw); go_simp; try with_reducible rfl)
        simp only [Act.put, List.setIfInBounds_toArray, List.set_cons_zero, List.set_cons_succ]
        refine wpAnyH_done (by kernel_rfl) ?_ _
        have HBn : Hid (Below w.heap.size w w7) := hHeld.2.2
        have HOn : Hid (OwnB w.heap.size w7 v7 ((p.drop 5).take (e - 5))) := ho7
        clear hHeld ho7 hg7
        go_wp2
        go_ret3
        exact ⟨v7, by rw [HS.out]; rfl, by rw [HS.out]; exact HOn.out, HBn.out⟩
      · have qq : ((leL ((p.drop e).take 4) : Int) != (sumL (p.take e) : Int)) = true := by simp; omega
        have HS : Hid (openL p = (0, [], 9)) := HN.out hq
        clear hq
        go_wp2
        go_ret3
        exact ⟨_, by rw [HS.out]; rfl, by rw [HS.out]; exact OwnB.nil0 _ _, HBn.out⟩

end Go.Proofs.Ytcdnppiigejjgaa
