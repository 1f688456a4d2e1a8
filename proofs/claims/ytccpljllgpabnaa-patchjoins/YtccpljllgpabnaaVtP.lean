/- The document's Has, and what makes a node's own fields right. -/
import Derived.Test.YtccpljllgpabnaaVtK
import Derived.Deep.Cut
import Derived.Laws.StructEq
namespace Go.Proofs.Ytccpljllgpabnaa
open Go.RowKit
set_option linter.unusedVariables false
set_option linter.unusedSimpArgs false

set_option maxRecDepth 100000 in
set_option maxHeartbeats 4000000 in
theorem refHas_any (B : Nat) (v : Value) (D : List St) (s : St) (w : World) (h : OwnSt B w v D) (hl : D.length ≤ 1048577) : Calls Try.prog 40 #[v, .agg #[.int .i64 s.1, .int .i64 s.2]] w fun e w' => e = .returned (.bool (hasS D s)) ∧ Below w.heap.size w w' := by
  obtain ⟨a1, c1, rfl⟩ := OwnE.form h
  have hb0 : Below w.heap.size w (w.alloc (.cells #[.int .i64 s.1, .int .i64 s.2] 23)) := (Below.refl _ _).alloc (Nat.le_refl _) _
  have HO := hide9 h
  have HB0 := hide9 hb0
  have HKy : Hid (w.heap.size < (w.alloc (.cells #[.int .i64 s.1, .int .i64 s.2] 23)).heap.size ∧ (w.alloc (.cells #[.int .i64 s.1, .int .i64 s.2] 23)).cell? ⟨w.heap.size, 0, none⟩ = some (.int .i64 s.1) ∧ (w.alloc (.cells #[.int .i64 s.1, .int .i64 s.2] 23)).cell? ⟨w.heap.size, 1, none⟩ = some (.int .i64 s.2)) := ⟨by simp, by (rw [cell_of_row _ _ _ _ _ _ (heap_alloc_new w _)]; rfl), by (rw [cell_of_row _ _ _ _ _ _ (heap_alloc_new w _)]; rfl)⟩
  clear h hb0
  go_enter Try.func40, Try.ntmps40
  go_wp2
  go_loopw [5] (fun iv wr => ∃ (i : Nat), iv = .int .i64 (i : Int) ∧ i ≤ D.length ∧ Hid (hasS (D.take i) s = false) ∧ Hid (Below w.heap.size w wr ∧ Below (w.alloc (.cells #[.int .i64 s.1, .int .i64 s.2] 23)).heap.size (w.alloc (.cells #[.int .i64 s.1, .int .i64 s.2] 23)) wr)) (fun iv _ => D.length - (intOf iv).toNat)
  case atStart => exact ⟨0, rfl, Nat.zero_le _, rfl, ⟨HB0.out, Below.refl _ _⟩⟩
  case round =>
    obtain ⟨i, rfl, hil, HT, HBB⟩ := hrel
    have HBw := hide9 HBB.out.1
    have HB1 : Hid (Below (w.alloc (.cells #[.int .i64 s.1, .int .i64 s.2] 23)).heap.size (w.alloc (.cells #[.int .i64 s.1, .int .i64 s.2] 23)) wr) := HBB.out.2
    by_cases hlt : i < D.length
    · obtain ⟨g, cap, eg, _, hcs, _⟩ := OwnE.cells stCells_len HO.out hlt
      injection eg with e1 _ e3
      subst e1
      clear e3
      have hgl := (OwnE.lt HO.out g rfl).2
      have p0 := hcs 0 _ rfl
      have p1 := hcs 1 _ rfl
      have ht2 : hasS (D.take (i + 1)) s = (hasS (D.take i) s || decide (D[i] = s)) := (by unfold hasS; rw [List.take_succ_eq_append_getElem hlt, List.any_append]; simp)
      have hal : D[i] = s → hasS D s = true := fun e => hasS_iff.2 ⟨D[i], List.getElem_mem hlt, e⟩
      obtain ⟨x, ex⟩ : ∃ x, x = D[i] := ⟨_, rfl⟩
      rw [← ex] at p0 p1 ht2 hal
      have HG : Hid (g < (w.alloc (.cells #[.int .i64 s.1, .int .i64 s.2] 23)).heap.size ∧ (w.alloc (.cells #[.int .i64 s.1, .int .i64 s.2] 23)).cell? ⟨g, i * 2, none⟩ = some (.int .i64 x.1) ∧ (w.alloc (.cells #[.int .i64 s.1, .int .i64 s.2] 23)).cell? ⟨g, i * 2 + 1, none⟩ = some (.int .i64 x.2)) := ⟨by simp; omega, (HB0.out.cell (p := ⟨g, i * 2, none⟩) hgl).trans p0, (HB0.out.cell (p := ⟨g, i * 2 + 1, none⟩) hgl).trans p1⟩
      have Hal := hide9 hal
      have Ht2 := hide9 ht2
      have k1 : (i : Int) < (D.length : Int) := by omega
      have k0 : (0 : Int) ≤ (i : Int) := by omega
      clear ex p0 p1 hgl hcs ht2 hal HBB
      go_wp2_with fail
      by_cases he : x = s
      · have HE : Hid ((x.1, x.2) = (s.1, s.2)) := he
        have HR : Hid (hasS D s = true) := Hal.out he
        clear he
        refine wp_region_held_drew (S := fun W' => Below (w.alloc (.cells #[.int .i64 s.1, .int .i64 s.2] 23)).heap.size (w.alloc (.cells #[.int .i64 s.1, .int .i64 s.2] 23)) W') (by kernel_rfl) HB1.out.drew (fun hHeld => ?_)
        obtain ⟨Ua1u0, eW⟩ : ∃ X, X = wr.drew := ⟨_, rfl⟩
        have hb : Below wr.heap.size wr Ua1u0 := by rw [eW]; exact (Below.refl _ _).drew
        replace HBw : Hid (Below w.heap.size w Ua1u0) := HBw.out.trans (hb.mono HBw.out.size)
        rw [← eW] at hHeld ⊢
        clear eW hb
        refine tkW 0 (some 12) (v := ?_) ?_ hHeld ?_
        rotate_left
        · (intro ww _; go_simp; try with_reducible rfl)
        refine tkW 1 (some 13) (v := ?_) ?_ hHeld ?_
        rotate_left
        · (intro ww _; go_simp; try with_reducible rfl)
        refine tkW 2 (some 14) (v := ?_) ?_ hHeld ?_
        rotate_left
        · (intro ww hSw; (try dsimp only at hSw); go_simp; try with_reducible rfl)
        refine tkW 3 (some 15) (v := ?_) ?_ hHeld ?_
        rotate_left
        · (intro ww hSw; (try dsimp only at hSw); have a0 : ww.cell? ⟨g, i * 2, none⟩ = some (.int .i64 x.1) := (hSw.cell (p := ⟨g, i * 2, none⟩) HG.out.1).trans HG.out.2.1; have a1 : ww.cell? ⟨g, i * 2 + 1, none⟩ = some (.int .i64 x.2) := (hSw.cell (p := ⟨g, i * 2 + 1, none⟩) HG.out.1).trans HG.out.2.2; go_simp; try with_reducible rfl)
        refine tkW 4 (some 16) (v := ?_) ?_ hHeld ?_
        rotate_left
        · (intro ww hSw; (try dsimp only at hSw); have a0 : ww.cell? ⟨w.heap.size, 0, none⟩ = some (.int .i64 s.1) := (hSw.cell (p := ⟨w.heap.size, 0, none⟩) HKy.out.1).trans HKy.out.2.1; have a1 : ww.cell? ⟨w.heap.size, 1, none⟩ = some (.int .i64 s.2) := (hSw.cell (p := ⟨w.heap.size, 1, none⟩) HKy.out.1).trans HKy.out.2.2; go_simp; try with_reducible rfl)
        refine tkW 5 (some 17) (v := ?_) ?_ hHeld ?_
        rotate_left
        · (intro ww hSw; (try dsimp only at hSw); have hq : ∀ w, (binOp .eql 23 (.agg #[.int .i64 x.1, .int .i64 x.2]) (.agg #[.int .i64 s.1, .int .i64 s.2])).run Try.prog w = .ok (.bool true) w := fun w => (by rw [eqlSt, decide_eq_true HE.out]); go_simp; try with_reducible rfl)
        refine wpAnyH_done (by kernel_rfl) ?_ _
        clear hHeld
        go_wp2
        go_ret
        exact ⟨ret_bool (by rw [HR.out]), HBw.out⟩
      · have HE : Hid (¬ (x.1, x.2) = (s.1, s.2)) := he
        have HT2 : Hid (hasS (D.take (i + 1)) s = false) := (by show _ = _; rw [Ht2.out, HT.out, decide_eq_false he]; rfl)
        clear he
        refine wp_region_held_drew (S := fun W' => Below (w.alloc (.cells #[.int .i64 s.1, .int .i64 s.2] 23)).heap.size (w.alloc (.cells #[.int .i64 s.1, .int .i64 s.2] 23)) W') (by kernel_rfl) HB1.out.drew (fun hHeld => ?_)
        obtain ⟨Ub2u0, eW⟩ : ∃ X, X = wr.drew := ⟨_, rfl⟩
        have hb : Below wr.heap.size wr Ub2u0 := by rw [eW]; exact (Below.refl _ _).drew
        replace HBw : Hid (Below w.heap.size w Ub2u0) := HBw.out.trans (hb.mono HBw.out.size)
        rw [← eW] at hHeld ⊢
        clear eW hb
        refine tkW 0 (some 12) (v := ?_) ?_ hHeld ?_
        rotate_left
        · (intro ww _; go_simp; try with_reducible rfl)
        refine tkW 1 (some 13) (v := ?_) ?_ hHeld ?_
        rotate_left
        · (intro ww _; go_simp; try with_reducible rfl)
        refine tkW 2 (some 14) (v := ?_) ?_ hHeld ?_
        rotate_left
        · (intro ww hSw; (try dsimp only at hSw); go_simp; try with_reducible rfl)
        refine tkW 3 (some 15) (v := ?_) ?_ hHeld ?_
        rotate_left
        · (intro ww hSw; (try dsimp only at hSw); have a0 : ww.cell? ⟨g, i * 2, none⟩ = some (.int .i64 x.1) := (hSw.cell (p := ⟨g, i * 2, none⟩) HG.out.1).trans HG.out.2.1; have a1 : ww.cell? ⟨g, i * 2 + 1, none⟩ = some (.int .i64 x.2) := (hSw.cell (p := ⟨g, i * 2 + 1, none⟩) HG.out.1).trans HG.out.2.2; go_simp; try with_reducible rfl)
        refine tkW 4 (some 16) (v := ?_) ?_ hHeld ?_
        rotate_left
        · (intro ww hSw; (try dsimp only at hSw); have a0 : ww.cell? ⟨w.heap.size, 0, none⟩ = some (.int .i64 s.1) := (hSw.cell (p := ⟨w.heap.size, 0, none⟩) HKy.out.1).trans HKy.out.2.1; have a1 : ww.cell? ⟨w.heap.size, 1, none⟩ = some (.int .i64 s.2) := (hSw.cell (p := ⟨w.heap.size, 1, none⟩) HKy.out.1).trans HKy.out.2.2; go_simp; try with_reducible rfl)
        refine tkW 5 (some 17) (v := ?_) ?_ hHeld ?_
        rotate_left
        · (intro ww hSw; (try dsimp only at hSw); have hq : ∀ w, (binOp .eql 23 (.agg #[.int .i64 x.1, .int .i64 x.2]) (.agg #[.int .i64 s.1, .int .i64 s.2])).run Try.prog w = .ok (.bool false) w := fun w => (by rw [eqlSt, decide_eq_false HE.out]); go_simp; try with_reducible rfl)
        refine wpAnyH_done (by kernel_rfl) ?_ _
        have HB2 := hide9 hHeld
        clear hHeld
        have n1 : IntKind.i64.wrap ((i : Int) + 1) = (i : Int) + 1 := by rw [IntKind.wrap_i64]; omega
        go_wp2
        go_roundw
        case rel => exact ⟨i + 1, by go_num, by omega, HT2, ⟨HBw.out, HB2.out⟩⟩
        case measure => simp [intOf]; omega
    · have HR : Hid (hasS D s = false) := (by have h1 := HT.out; rw [List.take_of_length_le (by omega)] at h1; exact h1)
      have k1 : ¬ (i : Int) < (D.length : Int) := by omega
      have k3 : decide ((i : Int) < (D.length : Int)) = false := decide_eq_false k1
      go_wp2
      go_ret
      exact ⟨ret_bool (by rw [HR.out]), HBw.out⟩

theorem run_geqS (a b : ByteArray) (w : World) : (binOp .geq 9 (.string a) (.string b)).run Try.prog w = .ok (.bool (!ltT a b)) w := by
  rw [← txt_less]
  first | rfl | (simp [binOp, go_sem]; done) | kernel_rfl
/-- The name ahead of place i. -/
def prevA (A : List At) (i : Nat) : ByteArray := if i = 0 then noTx else (A.getD (i - 1) (noTx, noTx)).1
theorem prevA_pos {A : List At} {i : Nat} (h0 : i ≠ 0) (h : i - 1 < A.length) : ∃ hj : i - 1 < A.length, prevA A i = A[i - 1].1 := ⟨h, by unfold prevA; rw [if_neg h0, List.getD_eq_getElem?_getD, List.getElem?_eq_getElem h]; rfl⟩
theorem prevA_succ {A : List At} {i : Nat} (h : i < A.length) : prevA A (i + 1) = A[i].1 := by
  unfold prevA
  rw [if_neg (by omega), Nat.add_sub_cancel, List.getD_eq_getElem?_getD, List.getElem?_eq_getElem h]
  rfl
theorem name_pos {b : ByteArray} (h : nameL (txL b) = true) : ltT noTx b = true := by
  unfold ltT
  rw [decide_eq_true_eq]
  unfold nameL at h
  cases hb : txL b with
  | nil => rw [hb] at h; simp at h
  | cons x l => show [] < x :: l; simp

set_option maxRecDepth 100000 in
set_option maxHeartbeats 8000000 in
theorem refNodeC_any (G : Nat → Prop) (t : VT) (v : Value) (w : World) (h : VIs G w v t) (hn : BnT t) : Calls Try.prog 41 #[v] w fun e w' => e = .returned (.int .i64 (chkN t)) ∧ Below w.heap.size w w' := by
  obtain ⟨aa, ca, ak, ck, e1, fd⟩ := h.form
  subst e1
  obtain ⟨W0, eW⟩ : ∃ X, X = (w.alloc (.cells #[.int .i64 t.k.1, .int .i64 t.k.2, .string t.tg, .string t.tx, .slice aa t.at_.length ca, .slice ak t.ks.length ck] 33)) := ⟨_, rfl⟩
  have hb0 : Below w.heap.size w W0 := (by rw [eW]; exact (Below.refl _ _).alloc (Nat.le_refl _) _)
  have HTb : Hid (W0.heap[w.heap.size]? = some (.cells #[.int .i64 t.k.1, .int .i64 t.k.2, .string t.tg, .string t.tx, .slice aa t.at_.length ca, .slice ak t.ks.length ck] 33)) := (by rw [eW]; exact heap_alloc_new _ _)
  have HFd := hide9 (fd.below hb0)
  have HB := hide9 hb0
  have Hn := hide9 hn
  have hal := fd.al
  have HE := hide9 eW
  clear h fd hn hb0 eW
  go_enter Try.func41, Try.ntmps41
  go_wp2_with fail
  rw [← HE.out]
  clear HE
  refine (refName_any t.tg Hn.out.1 _).mono ?_
  rintro e w1 ⟨rfl, hw⟩
  replace hw := hw.symm
  subst hw
  cases hnm : nameL (txL t.tg)
  · have hnm2 : nameL t.tg.data.toList = false := hnm
    have HF : Hid (chkN t = 8) := if_pos hnm
    rw [hnm2]
    clear hnm hnm2
    go_wp2
    go_ret
    exact ⟨by rw [HF.out] <;> rfl, HB.out⟩
  · have hnm2 : nameL t.tg.data.toList = true := hnm
    have He : Hid (chkN t = if 256 < t.tx.size ∨ 4096 < t.at_.length then 3 else chkA noTx t.at_) := if_neg (by simp [hnm])
    rw [hnm2]
    clear hnm hnm2
    obtain ⟨_, _, _, q3, q4, _⟩ := row6 HTb.out
    by_cases h1 : 256 < t.tx.size
    · have q1 : (256 : Int) < (t.tx.size : Int) := by omega
      have HF : Hid (chkN t = 3) := He.out.trans (if_pos (by omega))
      go_wp2
      go_ret
      exact ⟨by rw [HF.out] <;> rfl, HB.out⟩
    · have q1 : ¬ (256 : Int) < (t.tx.size : Int) := by omega
      by_cases h2 : 4096 < t.at_.length
      · have q2 : (4096 : Int) < (t.at_.length : Int) := by omega
        have HF : Hid (chkN t = 3) := He.out.trans (if_pos (by omega))
        go_wp2
        go_ret
        exact ⟨by rw [HF.out] <;> rfl, HB.out⟩
      · have q2 : ¬ (4096 : Int) < (t.at_.length : Int) := by omega
        have HF0 : Hid (chkN t = chkA noTx t.at_) := He.out.trans (if_neg (by omega))
        clear He
        go_wp2
        go_loopw [3] (fun iv wr => ∃ (i : Nat), iv = .int .i64 (i : Int) ∧ i ≤ t.at_.length ∧ Hid (chkA noTx t.at_ = chkA (prevA t.at_ i) (t.at_.drop i)) ∧ Hid (Below W0.heap.size W0 wr)) (fun iv _ => t.at_.length - (intOf iv).toNat)
        case atStart => exact ⟨0, rfl, Nat.zero_le _, rfl, Below.refl _ _⟩
        case round =>
          clear q3 q4
          obtain ⟨i, rfl, hil, HEq, HBr⟩ := hrel
          have HTr : Hid (wr.heap[w.heap.size]? = some (.cells #[.int .i64 t.k.1, .int .i64 t.k.2, .string t.tg, .string t.tx, .slice aa t.at_.length ca, .slice ak t.ks.length ck] 33)) := (HBr.out.block _ (row_lt HTb.out)).trans HTb.out
          have q4 := (row6 HTr.out).2.2.2.2.1
          by_cases hlt : i < t.at_.length
          · obtain ⟨b1, o1, rfl, _, hl1, p0, p1⟩ := (HFd.out.at_.below HBr.out).rowA hlt
            have hnx := Hn.out.2 t.at_[i] (List.getElem_mem hlt)
            have he := HEq.out
            rw [List.drop_eq_getElem_cons hlt, chkA] at he
            have hpv : i ≠ 0 → ∃ hj : i - 1 < t.at_.length, prevA t.at_ i = t.at_[i - 1].1 := fun h0 => prevA_pos h0 (by omega)
            have hpn : prevA t.at_ (i + 1) = t.at_[i].1 := prevA_succ hlt
            obtain ⟨x, ex⟩ : ∃ x, x = t.at_[i] := ⟨_, rfl⟩
            rw [← ex] at p0 p1 hnx he hpn
            have Hpn := hide9 hpn
            have Hpv := hide9 hpv
            have Hnx : Hid (x.1.size ≤ 281474976710656) := hnx
            have k1 : (i : Int) < (t.at_.length : Int) := by omega
            have k0 : (0 : Int) ≤ (i : Int) := by omega
            have He := hide9 he
            have HP : Hid (b1 < wr.heap.size ∧ wr.cell? ⟨b1, o1 + i * 2, none⟩ = some (.string x.1)) := ⟨hl1, p0⟩
            clear ex hnx he HEq hpv hpn hl1
            go_wp2_with fail
            refine (refName_any x.1 Hnx.out _).mono ?_
            rintro e w1 ⟨rfl, hw⟩
            replace hw := hw.symm
            subst hw
            cases hnm : nameL (txL x.1)
            · have hnm2 : nameL x.1.data.toList = false := hnm
              have HF : Hid (chkA noTx t.at_ = 8) := He.out.trans (if_pos hnm)
              clear hnm
              rw [hnm2]
              clear hnm2
              go_wp2
              go_ret
              exact ⟨by rw [HF0.out, HF.out] <;> rfl, HB.out.trans (HBr.out.mono HB.out.size)⟩
            · have hnm2 : nameL x.1.data.toList = true := hnm
              have He2 : Hid (chkA noTx t.at_ = if 256 < x.2.size then 3 else if ltT (prevA t.at_ i) x.1 = false then 2 else chkA x.1 (t.at_.drop (i + 1))) := He.out.trans (if_neg (by simp [hnm]))
              have hlt0 : ltT noTx x.1 = true := name_pos hnm
              have Hl0 := hide9 hlt0
              clear hnm He hlt0
              rw [hnm2]
              clear hnm2
              by_cases hv : 256 < x.2.size
              · have q1b : (256 : Int) < (x.2.size : Int) := by omega
                have HF : Hid (chkA noTx t.at_ = 3) := He2.out.trans (if_pos hv)
                clear hv
                go_wp2
                go_ret
                exact ⟨by rw [HF0.out, HF.out] <;> rfl, HB.out.trans (HBr.out.mono HB.out.size)⟩
              · have q1b : ¬ (256 : Int) < (x.2.size : Int) := by omega
                have He3 : Hid (chkA noTx t.at_ = if ltT (prevA t.at_ i) x.1 = false then 2 else chkA x.1 (t.at_.drop (i + 1))) := He2.out.trans (if_neg hv)
                clear hv He2
                go_upto_region 12 with fail
                clear p0 p1 q4
                by_cases h0 : i = 0
                · have HF : Hid (chkA noTx t.at_ = chkA x.1 (t.at_.drop (i + 1))) := He3.out.trans (if_neg (by rw [h0]; show ¬ ltT noTx x.1 = false; rw [Hl0.out]; simp))
                  have h0i : (i : Int) = 0 := by omega
                  have g0 : ¬ (0 : Int) < (i : Int) := by omega
                  have g1 : decide ((0 : Int) < (i : Int)) = false := decide_eq_false g0
                  have g2 : ¬ 0 < i := by omega
                  have g3 : decide (0 < i) = false := decide_eq_false g2
                  clear h0 h0i He3
                  refine wp_region_held_drew (S := fun W' => Below wr.heap.size wr W') (by kernel_rfl) (Below.refl _ _).drew (fun hHeld => ?_)
                  obtain ⟨Uz3u0, eW⟩ : ∃ X, X = wr.drew := ⟨_, rfl⟩
                  have hb : Below wr.heap.size wr Uz3u0 := by rw [eW]; exact (Below.refl _ _).drew
                  rw [← eW] at hHeld ⊢
                  clear eW hb
                  refine tkW 0 (some 41) (v := ?_) ?_ hHeld ?_
                  rotate_left
                  · (intro ww hSw; (try dsimp only at hSw); go_simp; try with_reducible rfl)
                  refine tkW 1 (some 42) (v := ?_) ?_ hHeld ?_
                  rotate_left
                  · (intro ww hSw; (try dsimp only at hSw); go_simp; try with_reducible rfl)
                  refine tkW 2 (some 43) (v := ?_) ?_ hHeld ?_
                  rotate_left
                  · (intro ww _; go_simp; try with_reducible rfl)
                  refine tkU 3 (some 44) hHeld ?_
                  refine tkU 4 (some 45) hHeld ?_
                  refine tkU 5 (some 46) hHeld ?_
                  refine tkU 6 (some 47) hHeld ?_
                  refine tkU 7 (some 48) hHeld ?_
                  refine tkU 8 (some 49) hHeld ?_
                  refine tkU 9 (some 50) hHeld ?_
                  refine tkU 10 (some 51) hHeld ?_
                  refine tkU 11 (some 52) hHeld ?_
                  refine tkU 12 (some 53) hHeld ?_
                  refine tkU 13 (some 54) hHeld ?_
                  refine tkU 14 (some 55) hHeld ?_
                  refine tkU 15 (some 56) hHeld ?_
                  refine tkU 16 (some 57) hHeld ?_
                  refine tkW 17 (some 58) (v := ?_) ?_ hHeld ?_
                  rotate_left
                  · (intro ww _; go_simp; try with_reducible rfl)
                  refine wpAnyH_done (by kernel_rfl) ?_ _
                  have HBr := hide9 (HBr.out.trans (hHeld.mono HBr.out.size))
                  clear hHeld
                  have n1 : IntKind.i64.wrap ((i : Int) + 1) = (i : Int) + 1 := by rw [IntKind.wrap_i64]; omega
                  go_wp2
                  go_roundw
                  case rel => exact ⟨i + 1, by go_num, by omega, (by show _ = _; rw [Hpn.out]; exact HF.out), HBr⟩
                  case measure => simp [intOf]; omega
                · obtain ⟨hj, epv⟩ := Hpv.out h0
                  obtain ⟨j, ej⟩ : ∃ j, j = i - 1 := ⟨_, rfl⟩
                  obtain ⟨_, _, e9, _, _, pj, pj2⟩ := (HFd.out.at_.below HBr.out).rowA hj
                  injection e9 with e9
                  injection e9 with e91 e92
                  subst e91 e92
                  obtain ⟨pv, epv2⟩ : ∃ p, p = t.at_[i - 1] := ⟨_, rfl⟩
                  rw [← epv2] at pj epv
                  rw [← ej] at pj
                  have HPj := hide9 pj
                  have HQ4 : Hid (w.heap.size < wr.heap.size ∧ wr.cell? ⟨w.heap.size, 4, none⟩ = some (.slice (some ⟨b1, o1, none⟩) t.at_.length ca)) := ⟨row_lt HTr.out, (row6 HTr.out).2.2.2.2.1⟩
                  have Hj : Hid ((j : Int) < (t.at_.length : Int) ∧ IntKind.i64.wrap ((i : Int) - 1) = (j : Int)) := ⟨by omega, by rw [IntKind.wrap_i64]; omega⟩
                  have hj1 := Hj.out.1
                  have hj0 : (0 : Int) ≤ (j : Int) := by omega
                  have g0 : (0 : Int) < (i : Int) := by omega
                  have g1 : decide ((0 : Int) < (i : Int)) = true := decide_eq_true g0
                  have g2 : 0 < i := by omega
                  have g3 : decide (0 < i) = true := decide_eq_true g2
                  rw [epv] at He3
                  clear pj pj2 epv epv2 ej hj h0
                  cases hlq : ltT pv.1 x.1
                  · have HF : Hid (chkA noTx t.at_ = 2) := He3.out.trans (if_pos hlq)
                    have Hlq := hide9 hlq
                    clear hlq He3
                    refine wp_region_held_drew (S := fun W' => Below wr.heap.size wr W') (by kernel_rfl) (Below.refl _ _).drew (fun hHeld => ?_)
                    obtain ⟨Uy4u0, eW⟩ : ∃ X, X = wr.drew := ⟨_, rfl⟩
                    have hb : Below wr.heap.size wr Uy4u0 := by rw [eW]; exact (Below.refl _ _).drew
                    rw [← eW] at hHeld ⊢
                    clear eW hb
                    refine tkW 0 (some 41) (v := ?_) ?_ hHeld ?_
                    rotate_left
                    · (intro ww hSw; (try dsimp only at hSw); go_simp; try with_reducible rfl)
                    refine tkW 1 (some 42) (v := ?_) ?_ hHeld ?_
                    rotate_left
                    · (intro ww hSw; (try dsimp only at hSw); go_simp; try with_reducible rfl)
                    refine tkW 2 (some 43) (v := ?_) ?_ hHeld ?_
                    rotate_left
                    · (intro ww _; go_simp; try with_reducible rfl)
                    refine tkW 3 (some 44) (v := ?_) ?_ hHeld ?_
                    rotate_left
                    · (intro ww _; go_simp; try with_reducible rfl)
                    refine tkW 4 (some 45) (v := ?_) ?_ hHeld ?_
                    rotate_left
                    · (intro ww hSw; (try dsimp only at hSw); have q4 : ww.cell? ⟨w.heap.size, 4, none⟩ = some (.slice (some ⟨b1, o1, none⟩) t.at_.length ca) := (hSw.cell (p := ⟨w.heap.size, 4, none⟩) HQ4.out.1).trans HQ4.out.2; go_simp; try with_reducible rfl)
                    refine tkW 5 (some 46) (v := ?_) ?_ hHeld ?_
                    rotate_left
                    · (intro ww _; go_simp; try with_reducible rfl)
                    refine tkW 6 (some 47) (v := ?_) ?_ hHeld ?_
                    rotate_left
                    · (intro ww hSw; (try dsimp only at hSw); have w1 := Hj.out.2; go_simp; try with_reducible rfl)
                    refine tkW 7 (some 48) (v := ?_) ?_ hHeld ?_
                    rotate_left
                    · (intro ww hSw; (try dsimp only at hSw); go_simp; try with_reducible rfl)
                    refine tkW 8 (some 49) (v := ?_) ?_ hHeld ?_
                    rotate_left
                    · (intro ww _; go_simp; try with_reducible rfl)
                    refine tkW 9 (some 50) (v := ?_) ?_ hHeld ?_
                    rotate_left
                    · (intro ww hSw; (try dsimp only at hSw); have p0 : ww.cell? ⟨b1, o1 + j * 2, none⟩ = some (.string pv.1) := (hSw.cell (p := ⟨b1, o1 + j * 2, none⟩) HP.out.1).trans HPj.out; go_simp; try with_reducible rfl)
                    refine tkW 10 (some 51) (v := ?_) ?_ hHeld ?_
                    rotate_left
                    · (intro ww _; go_simp; try with_reducible rfl)
                    refine tkW 11 (some 52) (v := ?_) ?_ hHeld ?_
                    rotate_left
                    · (intro ww hSw; (try dsimp only at hSw); have q4 : ww.cell? ⟨w.heap.size, 4, none⟩ = some (.slice (some ⟨b1, o1, none⟩) t.at_.length ca) := (hSw.cell (p := ⟨w.heap.size, 4, none⟩) HQ4.out.1).trans HQ4.out.2; go_simp; try with_reducible rfl)
                    refine tkW 12 (some 53) (v := ?_) ?_ hHeld ?_
                    rotate_left
                    · (intro ww _; go_simp; try with_reducible rfl)
                    refine tkW 13 (some 54) (v := ?_) ?_ hHeld ?_
                    rotate_left
                    · (intro ww hSw; (try dsimp only at hSw); go_simp; try with_reducible rfl)
                    refine tkW 14 (some 55) (v := ?_) ?_ hHeld ?_
                    rotate_left
                    · (intro ww _; go_simp; try with_reducible rfl)
                    refine tkW 15 (some 56) (v := ?_) ?_ hHeld ?_
                    rotate_left
                    · (intro ww hSw; (try dsimp only at hSw); have p0 : ww.cell? ⟨b1, o1 + i * 2, none⟩ = some (.string x.1) := (hSw.cell (p := ⟨b1, o1 + i * 2, none⟩) HP.out.1).trans HP.out.2; go_simp; try with_reducible rfl)
                    refine tkW 16 (some 57) (v := ?_) ?_ hHeld ?_
                    rotate_left
                    · (intro ww hSw; (try dsimp only at hSw); have hq : ∀ w, (binOp .geq 9 (.string pv.1) (.string x.1)).run Try.prog w = .ok (.bool true) w := fun w => (by rw [run_geqS, Hlq.out]; rfl); go_simp; try with_reducible rfl)
                    refine tkW 17 (some 58) (v := ?_) ?_ hHeld ?_
                    rotate_left
                    · (intro ww _; go_simp; try with_reducible rfl)
                    refine wpAnyH_done (by kernel_rfl) ?_ _
                    have HBr := hide9 (HBr.out.trans (hHeld.mono HBr.out.size))
                    clear hHeld
                    go_wp2
                    go_ret
                    exact ⟨by rw [HF0.out, HF.out] <;> rfl, HB.out.trans (HBr.out.mono HB.out.size)⟩
                  · have HF : Hid (chkA noTx t.at_ = chkA x.1 (t.at_.drop (i + 1))) := He3.out.trans (if_neg (by simp [hlq]))
                    have Hlq := hide9 hlq
                    clear hlq He3
                    refine wp_region_held_drew (S := fun W' => Below wr.heap.size wr W') (by kernel_rfl) (Below.refl _ _).drew (fun hHeld => ?_)
                    obtain ⟨Un5u0, eW⟩ : ∃ X, X = wr.drew := ⟨_, rfl⟩
                    have hb : Below wr.heap.size wr Un5u0 := by rw [eW]; exact (Below.refl _ _).drew
                    rw [← eW] at hHeld ⊢
                    clear eW hb
                    refine tkW 0 (some 41) (v := ?_) ?_ hHeld ?_
                    rotate_left
                    · (intro ww hSw; (try dsimp only at hSw); go_simp; try with_reducible rfl)
                    refine tkW 1 (some 42) (v := ?_) ?_ hHeld ?_
                    rotate_left
                    · (intro ww hSw; (try dsimp only at hSw); go_simp; try with_reducible rfl)
                    refine tkW 2 (some 43) (v := ?_) ?_ hHeld ?_
                    rotate_left
                    · (intro ww _; go_simp; try with_reducible rfl)
                    refine tkW 3 (some 44) (v := ?_) ?_ hHeld ?_
                    rotate_left
                    · (intro ww _; go_simp; try with_reducible rfl)
                    refine tkW 4 (some 45) (v := ?_) ?_ hHeld ?_
                    rotate_left
                    · (intro ww hSw; (try dsimp only at hSw); have q4 : ww.cell? ⟨w.heap.size, 4, none⟩ = some (.slice (some ⟨b1, o1, none⟩) t.at_.length ca) := (hSw.cell (p := ⟨w.heap.size, 4, none⟩) HQ4.out.1).trans HQ4.out.2; go_simp; try with_reducible rfl)
                    refine tkW 5 (some 46) (v := ?_) ?_ hHeld ?_
                    rotate_left
                    · (intro ww _; go_simp; try with_reducible rfl)
                    refine tkW 6 (some 47) (v := ?_) ?_ hHeld ?_
                    rotate_left
                    · (intro ww hSw; (try dsimp only at hSw); have w1 := Hj.out.2; go_simp; try with_reducible rfl)
                    refine tkW 7 (some 48) (v := ?_) ?_ hHeld ?_
                    rotate_left
                    · (intro ww hSw; (try dsimp only at hSw); go_simp; try with_reducible rfl)
                    refine tkW 8 (some 49) (v := ?_) ?_ hHeld ?_
                    rotate_left
                    · (intro ww _; go_simp; try with_reducible rfl)
                    refine tkW 9 (some 50) (v := ?_) ?_ hHeld ?_
                    rotate_left
                    · (intro ww hSw; (try dsimp only at hSw); have p0 : ww.cell? ⟨b1, o1 + j * 2, none⟩ = some (.string pv.1) := (hSw.cell (p := ⟨b1, o1 + j * 2, none⟩) HP.out.1).trans HPj.out; go_simp; try with_reducible rfl)
                    refine tkW 10 (some 51) (v := ?_) ?_ hHeld ?_
                    rotate_left
                    · (intro ww _; go_simp; try with_reducible rfl)
                    refine tkW 11 (some 52) (v := ?_) ?_ hHeld ?_
                    rotate_left
                    · (intro ww hSw; (try dsimp only at hSw); have q4 : ww.cell? ⟨w.heap.size, 4, none⟩ = some (.slice (some ⟨b1, o1, none⟩) t.at_.length ca) := (hSw.cell (p := ⟨w.heap.size, 4, none⟩) HQ4.out.1).trans HQ4.out.2; go_simp; try with_reducible rfl)
                    refine tkW 12 (some 53) (v := ?_) ?_ hHeld ?_
                    rotate_left
                    · (intro ww _; go_simp; try with_reducible rfl)
                    refine tkW 13 (some 54) (v := ?_) ?_ hHeld ?_
                    rotate_left
                    · (intro ww hSw; (try dsimp only at hSw); go_simp; try with_reducible rfl)
                    refine tkW 14 (some 55) (v := ?_) ?_ hHeld ?_
                    rotate_left
                    · (intro ww _; go_simp; try with_reducible rfl)
                    refine tkW 15 (some 56) (v := ?_) ?_ hHeld ?_
                    rotate_left
                    · (intro ww hSw; (try dsimp only at hSw); have p0 : ww.cell? ⟨b1, o1 + i * 2, none⟩ = some (.string x.1) := (hSw.cell (p := ⟨b1, o1 + i * 2, none⟩) HP.out.1).trans HP.out.2; go_simp; try with_reducible rfl)
                    refine tkW 16 (some 57) (v := ?_) ?_ hHeld ?_
                    rotate_left
                    · (intro ww hSw; (try dsimp only at hSw); have hq : ∀ w, (binOp .geq 9 (.string pv.1) (.string x.1)).run Try.prog w = .ok (.bool false) w := fun w => (by rw [run_geqS, Hlq.out]; rfl); go_simp; try with_reducible rfl)
                    refine tkW 17 (some 58) (v := ?_) ?_ hHeld ?_
                    rotate_left
                    · (intro ww _; go_simp; try with_reducible rfl)
                    refine wpAnyH_done (by kernel_rfl) ?_ _
                    have HBr := hide9 (HBr.out.trans (hHeld.mono HBr.out.size))
                    clear hHeld
                    have n1 : IntKind.i64.wrap ((i : Int) + 1) = (i : Int) + 1 := by rw [IntKind.wrap_i64]; omega
                    go_wp2
                    go_roundw
                    case rel => exact ⟨i + 1, by go_num, by omega, (by show _ = _; rw [Hpn.out]; exact HF.out), HBr⟩
                    case measure => simp [intOf]; omega
          · have HF : Hid (chkA noTx t.at_ = 0) := HEq.out.trans (by rw [List.drop_eq_nil_of_le (by omega)]; rfl)
            have k1 : ¬ (i : Int) < (t.at_.length : Int) := by omega
            have k3 : decide ((i : Int) < (t.at_.length : Int)) = false := decide_eq_false k1
            go_wp2
            go_ret
            exact ⟨by rw [HF0.out, HF.out] <;> rfl, HB.out.trans (HBr.out.mono HB.out.size)⟩

end Go.Proofs.Ytccpljllgpabnaa
