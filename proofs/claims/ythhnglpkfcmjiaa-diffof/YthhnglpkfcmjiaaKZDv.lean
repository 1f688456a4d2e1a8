/- The document's Has, and what makes a node's own fields right. -/
import Derived.Test.YthhnglpkfcmjiaaKVtK
import Derived.Deep.Cut
import Derived.Laws.StructEq
import Derived.Test.YthhnglpkfcmjiaaKVtQ
import Derived.Test.YthhnglpkfcmjiaaKVtF
import Derived.Deep.AppendLies
import Derived.Test.YthhnglpkfcmjiaaKVtW
import Derived.Laws.OwnMore
import Derived.Deep.MidRow
import Derived.Test.YthhnglpkfcmjiaaKVtH
namespace Go.Proofs.Ythhnglpkfcmjiaa
open Go.RowKit
set_option linter.unusedVariables false
set_option linter.unusedSimpArgs false
set_option maxRecDepth 100000 in
set_option maxHeartbeats 4000000 in
theorem refHas_any (B : Nat) (v : Value) (D : List St) (s : St) (w : World) (h : OwnSt B w v D) (hl : D.length ≤ 1048577) : Calls Try.prog 22 #[v, .agg #[.int .i64 s.1, .int .i64 s.2]] w fun e w' => e = .returned (.bool (hasS D s)) ∧ Below w.heap.size w w' := by
  obtain ⟨a1, c1, rfl⟩ := OwnE.form h
  have hb0 : Below w.heap.size w (w.alloc (.cells #[.int .i64 s.1, .int .i64 s.2] 23)) := (Below.refl _ _).alloc (Nat.le_refl _) _
  have HO := hide9 h
  have HB0 := hide9 hb0
  have HKy : Hid (w.heap.size < (w.alloc (.cells #[.int .i64 s.1, .int .i64 s.2] 23)).heap.size ∧ (w.alloc (.cells #[.int .i64 s.1, .int .i64 s.2] 23)).cell? ⟨w.heap.size, 0, none⟩ = some (.int .i64 s.1) ∧ (w.alloc (.cells #[.int .i64 s.1, .int .i64 s.2] 23)).cell? ⟨w.heap.size, 1, none⟩ = some (.int .i64 s.2)) := ⟨by simp, by (rw [cell_of_row _ _ _ _ _ _ (heap_alloc_new w _)]; rfl), by (rw [cell_of_row _ _ _ _ _ _ (heap_alloc_new w _)]; rfl)⟩
  clear h hb0
  go_enter Try.func22, Try.ntmps22
  go_wp2
  go_loopw [5] (fun iv wr => ∃ (i : Nat), iv = .int .i64 (i : Int) ∧ i ≤ D.length ∧ Hid (hasS (D.take i) s = false) ∧ Hid (Below w.heap.size w wr ∧ Below (w.alloc (.cells #[.int .i64 s.1, .int .i64 s.2] 23)).heap.size (w.alloc (.cells #[.int .i64 s.1, .int .i64 s.2] 23)) wr)) (fun iv _ => D.length - (intOf iv).toNat)
  case atStart => exact ⟨0, rfl, Nat.zero_le _, rfl, ⟨HB0.out, Below.refl _ _⟩⟩
  case round =>
    obtain ⟨i, rfl, hil, HT, HBB⟩ := hrel
    have HBw := hide9 HBB.out.1
    have HB1 : Hid (Below (w.alloc (.cells #[.int .i64 s.1, .int .i64 s.2] 23)).heap.size (w.alloc (.cells #[.int .i64 s.1, .int .i64 s.2] 23)) wr) := HBB.out.2
    by_cases hlt : i < D.length
    · obtain ⟨g, cap, eg, _, hcs, _⟩ := OwnE.cells stCells_len HO.out hlt
      injection eg with e1 _ e3
      subst e1
      clear e3
      have hgl := (OwnE.lt HO.out g rfl).2
      have p0 := hcs 0 _ rfl
      have p1 := hcs 1 _ rfl
      have ht2 : hasS (D.take (i + 1)) s = (hasS (D.take i) s || decide (D[i] = s)) := (by unfold hasS; rw [List.take_succ_eq_append_getElem hlt, List.any_append]; simp)
      have hal : D[i] = s → hasS D s = true := fun e => hasS_iff.2 ⟨D[i], List.getElem_mem hlt, e⟩
      obtain ⟨x, ex⟩ : ∃ x, x = D[i] := ⟨_, rfl⟩
      rw [← ex] at p0 p1 ht2 hal
      have HG : Hid (g < (w.alloc (.cells #[.int .i64 s.1, .int .i64 s.2] 23)).heap.size ∧ (w.alloc (.cells #[.int .i64 s.1, .int .i64 s.2] 23)).cell? ⟨g, i * 2, none⟩ = some (.int .i64 x.1) ∧ (w.alloc (.cells #[.int .i64 s.1, .int .i64 s.2] 23)).cell? ⟨g, i * 2 + 1, none⟩ = some (.int .i64 x.2)) := ⟨by simp; omega, (HB0.out.cell (p := ⟨g, i * 2, none⟩) hgl).trans p0, (HB0.out.cell (p := ⟨g, i * 2 + 1, none⟩) hgl).trans p1⟩
      have Hal := hide9 hal
      have Ht2 := hide9 ht2
      have k1 : (i : Int) < (D.length : Int) := by omega
      have k0 : (0 : Int) ≤ (i : Int) := by omega
      clear ex p0 p1 hgl hcs ht2 hal HBB
      go_wp2_with fail
      by_cases he : x = s
      · have HE : Hid ((x.1, x.2) = (s.1, s.2)) := he
        have HR : Hid (hasS D s = true) := Hal.out he
        clear he
        refine wp_region_held_drew (S := fun W' => Below (w.alloc (.cells #[.int .i64 s.1, .int .i64 s.2] 23)).heap.size (w.alloc (.cells #[.int .i64 s.1, .int .i64 s.2] 23)) W') (by kernel_rfl) HB1.out.drew (fun hHeld => ?_)
        obtain ⟨Ua1u0, eW⟩ : ∃ X, X = wr.drew := ⟨_, rfl⟩
        have hb : Below wr.heap.size wr Ua1u0 := by rw [eW]; exact (Below.refl _ _).drew
        replace HBw : Hid (Below w.heap.size w Ua1u0) := HBw.out.trans (hb.mono HBw.out.size)
        rw [← eW] at hHeld ⊢
        clear eW hb
        refine tkW 0 (some 12) (v := ?_) ?_ hHeld ?_
        rotate_left
        · (intro ww _; go_simp; try with_reducible rfl)
        refine tkW 1 (some 13) (v := ?_) ?_ hHeld ?_
        rotate_left
        · (intro ww _; go_simp; try with_reducible rfl)
        refine tkW 2 (some 14) (v := ?_) ?_ hHeld ?_
        rotate_left
        · (intro ww hSw; (try dsimp only at hSw); go_simp; try with_reducible rfl)
        refine tkW 3 (some 15) (v := ?_) ?_ hHeld ?_
        rotate_left
        · (intro ww hSw; (try dsimp only at hSw); have a0 : ww.cell? ⟨g, i * 2, none⟩ = some (.int .i64 x.1) := (hSw.cell (p := ⟨g, i * 2, none⟩) HG.out.1).trans HG.out.2.1; have a1 : ww.cell? ⟨g, i * 2 + 1, none⟩ = some (.int .i64 x.2) := (hSw.cell (p := ⟨g, i * 2 + 1, none⟩) HG.out.1).trans HG.out.2.2; go_simp; try with_reducible rfl)
        refine tkW 4 (some 16) (v := ?_) ?_ hHeld ?_
        rotate_left
        · (intro ww hSw; (try dsimp only at hSw); have a0 : ww.cell? ⟨w.heap.size, 0, none⟩ = some (.int .i64 s.1) := (hSw.cell (p := ⟨w.heap.size, 0, none⟩) HKy.out.1).trans HKy.out.2.1; have a1 : ww.cell? ⟨w.heap.size, 1, none⟩ = some (.int .i64 s.2) := (hSw.cell (p := ⟨w.heap.size, 1, none⟩) HKy.out.1).trans HKy.out.2.2; go_simp; try with_reducible rfl)
        refine tkW 5 (some 17) (v := ?_) ?_ hHeld ?_
        rotate_left
        · (intro ww hSw; (try dsimp only at hSw); have hq : ∀ w, (binOp .eql 23 (.agg #[.int .i64 x.1, .int .i64 x.2]) (.agg #[.int .i64 s.1, .int .i64 s.2])).run Try.prog w = .ok (.bool true) w := fun w => (by rw [eqlSt, decide_eq_true HE.out]); go_simp; try with_reducible rfl)
        refine wpAnyH_done (by kernel_rfl) ?_ _
        clear hHeld
        go_wp2
        go_ret
        exact ⟨ret_bool (by rw [HR.out]), HBw.out⟩
      · have HE : Hid (¬ (x.1, x.2) = (s.1, s.2)) := he
        have HT2 : Hid (hasS (D.take (i + 1)) s = false) := (by show _ = _; rw [Ht2.out, HT.out, decide_eq_false he]; rfl)
        clear he
        refine wp_region_held_drew (S := fun W' => Below (w.alloc (.cells #[.int .i64 s.1, .int .i64 s.2] 23)).heap.size (w.alloc (.cells #[.int .i64 s.1, .int .i64 s.2] 23)) W') (by kernel_rfl) HB1.out.drew (fun hHeld => ?_)
        obtain ⟨Ub2u0, eW⟩ : ∃ X, X = wr.drew := ⟨_, rfl⟩
        have hb : Below wr.heap.size wr Ub2u0 := by rw [eW]; exact (Below.refl _ _).drew
        replace HBw : Hid (Below w.heap.size w Ub2u0) := HBw.out.trans (hb.mono HBw.out.size)
        rw [← eW] at hHeld ⊢
        clear eW hb
        refine tkW 0 (some 12) (v := ?_) ?_ hHeld ?_
        rotate_left
        · (intro ww _; go_simp; try with_reducible rfl)
        refine tkW 1 (some 13) (v := ?_) ?_ hHeld ?_
        rotate_left
        · (intro ww _; go_simp; try with_reducible rfl)
        refine tkW 2 (some 14) (v := ?_) ?_ hHeld ?_
        rotate_left
        · (intro ww hSw; (try dsimp only at hSw); go_simp; try with_reducible rfl)
        refine tkW 3 (some 15) (v := ?_) ?_ hHeld ?_
        rotate_left
        · (intro ww hSw; (try dsimp only at hSw); have a0 : ww.cell? ⟨g, i * 2, none⟩ = some (.int .i64 x.1) := (hSw.cell (p := ⟨g, i * 2, none⟩) HG.out.1).trans HG.out.2.1; have a1 : ww.cell? ⟨g, i * 2 + 1, none⟩ = some (.int .i64 x.2) := (hSw.cell (p := ⟨g, i * 2 + 1, none⟩) HG.out.1).trans HG.out.2.2; go_simp; try with_reducible rfl)
        refine tkW 4 (some 16) (v := ?_) ?_ hHeld ?_
        rotate_left
        · (intro ww hSw; (try dsimp only at hSw); have a0 : ww.cell? ⟨w.heap.size, 0, none⟩ = some (.int .i64 s.1) := (hSw.cell (p := ⟨w.heap.size, 0, none⟩) HKy.out.1).trans HKy.out.2.1; have a1 : ww.cell? ⟨w.heap.size, 1, none⟩ = some (.int .i64 s.2) := (hSw.cell (p := ⟨w.heap.size, 1, none⟩) HKy.out.1).trans HKy.out.2.2; go_simp; try with_reducible rfl)
        refine tkW 5 (some 17) (v := ?_) ?_ hHeld ?_
        rotate_left
        · (intro ww hSw; (try dsimp only at hSw); have hq : ∀ w, (binOp .eql 23 (.agg #[.int .i64 x.1, .int .i64 x.2]) (.agg #[.int .i64 s.1, .int .i64 s.2])).run Try.prog w = .ok (.bool false) w := fun w => (by rw [eqlSt, decide_eq_false HE.out]); go_simp; try with_reducible rfl)
        refine wpAnyH_done (by kernel_rfl) ?_ _
        have HB2 := hide9 hHeld
        clear hHeld
        have n1 : IntKind.i64.wrap ((i : Int) + 1) = (i : Int) + 1 := by rw [IntKind.wrap_i64]; omega
        go_wp2
        go_roundw
        case rel => exact ⟨i + 1, by go_num, by omega, HT2, ⟨HBw.out, HB2.out⟩⟩
        case measure => simp [intOf]; omega
    · have HR : Hid (hasS D s = false) := (by have h1 := HT.out; rw [List.take_of_length_le (by omega)] at h1; exact h1)
      have k1 : ¬ (i : Int) < (D.length : Int) := by omega
      have k3 : decide ((i : Int) < (D.length : Int)) = false := decide_eq_false k1
      go_wp2
      go_ret
      exact ⟨ret_bool (by rw [HR.out]), HBw.out⟩
theorem run_geqS (a b : ByteArray) (w : World) : (binOp .geq 9 (.string a) (.string b)).run Try.prog w = .ok (.bool (!ltT a b)) w := by
  rw [← txt_less]
  first | rfl | (simp [binOp, go_sem]; done) | kernel_rfl
/-- The name ahead of place i. -/
def prevA (A : List At) (i : Nat) : ByteArray := if i = 0 then noTx else (A.getD (i - 1) (noTx, noTx)).1
theorem prevA_pos {A : List At} {i : Nat} (h0 : i ≠ 0) (h : i - 1 < A.length) : ∃ hj : i - 1 < A.length, prevA A i = A[i - 1].1 := ⟨h, by unfold prevA; rw [if_neg h0, List.getD_eq_getElem?_getD, List.getElem?_eq_getElem h]; rfl⟩
theorem prevA_succ {A : List At} {i : Nat} (h : i < A.length) : prevA A (i + 1) = A[i].1 := by
  unfold prevA
  rw [if_neg (by omega), Nat.add_sub_cancel, List.getD_eq_getElem?_getD, List.getElem?_eq_getElem h]
  rfl
theorem name_pos {b : ByteArray} (h : nameL (txL b) = true) : ltT noTx b = true := by
  unfold ltT
  rw [decide_eq_true_eq]
  unfold nameL at h
  cases hb : txL b with
  | nil => rw [hb] at h; simp at h
  | cons x l => show [] < x :: l; simp
set_option maxRecDepth 100000 in
set_option maxHeartbeats 8000000 in
theorem refNodeC_any (G : Nat → Prop) (t : VT) (v : Value) (w : World) (h : VIs G w v t) (hn : BnT t) : Calls Try.prog 44 #[v] w fun e w' => e = .returned (.int .i64 (chkN t)) ∧ Below w.heap.size w w' := by
  obtain ⟨aa, ca, ak, ck, e1, fd⟩ := h.form
  subst e1
  obtain ⟨W0, eW⟩ : ∃ X, X = (w.alloc (.cells #[.int .i64 t.k.1, .int .i64 t.k.2, .string t.tg, .string t.tx, .slice aa t.at_.length ca, .slice ak t.ks.length ck] 27)) := ⟨_, rfl⟩
  have hb0 : Below w.heap.size w W0 := (by rw [eW]; exact (Below.refl _ _).alloc (Nat.le_refl _) _)
  have HTb : Hid (W0.heap[w.heap.size]? = some (.cells #[.int .i64 t.k.1, .int .i64 t.k.2, .string t.tg, .string t.tx, .slice aa t.at_.length ca, .slice ak t.ks.length ck] 27)) := (by rw [eW]; exact heap_alloc_new _ _)
  have HFd := hide9 (fd.below hb0)
  have HB := hide9 hb0
  have Hn := hide9 hn
  have hal := fd.al
  have HE := hide9 eW
  clear h fd hn hb0 eW
  go_enter Try.func44, Try.ntmps44
  go_wp2_with fail
  rw [← HE.out]
  clear HE
  refine (refName_any t.tg Hn.out.1 _).mono ?_
  rintro e w1 ⟨rfl, hw⟩
  replace hw := hw.symm
  subst hw
  cases hnm : nameL (txL t.tg)
  · have hnm2 : nameL t.tg.data.toList = false := hnm
    have HF : Hid (chkN t = 8) := if_pos hnm
    rw [hnm2]
    clear hnm hnm2
    go_wp2
    go_ret
    exact ⟨by rw [HF.out] <;> rfl, HB.out⟩
  · have hnm2 : nameL t.tg.data.toList = true := hnm
    have He : Hid (chkN t = if 256 < t.tx.size ∨ 4096 < t.at_.length then 3 else chkA noTx t.at_) := if_neg (by simp [hnm])
    rw [hnm2]
    clear hnm hnm2
    obtain ⟨_, _, _, q3, q4, _⟩ := row6 HTb.out
    by_cases h1 : 256 < t.tx.size
    · have q1 : (256 : Int) < (t.tx.size : Int) := by omega
      have HF : Hid (chkN t = 3) := He.out.trans (if_pos (by omega))
      go_wp2
      go_ret
      exact ⟨by rw [HF.out] <;> rfl, HB.out⟩
    · have q1 : ¬ (256 : Int) < (t.tx.size : Int) := by omega
      by_cases h2 : 4096 < t.at_.length
      · have q2 : (4096 : Int) < (t.at_.length : Int) := by omega
        have HF : Hid (chkN t = 3) := He.out.trans (if_pos (by omega))
        go_wp2
        go_ret
        exact ⟨by rw [HF.out] <;> rfl, HB.out⟩
      · have q2 : ¬ (4096 : Int) < (t.at_.length : Int) := by omega
        have HF0 : Hid (chkN t = chkA noTx t.at_) := He.out.trans (if_neg (by omega))
        clear He
        go_wp2
        go_loopw [3] (fun iv wr => ∃ (i : Nat), iv = .int .i64 (i : Int) ∧ i ≤ t.at_.length ∧ Hid (chkA noTx t.at_ = chkA (prevA t.at_ i) (t.at_.drop i)) ∧ Hid (Below W0.heap.size W0 wr)) (fun iv _ => t.at_.length - (intOf iv).toNat)
        case atStart => exact ⟨0, rfl, Nat.zero_le _, rfl, Below.refl _ _⟩
        case round =>
          clear q3 q4
          obtain ⟨i, rfl, hil, HEq, HBr⟩ := hrel
          have HTr : Hid (wr.heap[w.heap.size]? = some (.cells #[.int .i64 t.k.1, .int .i64 t.k.2, .string t.tg, .string t.tx, .slice aa t.at_.length ca, .slice ak t.ks.length ck] 27)) := (HBr.out.block _ (row_lt HTb.out)).trans HTb.out
          have q4 := (row6 HTr.out).2.2.2.2.1
          by_cases hlt : i < t.at_.length
          · obtain ⟨b1, o1, rfl, _, hl1, p0, p1⟩ := (HFd.out.at_.below HBr.out).rowA hlt
            have hnx := Hn.out.2 t.at_[i] (List.getElem_mem hlt)
            have he := HEq.out
            rw [List.drop_eq_getElem_cons hlt, chkA] at he
            have hpv : i ≠ 0 → ∃ hj : i - 1 < t.at_.length, prevA t.at_ i = t.at_[i - 1].1 := fun h0 => prevA_pos h0 (by omega)
            have hpn : prevA t.at_ (i + 1) = t.at_[i].1 := prevA_succ hlt
            obtain ⟨x, ex⟩ : ∃ x, x = t.at_[i] := ⟨_, rfl⟩
            rw [← ex] at p0 p1 hnx he hpn
            have Hpn := hide9 hpn
            have Hpv := hide9 hpv
            have Hnx : Hid (x.1.size ≤ 281474976710656) := hnx
            have k1 : (i : Int) < (t.at_.length : Int) := by omega
            have k0 : (0 : Int) ≤ (i : Int) := by omega
            have He := hide9 he
            have HP : Hid (b1 < wr.heap.size ∧ wr.cell? ⟨b1, o1 + i * 2, none⟩ = some (.string x.1)) := ⟨hl1, p0⟩
            clear ex hnx he HEq hpv hpn hl1
            go_wp2_with fail
            refine (refName_any x.1 Hnx.out _).mono ?_
            rintro e w1 ⟨rfl, hw⟩
            replace hw := hw.symm
            subst hw
            cases hnm : nameL (txL x.1)
            · have hnm2 : nameL x.1.data.toList = false := hnm
              have HF : Hid (chkA noTx t.at_ = 8) := He.out.trans (if_pos hnm)
              clear hnm
              rw [hnm2]
              clear hnm2
              go_wp2
              go_ret
              exact ⟨by rw [HF0.out, HF.out] <;> rfl, HB.out.trans (HBr.out.mono HB.out.size)⟩
            · have hnm2 : nameL x.1.data.toList = true := hnm
              have He2 : Hid (chkA noTx t.at_ = if 256 < x.2.size then 3 else if ltT (prevA t.at_ i) x.1 = false then 2 else chkA x.1 (t.at_.drop (i + 1))) := He.out.trans (if_neg (by simp [hnm]))
              have hlt0 : ltT noTx x.1 = true := name_pos hnm
              have Hl0 := hide9 hlt0
              clear hnm He hlt0
              rw [hnm2]
              clear hnm2
              by_cases hv : 256 < x.2.size
              · have q1b : (256 : Int) < (x.2.size : Int) := by omega
                have HF : Hid (chkA noTx t.at_ = 3) := He2.out.trans (if_pos hv)
                clear hv
                go_wp2
                go_ret
                exact ⟨by rw [HF0.out, HF.out] <;> rfl, HB.out.trans (HBr.out.mono HB.out.size)⟩
              · have q1b : ¬ (256 : Int) < (x.2.size : Int) := by omega
                have He3 : Hid (chkA noTx t.at_ = if ltT (prevA t.at_ i) x.1 = false then 2 else chkA x.1 (t.at_.drop (i + 1))) := He2.out.trans (if_neg hv)
                clear hv He2
                go_upto_region 12 with fail
                clear p0 p1 q4
                by_cases h0 : i = 0
                · have HF : Hid (chkA noTx t.at_ = chkA x.1 (t.at_.drop (i + 1))) := He3.out.trans (if_neg (by rw [h0]; show ¬ ltT noTx x.1 = false; rw [Hl0.out]; simp))
                  have h0i : (i : Int) = 0 := by omega
                  have g0 : ¬ (0 : Int) < (i : Int) := by omega
                  have g1 : decide ((0 : Int) < (i : Int)) = false := decide_eq_false g0
                  have g2 : ¬ 0 < i := by omega
                  have g3 : decide (0 < i) = false := decide_eq_false g2
                  clear h0 h0i He3
                  refine wp_region_held_drew (S := fun W' => Below wr.heap.size wr W') (by kernel_rfl) (Below.refl _ _).drew (fun hHeld => ?_)
                  obtain ⟨Uz3u0, eW⟩ : ∃ X, X = wr.drew := ⟨_, rfl⟩
                  have hb : Below wr.heap.size wr Uz3u0 := by rw [eW]; exact (Below.refl _ _).drew
                  rw [← eW] at hHeld ⊢
                  clear eW hb
                  refine tkW 0 (some 41) (v := ?_) ?_ hHeld ?_
                  rotate_left
                  · (intro ww hSw; (try dsimp only at hSw); go_simp; try with_reducible rfl)
                  refine tkW 1 (some 42) (v := ?_) ?_ hHeld ?_
                  rotate_left
                  · (intro ww hSw; (try dsimp only at hSw); go_simp; try with_reducible rfl)
                  refine tkW 2 (some 43) (v := ?_) ?_ hHeld ?_
                  rotate_left
                  · (intro ww _; go_simp; try with_reducible rfl)
                  refine tkU 3 (some 44) hHeld ?_
                  refine tkU 4 (some 45) hHeld ?_
                  refine tkU 5 (some 46) hHeld ?_
                  refine tkU 6 (some 47) hHeld ?_
                  refine tkU 7 (some 48) hHeld ?_
                  refine tkU 8 (some 49) hHeld ?_
                  refine tkU 9 (some 50) hHeld ?_
                  refine tkU 10 (some 51) hHeld ?_
                  refine tkU 11 (some 52) hHeld ?_
                  refine tkU 12 (some 53) hHeld ?_
                  refine tkU 13 (some 54) hHeld ?_
                  refine tkU 14 (some 55) hHeld ?_
                  refine tkU 15 (some 56) hHeld ?_
                  refine tkU 16 (some 57) hHeld ?_
                  refine tkW 17 (some 58) (v := ?_) ?_ hHeld ?_
                  rotate_left
                  · (intro ww _; go_simp; try with_reducible rfl)
                  refine wpAnyH_done (by kernel_rfl) ?_ _
                  have HBr := hide9 (HBr.out.trans (hHeld.mono HBr.out.size))
                  clear hHeld
                  have n1 : IntKind.i64.wrap ((i : Int) + 1) = (i : Int) + 1 := by rw [IntKind.wrap_i64]; omega
                  go_wp2
                  go_roundw
                  case rel => exact ⟨i + 1, by go_num, by omega, (by show _ = _; rw [Hpn.out]; exact HF.out), HBr⟩
                  case measure => simp [intOf]; omega
                · obtain ⟨hj, epv⟩ := Hpv.out h0
                  obtain ⟨j, ej⟩ : ∃ j, j = i - 1 := ⟨_, rfl⟩
                  obtain ⟨_, _, e9, _, _, pj, pj2⟩ := (HFd.out.at_.below HBr.out).rowA hj
                  injection e9 with e9
                  injection e9 with e91 e92
                  subst e91 e92
                  obtain ⟨pv, epv2⟩ : ∃ p, p = t.at_[i - 1] := ⟨_, rfl⟩
                  rw [← epv2] at pj epv
                  rw [← ej] at pj
                  have HPj := hide9 pj
                  have HQ4 : Hid (w.heap.size < wr.heap.size ∧ wr.cell? ⟨w.heap.size, 4, none⟩ = some (.slice (some ⟨b1, o1, none⟩) t.at_.length ca)) := ⟨row_lt HTr.out, (row6 HTr.out).2.2.2.2.1⟩
                  have Hj : Hid ((j : Int) < (t.at_.length : Int) ∧ IntKind.i64.wrap ((i : Int) - 1) = (j : Int)) := ⟨by omega, by rw [IntKind.wrap_i64]; omega⟩
                  have hj1 := Hj.out.1
                  have hj0 : (0 : Int) ≤ (j : Int) := by omega
                  have g0 : (0 : Int) < (i : Int) := by omega
                  have g1 : decide ((0 : Int) < (i : Int)) = true := decide_eq_true g0
                  have g2 : 0 < i := by omega
                  have g3 : decide (0 < i) = true := decide_eq_true g2
                  rw [epv] at He3
                  clear pj pj2 epv epv2 ej hj h0
                  cases hlq : ltT pv.1 x.1
                  · have HF : Hid (chkA noTx t.at_ = 2) := He3.out.trans (if_pos hlq)
                    have Hlq := hide9 hlq
                    clear hlq He3
                    refine wp_region_held_drew (S := fun W' => Below wr.heap.size wr W') (by kernel_rfl) (Below.refl _ _).drew (fun hHeld => ?_)
                    obtain ⟨Uy4u0, eW⟩ : ∃ X, X = wr.drew := ⟨_, rfl⟩
                    have hb : Below wr.heap.size wr Uy4u0 := by rw [eW]; exact (Below.refl _ _).drew
                    rw [← eW] at hHeld ⊢
                    clear eW hb
                    refine tkW 0 (some 41) (v := ?_) ?_ hHeld ?_
                    rotate_left
                    · (intro ww hSw; (try dsimp only at hSw); go_simp; try with_reducible rfl)
                    refine tkW 1 (some 42) (v := ?_) ?_ hHeld ?_
                    rotate_left
                    · (intro ww hSw; (try dsimp only at hSw); go_simp; try with_reducible rfl)
                    refine tkW 2 (some 43) (v := ?_) ?_ hHeld ?_
                    rotate_left
                    · (intro ww _; go_simp; try with_reducible rfl)
                    refine tkW 3 (some 44) (v := ?_) ?_ hHeld ?_
                    rotate_left
                    · (intro ww _; go_simp; try with_reducible rfl)
                    refine tkW 4 (some 45) (v := ?_) ?_ hHeld ?_
                    rotate_left
                    · (intro ww hSw; (try dsimp only at hSw); have q4 : ww.cell? ⟨w.heap.size, 4, none⟩ = some (.slice (some ⟨b1, o1, none⟩) t.at_.length ca) := (hSw.cell (p := ⟨w.heap.size, 4, none⟩) HQ4.out.1).trans HQ4.out.2; go_simp; try with_reducible rfl)
                    refine tkW 5 (some 46) (v := ?_) ?_ hHeld ?_
                    rotate_left
                    · (intro ww _; go_simp; try with_reducible rfl)
                    refine tkW 6 (some 47) (v := ?_) ?_ hHeld ?_
                    rotate_left
                    · (intro ww hSw; (try dsimp only at hSw); have w1 := Hj.out.2; go_simp; try with_reducible rfl)
                    refine tkW 7 (some 48) (v := ?_) ?_ hHeld ?_
                    rotate_left
                    · (intro ww hSw; (try dsimp only at hSw); go_simp; try with_reducible rfl)
                    refine tkW 8 (some 49) (v := ?_) ?_ hHeld ?_
                    rotate_left
                    · (intro ww _; go_simp; try with_reducible rfl)
                    refine tkW 9 (some 50) (v := ?_) ?_ hHeld ?_
                    rotate_left
                    · (intro ww hSw; (try dsimp only at hSw); have p0 : ww.cell? ⟨b1, o1 + j * 2, none⟩ = some (.string pv.1) := (hSw.cell (p := ⟨b1, o1 + j * 2, none⟩) HP.out.1).trans HPj.out; go_simp; try with_reducible rfl)
                    refine tkW 10 (some 51) (v := ?_) ?_ hHeld ?_
                    rotate_left
                    · (intro ww _; go_simp; try with_reducible rfl)
                    refine tkW 11 (some 52) (v := ?_) ?_ hHeld ?_
                    rotate_left
                    · (intro ww hSw; (try dsimp only at hSw); have q4 : ww.cell? ⟨w.heap.size, 4, none⟩ = some (.slice (some ⟨b1, o1, none⟩) t.at_.length ca) := (hSw.cell (p := ⟨w.heap.size, 4, none⟩) HQ4.out.1).trans HQ4.out.2; go_simp; try with_reducible rfl)
                    refine tkW 12 (some 53) (v := ?_) ?_ hHeld ?_
                    rotate_left
                    · (intro ww _; go_simp; try with_reducible rfl)
                    refine tkW 13 (some 54) (v := ?_) ?_ hHeld ?_
                    rotate_left
                    · (intro ww hSw; (try dsimp only at hSw); go_simp; try with_reducible rfl)
                    refine tkW 14 (some 55) (v := ?_) ?_ hHeld ?_
                    rotate_left
                    · (intro ww _; go_simp; try with_reducible rfl)
                    refine tkW 15 (some 56) (v := ?_) ?_ hHeld ?_
                    rotate_left
                    · (intro ww hSw; (try dsimp only at hSw); have p0 : ww.cell? ⟨b1, o1 + i * 2, none⟩ = some (.string x.1) := (hSw.cell (p := ⟨b1, o1 + i * 2, none⟩) HP.out.1).trans HP.out.2; go_simp; try with_reducible rfl)
                    refine tkW 16 (some 57) (v := ?_) ?_ hHeld ?_
                    rotate_left
                    · (intro ww hSw; (try dsimp only at hSw); have hq : ∀ w, (binOp .geq 9 (.string pv.1) (.string x.1)).run Try.prog w = .ok (.bool true) w := fun w => (by rw [run_geqS, Hlq.out]; rfl); go_simp; try with_reducible rfl)
                    refine tkW 17 (some 58) (v := ?_) ?_ hHeld ?_
                    rotate_left
                    · (intro ww _; go_simp; try with_reducible rfl)
                    refine wpAnyH_done (by kernel_rfl) ?_ _
                    have HBr := hide9 (HBr.out.trans (hHeld.mono HBr.out.size))
                    clear hHeld
                    go_wp2
                    go_ret
                    exact ⟨by rw [HF0.out, HF.out] <;> rfl, HB.out.trans (HBr.out.mono HB.out.size)⟩
                  · have HF : Hid (chkA noTx t.at_ = chkA x.1 (t.at_.drop (i + 1))) := He3.out.trans (if_neg (by simp [hlq]))
                    have Hlq := hide9 hlq
                    clear hlq He3
                    refine wp_region_held_drew (S := fun W' => Below wr.heap.size wr W') (by kernel_rfl) (Below.refl _ _).drew (fun hHeld => ?_)
                    obtain ⟨Un5u0, eW⟩ : ∃ X, X = wr.drew := ⟨_, rfl⟩
                    have hb : Below wr.heap.size wr Un5u0 := by rw [eW]; exact (Below.refl _ _).drew
                    rw [← eW] at hHeld ⊢
                    clear eW hb
                    refine tkW 0 (some 41) (v := ?_) ?_ hHeld ?_
                    rotate_left
                    · (intro ww hSw; (try dsimp only at hSw); go_simp; try with_reducible rfl)
                    refine tkW 1 (some 42) (v := ?_) ?_ hHeld ?_
                    rotate_left
                    · (intro ww hSw; (try dsimp only at hSw); go_simp; try with_reducible rfl)
                    refine tkW 2 (some 43) (v := ?_) ?_ hHeld ?_
                    rotate_left
                    · (intro ww _; go_simp; try with_reducible rfl)
                    refine tkW 3 (some 44) (v := ?_) ?_ hHeld ?_
                    rotate_left
                    · (intro ww _; go_simp; try with_reducible rfl)
                    refine tkW 4 (some 45) (v := ?_) ?_ hHeld ?_
                    rotate_left
                    · (intro ww hSw; (try dsimp only at hSw); have q4 : ww.cell? ⟨w.heap.size, 4, none⟩ = some (.slice (some ⟨b1, o1, none⟩) t.at_.length ca) := (hSw.cell (p := ⟨w.heap.size, 4, none⟩) HQ4.out.1).trans HQ4.out.2; go_simp; try with_reducible rfl)
                    refine tkW 5 (some 46) (v := ?_) ?_ hHeld ?_
                    rotate_left
                    · (intro ww _; go_simp; try with_reducible rfl)
                    refine tkW 6 (some 47) (v := ?_) ?_ hHeld ?_
                    rotate_left
                    · (intro ww hSw; (try dsimp only at hSw); have w1 := Hj.out.2; go_simp; try with_reducible rfl)
                    refine tkW 7 (some 48) (v := ?_) ?_ hHeld ?_
                    rotate_left
                    · (intro ww hSw; (try dsimp only at hSw); go_simp; try with_reducible rfl)
                    refine tkW 8 (some 49) (v := ?_) ?_ hHeld ?_
                    rotate_left
                    · (intro ww _; go_simp; try with_reducible rfl)
                    refine tkW 9 (some 50) (v := ?_) ?_ hHeld ?_
                    rotate_left
                    · (intro ww hSw; (try dsimp only at hSw); have p0 : ww.cell? ⟨b1, o1 + j * 2, none⟩ = some (.string pv.1) := (hSw.cell (p := ⟨b1, o1 + j * 2, none⟩) HP.out.1).trans HPj.out; go_simp; try with_reducible rfl)
                    refine tkW 10 (some 51) (v := ?_) ?_ hHeld ?_
                    rotate_left
                    · (intro ww _; go_simp; try with_reducible rfl)
                    refine tkW 11 (some 52) (v := ?_) ?_ hHeld ?_
                    rotate_left
                    · (intro ww hSw; (try dsimp only at hSw); have q4 : ww.cell? ⟨w.heap.size, 4, none⟩ = some (.slice (some ⟨b1, o1, none⟩) t.at_.length ca) := (hSw.cell (p := ⟨w.heap.size, 4, none⟩) HQ4.out.1).trans HQ4.out.2; go_simp; try with_reducible rfl)
                    refine tkW 12 (some 53) (v := ?_) ?_ hHeld ?_
                    rotate_left
                    · (intro ww _; go_simp; try with_reducible rfl)
                    refine tkW 13 (some 54) (v := ?_) ?_ hHeld ?_
                    rotate_left
                    · (intro ww hSw; (try dsimp only at hSw); go_simp; try with_reducible rfl)
                    refine tkW 14 (some 55) (v := ?_) ?_ hHeld ?_
                    rotate_left
                    · (intro ww _; go_simp; try with_reducible rfl)
                    refine tkW 15 (some 56) (v := ?_) ?_ hHeld ?_
                    rotate_left
                    · (intro ww hSw; (try dsimp only at hSw); have p0 : ww.cell? ⟨b1, o1 + i * 2, none⟩ = some (.string x.1) := (hSw.cell (p := ⟨b1, o1 + i * 2, none⟩) HP.out.1).trans HP.out.2; go_simp; try with_reducible rfl)
                    refine tkW 16 (some 57) (v := ?_) ?_ hHeld ?_
                    rotate_left
                    · (intro ww hSw; (try dsimp only at hSw); have hq : ∀ w, (binOp .geq 9 (.string pv.1) (.string x.1)).run Try.prog w = .ok (.bool false) w := fun w => (by rw [run_geqS, Hlq.out]; rfl); go_simp; try with_reducible rfl)
                    refine tkW 17 (some 58) (v := ?_) ?_ hHeld ?_
                    rotate_left
                    · (intro ww _; go_simp; try with_reducible rfl)
                    refine wpAnyH_done (by kernel_rfl) ?_ _
                    have HBr := hide9 (HBr.out.trans (hHeld.mono HBr.out.size))
                    clear hHeld
                    have n1 : IntKind.i64.wrap ((i : Int) + 1) = (i : Int) + 1 := by rw [IntKind.wrap_i64]; omega
                    go_wp2
                    go_roundw
                    case rel => exact ⟨i + 1, by go_num, by omega, (by show _ = _; rw [Hpn.out]; exact HF.out), HBr⟩
                    case measure => simp [intOf]; omega
          · have HF : Hid (chkA noTx t.at_ = 0) := HEq.out.trans (by rw [List.drop_eq_nil_of_le (by omega)]; rfl)
            have k1 : ¬ (i : Int) < (t.at_.length : Int) := by omega
            have k3 : decide ((i : Int) < (t.at_.length : Int)) = false := decide_eq_false k1
            go_wp2
            go_ret
            exact ⟨by rw [HF0.out, HF.out] <;> rfl, HB.out.trans (HBr.out.mono HB.out.size)⟩
end Go.Proofs.Ythhnglpkfcmjiaa

namespace Go.Proofs.Ythhnglpkfcmjiaa
open Go.RowKit
set_option linter.unusedVariables false
set_option linter.unusedSimpArgs false
/-- Why nodes laid flat are not right. -/
def chk2 (seen : List St) (i : Nat) : List VT → Int
  | [] => 0
  | x :: r => if keyB i x.k = false then 2 else if hasS seen x.k = true then 5 else if chkN x ≠ 0 then chkN x else chk2 (seen ++ [x.k]) (i + 1) r
theorem flatD_n : ∀ (n : Nat), (∀ t d, VT.sz t ≤ n → (flatD t d).map Prod.snd = flT t ∧ ∀ x ∈ flatD t d, d ≤ x.1) ∧ (∀ l d, szs l ≤ n → (flatDs l d).map Prod.snd = flTs l ∧ ∀ x ∈ flatDs l d, d ≤ x.1)
  | 0 => ⟨fun t d h => by have := t.sz_pos; omega, fun l d h => by
      cases l with
      | nil => simp [flTs, flatDs]
      | cons x r => have := x.sz_pos; rw [szs] at h; omega⟩
  | n + 1 => by
    have ih := flatD_n n
    have h1 : ∀ t d, VT.sz t ≤ n + 1 → (flatD t d).map Prod.snd = flT t ∧ ∀ x ∈ flatD t d, d ≤ x.1 := fun t d h => by
      have h2 := ih.2 t.ks (d + 1) (by have := t.sz_eq; omega)
      rw [flT_eq, flatD_eq, List.map_cons, h2.1]
      exact ⟨rfl, fun x hx => by
        rcases List.mem_cons.1 hx with rfl | hx
        · exact Nat.le_refl _
        · have := h2.2 x hx; omega⟩
    refine ⟨h1, fun l => ?_⟩
    induction l with
    | nil => intro _ _; simp [flTs, flatDs]
    | cons x r ihr =>
      intro d h
      rw [szs] at h
      have a1 := h1 x d (by omega)
      have a2 := ihr d (by omega)
      rw [flTs, flatDs, List.map_append, a1.1, a2.1]
      exact ⟨rfl, fun y hy => (List.mem_append.1 hy).elim (a1.2 y) (a2.2 y)⟩
theorem flatD_snd (t : VT) (d : Nat) : (flatD t d).map Prod.snd = flT t := ((flatD_n t.sz).1 t d (Nat.le_refl _)).1
theorem chkR_pos : ∀ (l : List (Nat × VT)) (seen : List St) (i : Nat), (∀ x ∈ l, 1 ≤ x.1) → chkR seen l = chk2 seen (i + 1) (l.map Prod.snd)
  | [], _, _, _ => rfl
  | x :: r, seen, i, h => by
    have hx := h x (List.mem_cons_self)
    have hk : keyB x.1 x.2.k = keyB (i + 1) x.2.k := (by unfold keyB; rw [if_neg (by omega), if_neg (by omega)])
    rw [chkR, List.map_cons, chk2, hk, chkR_pos r _ (i + 1) (fun y hy => h y (List.mem_cons_of_mem _ hy))]
theorem chkR_flat (t : VT) : chkR [] (flatD t 0) = chk2 [] 0 (flT t) := by
  have h2 := (flatD_n (szs t.ks)).2 t.ks 1 (Nat.le_refl _)
  rw [flatD_eq, flT_eq, chkR, chk2, chkR_pos _ _ 0 h2.2, h2.1]
theorem BnA.flat {t : VT} (h : BnA t) : ∀ x ∈ flT t, BnT x := fun x hx => by
  rw [← flatD_snd t 0] at hx
  obtain ⟨y, hy, rfl⟩ := List.mem_map.1 hx
  exact h y hy
def kO (x : VT × Value × Value) : St := x.1.k
theorem infoSk : (Try.prog.info? 23).map (fun i => (i.zero, i.size, i.bytes)) = some (some (.agg #[.int .i64 0, .int .i64 0]), 2, 16) := by kernel_rfl
/-- What stands in Check's loop. -/
structure CkS (w1 : World) (t : VT) (L : List (VT × Value × Value)) (W : World) (v : Value) (i : Nat) : Prop where
  row : OwnSt w1.heap.size W v ((L.take i).map kO)
  bel : Below w1.heap.size w1 W
  eq : chk2 [] 0 (flT t) = chk2 ((L.take i).map kO) i ((flT t).drop i)
  nn : ∃ g c, v = .slice (some ⟨g, 0, none⟩) i c
theorem CkS.next {w1 : World} {t : VT} {L : List (VT × Value × Value)} {W W' : World} {v : Value} {i : Nat} (h : CkS w1 t L W v i) (hb : Below W.heap.size W W') : CkS w1 t L W' v i := ⟨h.row.below hb, h.bel.trans (hb.mono h.bel.size), h.eq, h.nn⟩
theorem CkS.at {w1 : World} {t : VT} {L : List (VT × Value × Value)} {W : World} {v : Value} {i : Nat} (h : CkS w1 t L W v i) (hL : L.map Prod.fst = flT t) (hi : i < L.length) : chk2 [] 0 (flT t) = if keyB i L[i].1.k = false then 2 else if hasS ((L.take i).map kO) L[i].1.k = true then 5 else if chkN L[i].1 ≠ 0 then chkN L[i].1 else chk2 ((L.take (i + 1)).map kO) (i + 1) ((flT t).drop (i + 1)) := by
  have h1 := h.eq
  have hj : i < (flT t).length := (by rw [← hL, List.length_map]; exact hi)
  have he : (flT t)[i] = L[i].1 := (by simp only [← hL, List.getElem_map])
  rw [List.drop_eq_getElem_cons hj, chk2, he] at h1
  rw [List.take_succ_eq_append_getElem hi, List.map_append]
  exact h1
theorem ckCells {w1 W : World} {g i : Nat} {a b : Value} {P : Prop} (hb : Below w1.heap.size w1 W) (h : g < w1.heap.size ∧ w1.cell? ⟨g, i * 6, none⟩ = some a ∧ w1.cell? ⟨g, i * 6 + 1, none⟩ = some b ∧ P) : W.cell? ⟨g, i * 6, none⟩ = some a ∧ W.cell? ⟨g, i * 6 + 1, none⟩ = some b := ⟨(hb.cell (p := ⟨g, i * 6, none⟩) h.1).trans h.2.1, (hb.cell (p := ⟨g, i * 6 + 1, none⟩) h.1).trans h.2.2.1⟩
theorem ckCells6 {w1 W : World} {g i : Nat} {a b c d e f : Value} (hb : Below w1.heap.size w1 W) (h : g < w1.heap.size ∧ w1.cell? ⟨g, i * 6, none⟩ = some a ∧ w1.cell? ⟨g, i * 6 + 1, none⟩ = some b ∧ w1.cell? ⟨g, i * 6 + 2, none⟩ = some c ∧ w1.cell? ⟨g, i * 6 + 3, none⟩ = some d ∧ w1.cell? ⟨g, i * 6 + 4, none⟩ = some e ∧ w1.cell? ⟨g, i * 6 + 5, none⟩ = some f) : W.cell? ⟨g, i * 6, none⟩ = some a ∧ W.cell? ⟨g, i * 6 + 1, none⟩ = some b ∧ W.cell? ⟨g, i * 6 + 2, none⟩ = some c ∧ W.cell? ⟨g, i * 6 + 3, none⟩ = some d ∧ W.cell? ⟨g, i * 6 + 4, none⟩ = some e ∧ W.cell? ⟨g, i * 6 + 5, none⟩ = some f :=
  ⟨(hb.cell (p := ⟨g, i * 6, none⟩) h.1).trans h.2.1, (hb.cell (p := ⟨g, i * 6 + 1, none⟩) h.1).trans h.2.2.1, (hb.cell (p := ⟨g, i * 6 + 2, none⟩) h.1).trans h.2.2.2.1, (hb.cell (p := ⟨g, i * 6 + 3, none⟩) h.1).trans h.2.2.2.2.1, (hb.cell (p := ⟨g, i * 6 + 4, none⟩) h.1).trans h.2.2.2.2.2.1, (hb.cell (p := ⟨g, i * 6 + 5, none⟩) h.1).trans h.2.2.2.2.2.2⟩
theorem ckCells0 {w1 W : World} {g : Nat} {a b : Value} {P : Prop} (hb : Below w1.heap.size w1 W) (h : g < w1.heap.size ∧ w1.cell? ⟨g, 0, none⟩ = some a ∧ w1.cell? ⟨g, 1, none⟩ = some b ∧ P) : W.cell? ⟨g, 0, none⟩ = some a ∧ W.cell? ⟨g, 1, none⟩ = some b := ⟨(hb.cell (p := ⟨g, 0, none⟩) h.1).trans h.2.1, (hb.cell (p := ⟨g, 1, none⟩) h.1).trans h.2.2.1⟩
theorem ckCells60 {w1 W : World} {g : Nat} {a b c d e f : Value} (hb : Below w1.heap.size w1 W) (h : g < w1.heap.size ∧ w1.cell? ⟨g, 0, none⟩ = some a ∧ w1.cell? ⟨g, 1, none⟩ = some b ∧ w1.cell? ⟨g, 2, none⟩ = some c ∧ w1.cell? ⟨g, 3, none⟩ = some d ∧ w1.cell? ⟨g, 4, none⟩ = some e ∧ w1.cell? ⟨g, 5, none⟩ = some f) : W.cell? ⟨g, 0, none⟩ = some a ∧ W.cell? ⟨g, 1, none⟩ = some b ∧ W.cell? ⟨g, 2, none⟩ = some c ∧ W.cell? ⟨g, 3, none⟩ = some d ∧ W.cell? ⟨g, 4, none⟩ = some e ∧ W.cell? ⟨g, 5, none⟩ = some f :=
  ⟨(hb.cell (p := ⟨g, 0, none⟩) h.1).trans h.2.1, (hb.cell (p := ⟨g, 1, none⟩) h.1).trans h.2.2.1, (hb.cell (p := ⟨g, 2, none⟩) h.1).trans h.2.2.2.1, (hb.cell (p := ⟨g, 3, none⟩) h.1).trans h.2.2.2.2.1, (hb.cell (p := ⟨g, 4, none⟩) h.1).trans h.2.2.2.2.2.1, (hb.cell (p := ⟨g, 5, none⟩) h.1).trans h.2.2.2.2.2.2⟩
set_option maxRecDepth 100000 in
set_option maxHeartbeats 4000000 in
theorem refCheck_any (G : Nat → Prop) (t : VT) (v : Value) (w : World) (h : VIs G w v t) (hsz : t.sz ≤ 1048576) (hbn : BnA t) : Calls Try.prog 19 #[v] w fun e w' => e = .returned (.int .i64 (chkT t)) ∧ Below w.heap.size w w' := by
  obtain ⟨aa, ca, ak, ck, e1, fd⟩ := h.form
  subst e1
  obtain ⟨W0, eW⟩ : ∃ X, X = (w.alloc (.cells #[.int .i64 t.k.1, .int .i64 t.k.2, .string t.tg, .string t.tx, .slice aa t.at_.length ca, .slice ak t.ks.length ck] 27)) := ⟨_, rfl⟩
  have hb0 : Below w.heap.size w W0 := (by rw [eW]; exact (Below.refl _ _).alloc (Nat.le_refl _) _)
  have HFd := hide9 (fd.below hb0)
  have HB := hide9 hb0
  have Hbn := hide9 hbn
  have HE := hide9 eW
  clear h fd hbn hb0 eW
  go_enter Try.func19, Try.ntmps19
  go_wp2_with fail
  rw [← HE.out]
  clear HE
  refine (flatF_any G t _ _ (VIs.of HFd.out) hsz).mono ?_
  clear HFd
  rintro e w1 ⟨v1, L, rfl, h1, h2, h3, h4⟩
  obtain ⟨a1, c1, e1⟩ := OwnE.form h1
  subst e1
  have hLl : L.length = t.sz := (by rw [← flT_len, ← h2, List.length_map])
  have HL := hide9 h1
  have HM := hide9 h2
  have HFs := hide9 h3
  have HB1 : Hid (Below w.heap.size w w1) := HB.out.trans (h4.mono HB.out.size)
  clear h1 h2 h3 h4 HB
  by_cases hbig : 8192 < t.sz
  · have HF : Hid (chkT t = 3) := if_pos hbig
    have q1 : (8192 : Int) < (L.length : Int) := by omega
    clear hbig hLl HM HFs HL
    go_wp2
    go_ret
    exact ⟨by rw [HF.out] <;> rfl, HB1.out⟩
  · have HC0 : Hid (chkT t = chk2 [] 0 (flT t)) := (if_neg hbig).trans (chkR_flat t)
    have hLs : L.length ≤ 8192 := by omega
    have q1 : ¬ (8192 : Int) < (L.length : Int) := by omega
    clear hbig hLl
    go_wp2
    go_loopw [4, 5] (fun sv iv wr => ∃ (i : Nat), iv = .int .i64 (i : Int) ∧ i ≤ L.length ∧ Hid (CkS w1 t L wr sv i)) (fun _ iv _ => L.length - (intOf iv).toNat)
    case atStart => exact ⟨0, rfl, Nat.zero_le _, ⟨World.ownsRow_made w1 #[] 0 (by omega) (by unfold maxLen; omega) (by simp), (Below.refl _ _).alloc (Nat.le_refl _) _, rfl, ⟨_, _, rfl⟩⟩⟩
    case round =>
      obtain ⟨i, rfl, hil, HS⟩ := hrel
      obtain ⟨gs, cs, es⟩ := HS.out.nn
      subst es
      by_cases hlt : i < L.length
      · obtain ⟨g, cap, eg, _, hcs, _⟩ := OwnE.cells vnC_len HL.out hlt
        injection eg with e1 _ e3
        subst e1
        clear e3
        have hgl := (OwnE.lt HL.out g rfl).2
        have hat := HS.out.at HM.out hlt
        have hfd := HFs.out _ (List.getElem_mem hlt)
        have hbx := Hbn.out.flat L[i].1 (by rw [← HM.out]; exact List.mem_map_of_mem (List.getElem_mem hlt))
        have p0 := hcs 0 _ rfl
        have p1 := hcs 1 _ rfl
        have p2 := hcs 2 _ rfl
        have p3 := hcs 3 _ rfl
        have p4 := hcs 4 _ rfl
        have p5 := hcs 5 _ rfl
        have hsn : (L.take (i + 1)).map kO = (L.take i).map kO ++ [L[i].1.k] := (by rw [List.take_succ_eq_append_getElem hlt, List.map_append]; rfl)
        have hDl : ((L.take i).map kO).length = i := (by rw [List.length_map, List.length_take]; omega)
        obtain ⟨y, ey⟩ : ∃ y, y = L[i] := ⟨_, rfl⟩
        rw [← ey] at hat hfd hbx p0 p1 p2 p3 p4 p5 hsn
        obtain ⟨x, xv, kv⟩ := y
        obtain ⟨xa, cx, e1⟩ := hfd.at_.form
        obtain ⟨xk, dx, e2⟩ := hfd.ks.form
        dsimp only at e1 e2
        subst e1 e2
        have Hfx : Hid (FdIs (fun k => k < W0.heap.size) w1 (.slice xa x.at_.length cx) (.slice xk x.ks.length dx) x.at_ x.ks) := hfd
        have Hx : Hid (BnT x) := hbx
        obtain ⟨D, eD⟩ : ∃ D, D = (L.take i).map kO := ⟨_, rfl⟩
        rw [← eD] at hat hsn hDl
        have HA : Hid (chk2 [] 0 (flT t) = if keyB i x.k = false then 2 else if hasS D x.k = true then 5 else if chkN x ≠ 0 then chkN x else chk2 (D ++ [x.k]) (i + 1) ((flT t).drop (i + 1))) := (by show _ = _; rw [hsn] at hat; exact hat)
        have Hsn : Hid ((L.take (i + 1)).map kO = D ++ [x.k]) := hsn
        have HDl := hide9 hDl
        have HR : Hid (OwnSt w1.heap.size wr (.slice (some ⟨gs, 0, none⟩) i cs) D) := (by rw [eD]; exact HS.out.row)
        have HBr : Hid (Below w1.heap.size w1 wr) := HS.out.bel
        have HP : Hid (g < w1.heap.size ∧ w1.cell? ⟨g, i * 6, none⟩ = some (.int .i64 x.k.1) ∧ w1.cell? ⟨g, i * 6 + 1, none⟩ = some (.int .i64 x.k.2) ∧ w1.cell? ⟨g, i * 6 + 2, none⟩ = some (.string x.tg) ∧ w1.cell? ⟨g, i * 6 + 3, none⟩ = some (.string x.tx) ∧ w1.cell? ⟨g, i * 6 + 4, none⟩ = some (.slice xa x.at_.length cx) ∧ w1.cell? ⟨g, i * 6 + 5, none⟩ = some (.slice xk x.ks.length dx)) := ⟨hgl, p0, p1, p2, p3, p4, p5⟩
        have k1 : (i : Int) < (L.length : Int) := by omega
        have k0 : (0 : Int) ≤ (i : Int) := by omega
        clear ey eD hat hfd hbx hsn hDl p0 p1 p2 p3 p4 p5 hcs hgl HS
        obtain ⟨p0, p1⟩ := ckCells HBr.out HP.out
        by_cases h0 : i = 0
        · subst h0
          clear p0 p1 k0 k1
          have k1 : (0 : Int) < (L.length : Int) := by omega
          obtain ⟨p0, p1⟩ := ckCells0 HBr.out HP.out
          go_wp2_with fail
          refine (refNode_any x.k.1 x.k.2 _).mono ?_
          rintro e w2 ⟨rfl, hb⟩
          have hk : nodeB x.k.1 x.k.2 = keyB 0 x.k := (by unfold keyB; rw [if_pos rfl])
          rw [hk]
          have HR2 := hide9 (OwnE.below HR.out hb)
          have HBw : Hid (Below w1.heap.size w1 w2) := HBr.out.trans (hb.mono HBr.out.size)
          clear hk hb HR p0 p1 HBr
          obtain ⟨p0, p1⟩ := ckCells0 HBw.out HP.out
          cases hkb : keyB 0 x.k
          · have HF : Hid (chk2 [] 0 (flT t) = 2) := HA.out.trans (if_pos hkb)
            clear hkb
            go_wp2
            go_ret
            exact ⟨by rw [HC0.out, HF.out] <;> rfl, HB1.out.trans (HBw.out.mono HB1.out.size)⟩
          · have HA2 : Hid (chk2 [] 0 (flT t) = if hasS D x.k = true then 5 else if chkN x ≠ 0 then chkN x else chk2 (D ++ [x.k]) (0 + 1) ((flT t).drop (0 + 1))) := HA.out.trans (if_neg (by rw [hkb]; decide))
            clear HA hkb
            go_wp2_with fail
            refine (refHas_any w1.heap.size _ D x.k _ HR2.out (by have := HDl.out; omega)).mono ?_
            rintro e w3 ⟨rfl, hb⟩
            have HR3 := hide9 (OwnE.below HR2.out hb)
            have HB3 : Hid (Below w1.heap.size w1 w3) := HBw.out.trans (hb.mono HBw.out.size)
            clear hb HR2 p0 p1 HBw
            obtain ⟨p0, p1⟩ := ckCells0 HB3.out HP.out
            cases hha : hasS D x.k
            · have HA3 : Hid (chk2 [] 0 (flT t) = if chkN x ≠ 0 then chkN x else chk2 (D ++ [x.k]) (0 + 1) ((flT t).drop (0 + 1))) := HA2.out.trans (if_neg (by rw [hha]; decide))
              clear HA2 hha
              obtain ⟨w4, ew4⟩ : ∃ X, X = w3.alloc (.cells #[.int .i64 x.k.1, .int .i64 x.k.2] 23) := ⟨_, rfl⟩
              have Hw4 := hide9 ew4
              have hb4 : Below w3.heap.size w3 w4 := (by rw [ew4]; exact (Below.refl _ _).alloc (Nat.le_refl _) _)
              have hT4 : w4.heap[w3.heap.size]? = some (.cells #[.int .i64 x.k.1, .int .i64 x.k.2] 23) := (by rw [ew4]; exact heap_alloc_new _ _)
              have HT4 := hide9 hT4
              have HR4 := hide9 (OwnE.below HR3.out hb4)
              have HB4 : Hid (Below w1.heap.size w1 w4) := HB3.out.trans (hb4.mono HB3.out.size)
              obtain ⟨H4, eH4⟩ : ∃ n, n = w4.heap.size := ⟨_, rfl⟩
              have HH4 := hide9 eH4
              clear ew4 hb4 hT4 HR3 HB3 eH4
              obtain ⟨i0, hin, hz0, hz1, hz2⟩ := info_parts infoSk
              go_wp2_with (at_builtin; refine Stp.to ?_)
              refine Stp.of ?_
              rw [← Hw4.out]
              clear p0 p1 Hw4
              refine wpList_append_lies w4 rfl _ _ 42 rfl w1.heap.size 23 i0 (.agg #[.int .i64 0, .int .i64 0]) 2 16 Try.underlying42 hin hz0 hz1 hz2 rfl (by decide) (.slice (some ⟨gs, 0, none⟩) 0 cs) 0 (flatE stCells D) rfl (by have h9 : w4.ownsRow w1.heap.size 23 2 (.slice (some ⟨gs, 0, none⟩) 0 cs) D.length (flatE stCells D) := HR4.out; rw [HDl.out] at h9; exact h9) ⟨w3.heap.size, 0, none⟩ 1 1 (stCells x.k) rfl rfl (World.news_of_block HT4.out) (fun y hy => by simp [stCells] at hy; rcases hy with rfl | rfl <;> rfl) (by decide) (by unfold maxLen; omega) (by omega) HB4.out.size H4 HH4.out.symm ?_
              intro g5 c5 w5 hown5 hgr5 hat5 hlt5
              have HB5 : Hid (Below w1.heap.size w1 w5) := HB4.out.trans ((Touch.of_grown (F := fun k => (Value.slice (some ⟨gs, 0, none⟩) 0 cs).ownBlock = some k) hgr5 (fun k e _ => e)).below (fun k q => (OwnE.lt HR4.out k q).1) HB4.out.size)
              have HR5 : Hid (OwnSt w1.heap.size w5 (.slice (some ⟨g5, 0, none⟩) (0 + 1) c5) (D ++ [x.k])) := OwnE.snoc rfl (by rw [HDl.out]; exact hown5)
              clear hown5 hgr5 hat5 hlt5 HR4 HB4 HT4 HH4 hin hz0 hz1 hz2
              obtain ⟨p0, p1, p2, p3, p4, p5⟩ := ckCells60 HB5.out HP.out
              go_wp2_with fail
              refine (refNodeC_any _ x _ _ (VIs.of (Hfx.out.below HB5.out)) Hx.out).mono ?_
              rintro e w6 ⟨rfl, hb⟩
              have HR6 := hide9 (OwnE.below HR5.out hb)
              have HB6 : Hid (Below w1.heap.size w1 w6) := HB5.out.trans (hb.mono HB5.out.size)
              clear hb HR5 HB5 p0 p1 p2 p3 p4 p5
              obtain ⟨p0, p1, p2, p3, p4, p5⟩ := ckCells60 HB6.out HP.out
              obtain ⟨z, ez⟩ : ∃ z, z = chkN x := ⟨_, rfl⟩
              have Hz := hide9 ez
              rw [← ez]
              clear ez
              by_cases hz : z = 0
              · have HEq : Hid (chk2 [] 0 (flT t) = chk2 (D ++ [x.k]) (0 + 1) ((flT t).drop (0 + 1))) := HA3.out.trans (if_neg (by rw [← Hz.out]; exact fun h => h hz))
                subst hz
                have nw1 : IntKind.i64.wrap ((0 : Int) + 1) = (0 : Int) + 1 := by rw [IntKind.wrap_i64]; omega
                clear Hz
                go_wp2
                go_roundw
                case rel => exact ⟨0 + 1, by go_num, by omega, ⟨by rw [Hsn.out]; exact HR6.out, HB6.out, by rw [Hsn.out]; exact HEq.out, ⟨_, _, rfl⟩⟩⟩
                case measure => simp [intOf]; omega
              · have HF : Hid (chk2 [] 0 (flT t) = chkN x) := HA3.out.trans (if_pos (by rw [← Hz.out]; exact hz))
                go_wp2_with fail
                refine (refNodeC_any _ x _ _ (VIs.of (Hfx.out.below HB6.out)) Hx.out).mono ?_
                rintro e w7 ⟨rfl, hb⟩
                have HB7 : Hid (Below w1.heap.size w1 w7) := HB6.out.trans (hb.mono HB6.out.size)
                clear hb
                go_wp2
                go_ret
                exact ⟨by rw [HC0.out, HF.out] <;> rfl, HB1.out.trans (HB7.out.mono HB1.out.size)⟩
            · have HF : Hid (chk2 [] 0 (flT t) = 5) := HA2.out.trans (if_pos hha)
              clear hha
              go_wp2
              go_ret
              exact ⟨by rw [HC0.out, HF.out] <;> rfl, HB1.out.trans (HB3.out.mono HB1.out.size)⟩
        · have H0 := hide9 h0
          have d0 : ¬ (i : Int) = 0 := (by omega)
          clear h0
          have d1 : (0 : Int) < (i : Int) := (by omega)
          go_wp2_with fail
          refine (refRight_any x.k.1 x.k.2 _).mono ?_
          rintro e w2 ⟨rfl, hw2⟩
          have hb : Below wr.heap.size wr w2 := (by rw [hw2]; exact (Below.refl _ _).alloc (Nat.le_refl _) _)
          clear hw2
          have hk : rightB x.k.1 x.k.2 = keyB i x.k := (by unfold keyB; rw [if_neg H0.out])
          rw [hk]
          have HR2 := hide9 (OwnE.below HR.out hb)
          have HBw : Hid (Below w1.heap.size w1 w2) := HBr.out.trans (hb.mono HBr.out.size)
          clear hk hb HR p0 p1 HBr
          obtain ⟨p0, p1⟩ := ckCells HBw.out HP.out
          cases hkb : keyB i x.k
          · have HF : Hid (chk2 [] 0 (flT t) = 2) := HA.out.trans (if_pos hkb)
            clear hkb
            go_wp2
            go_ret
            exact ⟨by rw [HC0.out, HF.out] <;> rfl, HB1.out.trans (HBw.out.mono HB1.out.size)⟩
          · have HA2 : Hid (chk2 [] 0 (flT t) = if hasS D x.k = true then 5 else if chkN x ≠ 0 then chkN x else chk2 (D ++ [x.k]) (i + 1) ((flT t).drop (i + 1))) := HA.out.trans (if_neg (by rw [hkb]; decide))
            clear HA hkb
            go_wp2_with fail
            refine (refHas_any w1.heap.size _ D x.k _ HR2.out (by have := HDl.out; omega)).mono ?_
            rintro e w3 ⟨rfl, hb⟩
            have HR3 := hide9 (OwnE.below HR2.out hb)
            have HB3 : Hid (Below w1.heap.size w1 w3) := HBw.out.trans (hb.mono HBw.out.size)
            clear hb HR2 p0 p1 HBw
            obtain ⟨p0, p1⟩ := ckCells HB3.out HP.out
            cases hha : hasS D x.k
            · have HA3 : Hid (chk2 [] 0 (flT t) = if chkN x ≠ 0 then chkN x else chk2 (D ++ [x.k]) (i + 1) ((flT t).drop (i + 1))) := HA2.out.trans (if_neg (by rw [hha]; decide))
              clear HA2 hha
              obtain ⟨w4, ew4⟩ : ∃ X, X = w3.alloc (.cells #[.int .i64 x.k.1, .int .i64 x.k.2] 23) := ⟨_, rfl⟩
              have Hw4 := hide9 ew4
              have hb4 : Below w3.heap.size w3 w4 := (by rw [ew4]; exact (Below.refl _ _).alloc (Nat.le_refl _) _)
              have hT4 : w4.heap[w3.heap.size]? = some (.cells #[.int .i64 x.k.1, .int .i64 x.k.2] 23) := (by rw [ew4]; exact heap_alloc_new _ _)
              have HT4 := hide9 hT4
              have HR4 := hide9 (OwnE.below HR3.out hb4)
              have HB4 : Hid (Below w1.heap.size w1 w4) := HB3.out.trans (hb4.mono HB3.out.size)
              obtain ⟨H4, eH4⟩ : ∃ n, n = w4.heap.size := ⟨_, rfl⟩
              have HH4 := hide9 eH4
              clear ew4 hb4 hT4 HR3 HB3 eH4
              obtain ⟨i0, hin, hz0, hz1, hz2⟩ := info_parts infoSk
              go_wp2_with (at_builtin; refine Stp.to ?_)
              refine Stp.of ?_
              rw [← Hw4.out]
              clear p0 p1 Hw4
              refine wpList_append_lies w4 rfl _ _ 42 rfl w1.heap.size 23 i0 (.agg #[.int .i64 0, .int .i64 0]) 2 16 Try.underlying42 hin hz0 hz1 hz2 rfl (by decide) (.slice (some ⟨gs, 0, none⟩) i cs) i (flatE stCells D) rfl (by have h9 : w4.ownsRow w1.heap.size 23 2 (.slice (some ⟨gs, 0, none⟩) i cs) D.length (flatE stCells D) := HR4.out; rw [HDl.out] at h9; exact h9) ⟨w3.heap.size, 0, none⟩ 1 1 (stCells x.k) rfl rfl (World.news_of_block HT4.out) (fun y hy => by simp [stCells] at hy; rcases hy with rfl | rfl <;> rfl) (by decide) (by unfold maxLen; omega) (by omega) HB4.out.size H4 HH4.out.symm ?_
              intro g5 c5 w5 hown5 hgr5 hat5 hlt5
              have HB5 : Hid (Below w1.heap.size w1 w5) := HB4.out.trans ((Touch.of_grown (F := fun k => (Value.slice (some ⟨gs, 0, none⟩) i cs).ownBlock = some k) hgr5 (fun k e _ => e)).below (fun k q => (OwnE.lt HR4.out k q).1) HB4.out.size)
              have HR5 : Hid (OwnSt w1.heap.size w5 (.slice (some ⟨g5, 0, none⟩) (i + 1) c5) (D ++ [x.k])) := OwnE.snoc rfl (by rw [HDl.out]; exact hown5)
              clear hown5 hgr5 hat5 hlt5 HR4 HB4 HT4 HH4 hin hz0 hz1 hz2
              obtain ⟨p0, p1, p2, p3, p4, p5⟩ := ckCells6 HB5.out HP.out
              go_wp2_with fail
              refine (refNodeC_any _ x _ _ (VIs.of (Hfx.out.below HB5.out)) Hx.out).mono ?_
              rintro e w6 ⟨rfl, hb⟩
              have HR6 := hide9 (OwnE.below HR5.out hb)
              have HB6 : Hid (Below w1.heap.size w1 w6) := HB5.out.trans (hb.mono HB5.out.size)
              clear hb HR5 HB5 p0 p1 p2 p3 p4 p5
              obtain ⟨p0, p1, p2, p3, p4, p5⟩ := ckCells6 HB6.out HP.out
              obtain ⟨z, ez⟩ : ∃ z, z = chkN x := ⟨_, rfl⟩
              have Hz := hide9 ez
              rw [← ez]
              clear ez
              by_cases hz : z = 0
              · have HEq : Hid (chk2 [] 0 (flT t) = chk2 (D ++ [x.k]) (i + 1) ((flT t).drop (i + 1))) := HA3.out.trans (if_neg (by rw [← Hz.out]; exact fun h => h hz))
                subst hz
                have nw1 : IntKind.i64.wrap ((i : Int) + 1) = (i : Int) + 1 := by rw [IntKind.wrap_i64]; omega
                clear Hz
                go_wp2
                go_roundw
                case rel => exact ⟨i + 1, by go_num, by omega, ⟨by rw [Hsn.out]; exact HR6.out, HB6.out, by rw [Hsn.out]; exact HEq.out, ⟨_, _, rfl⟩⟩⟩
                case measure => simp [intOf]; omega
              · have HF : Hid (chk2 [] 0 (flT t) = chkN x) := HA3.out.trans (if_pos (by rw [← Hz.out]; exact hz))
                go_wp2_with fail
                refine (refNodeC_any _ x _ _ (VIs.of (Hfx.out.below HB6.out)) Hx.out).mono ?_
                rintro e w7 ⟨rfl, hb⟩
                have HB7 : Hid (Below w1.heap.size w1 w7) := HB6.out.trans (hb.mono HB6.out.size)
                clear hb
                go_wp2
                go_ret
                exact ⟨by rw [HC0.out, HF.out] <;> rfl, HB1.out.trans (HB7.out.mono HB1.out.size)⟩
            · have HF : Hid (chk2 [] 0 (flT t) = 5) := HA2.out.trans (if_pos hha)
              clear hha
              go_wp2
              go_ret
              exact ⟨by rw [HC0.out, HF.out] <;> rfl, HB1.out.trans (HB3.out.mono HB1.out.size)⟩
      · have HF : Hid (chk2 [] 0 (flT t) = 0) := (by have h9 := HS.out.eq; rw [List.drop_of_length_le (by rw [← HM.out, List.length_map]; omega)] at h9; exact h9)
        have HBw : Hid (Below w1.heap.size w1 wr) := HS.out.bel
        have k1 : ¬ (i : Int) < (L.length : Int) := by omega
        have k3 : decide ((i : Int) < (L.length : Int)) = false := decide_eq_false k1
        clear HS
        go_wp2
        go_ret
        exact ⟨by rw [HC0.out, HF.out] <;> rfl, HB1.out.trans (HBw.out.mono HB1.out.size)⟩
end Go.Proofs.Ythhnglpkfcmjiaa

namespace Go.Proofs.Ythhnglpkfcmjiaa
open Go.RowKit Go.Shelf
set_option linter.unusedVariables false
set_option linter.unusedSimpArgs false
attribute [local go_sem] Oper.semAt_some
theorem own_cells {B : Nat} {W : World} {v : Value} {D : List St} (h : OwnSt B W v D) {k : Nat} (hk : v.ownBlock = some k) : ∃ c, W.heap[k]? = some (.cells c 23) := by
  rcases h.2 with ⟨rfl, _⟩ | ⟨g, cap, cur, rfl, _, hc, _⟩
  · cases hk
  · injection hk with hk
    subst hk
    exact ⟨cur, hc⟩
theorem keepsFrom_own {B N : Nat} {W W' : World} {v : Value} {D : List St} (h : OwnSt N W v D) (hg : W.grownBy W' v.ownBlock) : KeepsFrom B W W' := ⟨hg.size, fun k o _ hk ho => (hg.block k (Array.getElem?_eq_some_iff.1 hk).1 (fun e => by
  obtain ⟨c, hc⟩ := own_cells h e.symm
  rw [hk] at hc
  injection hc with hc
  subst hc
  cases ho)).trans hk⟩
theorem KpN.own {S : Nat → Prop} {N : Nat} {W W' : World} {v : Value} {D : List St} (h : OwnSt N W v D) (hS : ∀ k, S k → k < N) (hW : ∀ k, S k → k < W.heap.size) (hg : W.grownBy W' v.ownBlock) : KpN S N W W' := ⟨hg.size, fun k hk => by
  rcases hk with hk | ⟨hN, c, f, hc⟩
  · exact hg.block k (hW k hk) (fun e => by have := (OwnE.lt h k e.symm).1; have := hS k hk; omega)
  · refine hg.block k (Array.getElem?_eq_some_iff.1 hc).1 (fun e => ?_)
    obtain ⟨c2, h2⟩ := own_cells h e.symm
    rw [hc] at h2
    injection h2 with h2
    injection h2 with _ h3 _
    exact absurd h3 (by decide)⟩
/-- What stands in a round of Keys. -/
structure KyB (w W2 : World) (S : Nat → Prop) (ob : Nat) (v : Value) (D : List St) (W U : World) : Prop where
  rn : RnS w W2 S (B1 ob v 42) U
  ow : OwnSt W2.heap.size U v D
  kf : KeepsFrom W2.heap.size W U
  kn : KpN S W2.heap.size W U
section
variable {w W2 W U U' : World} {S : Nat → Prop} {ob : Nat} {v v' : Value} {D D' : List St}
theorem KyB.below (h : KyB w W2 S ob (v) (D) W U) (hb : Below U.heap.size U U') : KyB w W2 S ob (v) (D) W U' := ⟨h.rn.below hb, OwnE.below h.ow hb, h.kf.trans (keepsFrom_below hb), h.kn.trans (KpN.of_below hb fun k q => Nat.lt_of_lt_of_le (h.rn.sl k q) h.rn.kp.1)⟩
theorem RnS.own (h : RnS w W2 S (B1 ob v 42) U) (ho : OwnSt W2.heap.size U v D) (hg : U.grownBy U' v.ownBlock) : RnS w W2 S (B1 ob v 42) U' := by
  have hN : ∀ j, v.ownBlock = some j → W2.heap.size ≤ j := fun j e => (OwnE.lt ho j e).1
  refine ⟨fun b u t e => ?_, h.bel.grown hg h.bel.size (fun j e => by have := hN j e; have := h.le; omega), h.kp.trans ⟨hg.size, fun k q => hg.block k (Nat.lt_of_lt_of_le (h.sl k q) h.kp.1) (fun e => by have := hN k e.symm; have := h.sl k q; omega)⟩, h.sl, h.ns, h.le⟩
  have h1 := h.box b u t e
  exact (hg.block b (row_lt h1) (fun e2 => by have := hN b e2.symm; have := (h.ns b u t e).2.2; omega)).trans h1
theorem KyB.push (h : KyB w W2 S ob (v) (D) W U) (hg : U.grownBy U' v.ownBlock) (ho : OwnSt W2.heap.size U' v' D') : KyB w W2 S ob (v') (D') W (U'.setCell ⟨ob, 0, none⟩ v') := by
  have hns := h.rn.ns ob v 42 (B1.at _ _ _)
  have h9 := (h.rn.own h.ow hg).set (B1.at _ _ _) v'
  rw [B1.set] at h9
  refine ⟨h9, OwnE.keep ho fun k e => RowKit.Below.heap_setCell _ _ _ _ (by have := (OwnE.lt ho k e).1; show k ≠ ob; omega), (h.kf.trans (keepsFrom_own h.ow hg)).trans (keepsFrom_set _ _ _), (h.kn.trans (KpN.own h.ow h.rn.sl (fun k q => Nat.lt_of_lt_of_le (h.rn.sl k q) h.rn.kp.1) hg)).trans (KpN.set hns.1 hns.2.2)⟩
end
end Go.Proofs.Ythhnglpkfcmjiaa

namespace Go.Proofs.Ythhnglpkfcmjiaa
open Go.RowKit
set_option linter.unusedVariables false
set_option linter.unusedSimpArgs false
/-- What stands in Copy's loop. -/
structure PcS (m : Nat) (w : World) (t : VT) (H : Nat → Prop) (av kv : Value) (E : List (VT × Value × Value)) (i : Nat) (W : World) : Prop where
  tb : W.heap[w.heap.size]? = some (.cells #[.int .i64 t.k.1, .int .i64 t.k.2, .string t.tg, .string t.tx, av, kv] 27)
  rb : W.heap[w.heap.size + 1]? = some (.cells #[.int .i64 0, .int .i64 0, .string ⟨#[]⟩, .string ⟨#[]⟩, .slice none 0 0, .slice none 0 0] 27)
  bel : Below w.heap.size w W
  at_ : LsE atCells 2 H W av t.at_
  row : OwnVn (w.heap.size + 2) W kv E
  es : E.map Prod.fst = t.ks
  en : ∀ j (h : j < E.length), j < i → FdIs H W E[j].2.1 E[j].2.2 E[j].1.at_ E[j].1.ks
  eo : ∀ j (h : j < E.length), i ≤ j → FdIs (fun k => k < w.heap.size) W E[j].2.1 E[j].2.2 E[j].1.at_ E[j].1.ks
  hH : ∀ k, H k → w.heap.size + 2 ≤ k ∧ k < W.heap.size ∧ kv.ownBlock ≠ some k
  ow : OwnAt 0 W av t.at_
  oh : ∀ k, av.ownBlock = some k → H k
  sp : ∃ Fs : Nat → Nat → Prop, (∀ j (h : j < E.length), j < i → SepF m W (Fs j) E[j].2.1 E[j].2.2 E[j].1) ∧ (∀ j k, Fs j k → H k ∧ av.ownBlock ≠ some k) ∧ ∀ j l k, j ≠ l → Fs j k → ¬ Fs l k
section
variable {m : Nat} {w W W' : World} {t : VT} {H : Nat → Prop} {av kv : Value} {E : List (VT × Value × Value)} {i : Nat}
theorem PcS.below (h : PcS m w t H av kv E i W) (hb : Below W.heap.size W W') : PcS m w t H av kv E i W' := ⟨(hb.block _ (row_lt h.tb)).trans h.tb, (hb.block _ (row_lt h.rb)).trans h.rb, h.bel.trans (hb.mono h.bel.size), h.at_.below hb, h.row.below hb, h.es, fun j q z => (h.en j q z).below hb, fun j q z => (h.eo j q z).below hb, fun k q => ⟨(h.hH k q).1, Nat.lt_of_lt_of_le (h.hH k q).2.1 hb.size, (h.hH k q).2.2⟩, h.ow.below hb, h.oh, (by obtain ⟨Fs, s1, s2, s3⟩ := h.sp; exact ⟨Fs, fun j q z => (s1 j q z).turn m fun k y => hb.block k (h.hH k (s2 j k y).1).2.1, s2, s3⟩)⟩
theorem PcS.len (h : PcS m w t H av kv E i W) : E.length = t.ks.length := by rw [← h.es, List.length_map]
/-- Its lists are new ones. -/
theorem PcS.start {Wa W1 W3 : World} {ax kx v1 v3 : Value} (ha : Wa.heap[w.heap.size]? = some (.cells #[.int .i64 t.k.1, .int .i64 t.k.2, .string t.tg, .string t.tx, ax, kx] 27)) (hr : Wa.heap[w.heap.size + 1]? = some (.cells #[.int .i64 0, .int .i64 0, .string ⟨#[]⟩, .string ⟨#[]⟩, .slice none 0 0, .slice none 0 0] 27)) (hba : Below w.heap.size w Wa) (hsa : Wa.heap.size = w.heap.size + 2)
    (o1 : OwnAt Wa.heap.size W1 v1 t.at_) (b1 : Below Wa.heap.size Wa W1) (hal : t.at_.length ≤ 4398046511104) (o3 : OwnVn (W1.setCell ⟨w.heap.size, 4, none⟩ v1).heap.size W3 v3 E) (b3 : Below (W1.setCell ⟨w.heap.size, 4, none⟩ v1).heap.size (W1.setCell ⟨w.heap.size, 4, none⟩ v1) W3) (es : E.map Prod.fst = t.ks) (e3 : ∀ x ∈ E, FdIs (fun k => k < w.heap.size) w x.2.1 x.2.2 x.1.at_ x.1.ks) :
    PcS m w t (fun k => v1.ownBlock = some k) v1 v3 E 0 (W3.setCell ⟨w.heap.size, 5, none⟩ v3) := by
  have r1 : W1.heap[w.heap.size]? = some (.cells #[.int .i64 t.k.1, .int .i64 t.k.2, .string t.tg, .string t.tx, ax, kx] 27) := (b1.block _ (by omega)).trans ha
  have r2 : (W1.setCell ⟨w.heap.size, 4, none⟩ v1).heap[w.heap.size]? = some (.cells #[.int .i64 t.k.1, .int .i64 t.k.2, .string t.tg, .string t.tx, v1, kx] 27) := (by rw [heap_setCell_same W1 w.heap.size 4 _ _ _ r1]; rfl)
  have s2 : (W1.setCell ⟨w.heap.size, 4, none⟩ v1).heap.size = W1.heap.size := by simp [World.setCell]
  have s1 := b1.size
  have r3 : W3.heap[w.heap.size]? = some (.cells #[.int .i64 t.k.1, .int .i64 t.k.2, .string t.tg, .string t.tx, v1, kx] 27) := (b3.block _ (by omega)).trans r2
  have s4 : (W3.setCell ⟨w.heap.size, 5, none⟩ v3).heap.size = W3.heap.size := by simp [World.setCell]
  have s3 := b3.size
  have k2 : ∀ k, k ≠ w.heap.size → (W1.setCell ⟨w.heap.size, 4, none⟩ v1).heap[k]? = W1.heap[k]? := fun k q => RowKit.Below.heap_setCell _ _ _ _ q
  have k4 : ∀ k, k ≠ w.heap.size → (W3.setCell ⟨w.heap.size, 5, none⟩ v3).heap[k]? = W3.heap[k]? := fun k q => RowKit.Below.heap_setCell _ _ _ _ q
  have hbel : Below w.heap.size w (W3.setCell ⟨w.heap.size, 5, none⟩ v3) := ((hba.trans (b1.mono hba.size)).setCell (p := ⟨w.heap.size, 4, none⟩) (Nat.le_refl _) _ |>.trans (b3.mono (by omega))).setCell (p := ⟨w.heap.size, 5, none⟩) (Nat.le_refl _) _
  have h1 : ∀ k, v1.ownBlock = some k → w.heap.size + 2 ≤ k ∧ k < W1.heap.size := fun k e => (by have := OwnE.lt o1 k e; omega)
  have h3 : ∀ k, v3.ownBlock = some k → W1.heap.size ≤ k := fun k e => (by have := (OwnE.lt o3 k e).1; omega)
  refine ⟨by rw [heap_setCell_same W3 w.heap.size 5 _ _ _ r3]; rfl, ?_, hbel, ?_, ?_, es, fun j _ q => absurd q (by omega), fun j q _ => (e3 E[j] (List.getElem_mem q)).below hbel, fun k q => ⟨(h1 k q).1, by have := (h1 k q).2; omega, fun e => by have := h3 k e; have := (h1 k q).2; omega⟩, ?_, fun k e => e, ⟨fun _ _ => False, fun j _ q => absurd q (by omega), fun _ _ q => q.elim, fun _ _ _ _ q => q.elim⟩⟩
  · rw [k4 _ (by omega), b3.block _ (by omega), k2 _ (by omega), b1.block _ (by omega)]
    exact hr
  · refine (OwnE.lsE atCells_len o1 (by omega) (fun k e => e)).turn (by omega) (fun k q _ => ⟨q, ?_⟩)
    have := h1 k q
    rw [k4 _ (by omega), b3.block _ (by omega), k2 _ (by omega)]
  · exact OwnE.low (OwnE.keep o3 fun k e => k4 k (by have := h3 k e; omega)) (by omega)
  · refine OwnE.low (OwnE.keep o1 fun k e => ?_) (Nat.zero_le _)
    have := h1 k e
    rw [k4 _ (by omega), b3.block _ (by omega), k2 _ (by omega)]
/-- All kids. -/
theorem PcS.done (h : PcS m w t H av kv E t.ks.length W) (hl : t.ks.length ≤ 1466015503701) (hal : t.at_.length ≤ 4398046511104) : FdIs (fun k => H k ∨ kv.ownBlock = some k) W av kv t.at_ t.ks := by
  have hes := h.es
  have hEl := h.len
  refine ⟨h.at_.mono fun k q => .inl q, hal, ?_⟩
  have h0 := h.row
  rcases h.row.2 with ⟨e, hn⟩ | ⟨g, cap, cur, e, hg, hc, hcap, rest⟩
  · have : t.ks = [] := List.eq_nil_of_length_eq_zero (by omega)
    rw [this, e]
    exact ⟨none, 0, rfl, Nat.le_refl _, by simp, .inl rfl⟩
  · rw [e] at h0 ⊢
    refine ⟨some ⟨g, 0, none⟩, cap, by rw [hEl], by omega, hl, .inr ⟨g, 0, rfl, .inr rfl, row_lt hc, (VRow_iff _ _).2 fun i hi => ?_⟩⟩
    have hiE : i < E.length := by omega
    obtain ⟨g', cap', e', _, hcs, _⟩ := OwnE.cells vnC_len h0 hiE
    cases e'
    have hxi : E[i].1 = t.ks[i] := by
      have h9 : (E.map Prod.fst)[i]'(by simpa using hiE) = t.ks[i] := by simp only [hes]
      simpa using h9
    refine VAt_iff.2 ⟨E[i].2.1, E[i].2.2, fun j u hj => ?_, ?_⟩
    · rw [Nat.zero_add]
      refine hcs j u ?_
      unfold vnC
      rw [hxi]
      exact hj
    · have h9 := h.en i hiE hi
      rw [hxi] at h9
      exact h9.mono fun k q _ => .inl q
theorem PcS.sep (h : PcS m w t H av kv E t.ks.length W) (hl : t.ks.length ≤ 1466015503701) (hal : t.at_.length ≤ 4398046511104) : SepF (m + 1) W (fun k => H k ∨ kv.ownBlock = some k) av kv t := by
  obtain ⟨Fs, s1, s2, s3⟩ := h.sp
  have hEl := h.len
  exact ⟨E, Fs, h.ow, OwnE.low h.row (Nat.zero_le _), h.es, hal, hl, fun k e => .inl (h.oh k e), fun k e => .inr e, fun j hj => s1 j hj (by omega), fun j k _ q => ⟨.inl (s2 j k q).1, (s2 j k q).2, (h.hH k (s2 j k q).1).2.2⟩, s3⟩
end
end Go.Proofs.Ythhnglpkfcmjiaa

namespace Go.Proofs.Ythhnglpkfcmjiaa
open Go.RowKit
set_option linter.unusedVariables false
set_option linter.unusedSimpArgs false
def tR : VT := .node (0, 0) ⟨#[114, 111, 111, 116]⟩ ⟨#[]⟩ [] []
def tZ : VT := .node (0, 0) ⟨#[]⟩ ⟨#[]⟩ [] []
theorem fdNil (G : Nat → Prop) (w : World) : FdIs G w (.slice none 0 0) (.slice none 0 0) [] [] := ⟨LsE.nil w none 0, by simp, none, 0, rfl, Nat.le_refl _, by simp, .inl rfl⟩
theorem visR (w : World) : VIs (fun _ => False) w (.agg #[.int .i64 0, .int .i64 0, .string ⟨#[114, 111, 111, 116]⟩, .string ⟨#[]⟩, .slice none 0 0, .slice none 0 0]) tR := ⟨_, _, rfl, fdNil _ w⟩
theorem szR : tR.sz = 1 := by decide +kernel
theorem bnR : BnA tR := fun x hx => by
  simp [tR, flatD, flatDs] at hx
  subst hx
  exact ⟨by decide +kernel, fun y hy => by simp [VT.at_] at hy⟩
end Go.Proofs.Ythhnglpkfcmjiaa

namespace Go.Proofs.Ythhnglpkfcmjiaa
open Go.RowKit Go.Shelf
set_option linter.unusedVariables false
set_option linter.unusedSimpArgs false
attribute [local go_sem] Oper.semAt_some
theorem SepF.mono : ∀ (m : Nat) {W : World} {F F' : Nat → Prop} {av kv : Value} {t : VT}, SepF m W F av kv t → (∀ k, F k → F' k) → SepF m W F' av kv t
  | 0, _, _, _, _, _, _, h, _ => h.elim
  | m + 1, _, _, _, _, _, _, h, hf => by
    obtain ⟨E, Fs, h1, h2, h3, h4, h5, h6, h7, h8, h9, h10⟩ := h
    exact ⟨E, Fs, h1, h2, h3, h4, h5, fun k e => hf k (h6 k e), fun k e => hf k (h7 k e), h8, fun i k hi q => ⟨hf k (h9 i k hi q).1, (h9 i k hi q).2⟩, h10⟩
theorem loadVN (w : World) (g : Nat) (v0 v1 v2 v3 v4 v5 : Value) (hg : w.heap[g]? = some (.cells #[v0, v1, v2, v3, v4, v5] 27)) : (loadVar 27 ⟨g, 0, none⟩).run Try.prog w = .ok (.agg #[v0, v1, v2, v3, v4, v5]) w := run_loadVar_row w g _ _ _ _ _ hg Try.underlying27 rfl (by kernel_rfl)
theorem loadST (w : World) (g : Nat) (v0 v1 : Value) (hg : w.heap[g]? = some (.cells #[v0, v1] 23)) : (loadVar 23 ⟨g, 0, none⟩).run Try.prog w = .ok (.agg #[v0, v1]) w := run_loadVar_row w g _ _ _ _ _ hg Try.underlying23 rfl (by kernel_rfl)
/-- What stands while Find goes over the nodes: the boxes of both results. -/
structure FnS (w W2 : World) (S : Nat → Prop) (rb ob : Nat) (c : Array Value) (b : Bool) (U : World) : Prop where
  r : U.heap[rb]? = some (.cells c 27)
  o : U.heap[ob]? = some (.cells #[.bool b] 4)
  bel : Below w.heap.size w U
  kp : KeepsS S W2 U
  sl : ∀ k, S k → k < W2.heap.size
  nr : ¬ S rb ∧ w.heap.size ≤ rb ∧ rb < W2.heap.size
  no : ¬ S ob ∧ w.heap.size ≤ ob ∧ ob < W2.heap.size
  ne : rb ≠ ob
  le : w.heap.size ≤ W2.heap.size
section
variable {w W2 U U' : World} {S : Nat → Prop} {rb ob : Nat} {c c' : Array Value} {b b' : Bool}
theorem FnS.below (h : FnS w W2 S rb ob c b U) (hb : Below U.heap.size U U') : FnS w W2 S rb ob c b U' := ⟨(hb.block _ (row_lt h.r)).trans h.r, (hb.block _ (row_lt h.o)).trans h.o, h.bel.trans (hb.mono h.bel.size), h.kp.trans (KeepsS.of_below hb fun k q => Nat.lt_of_lt_of_le (h.sl k q) h.kp.1), h.sl, h.nr, h.no, h.ne, h.le⟩
theorem FnS.grown (h : FnS w W2 S rb ob c b U) {row : Option Nat} (hg : U.grownBy U' row) (hr : ∀ r, row = some r → W2.heap.size ≤ r ∧ ∃ o : Obj, U.heap[r]? = some o ∧ o.isCells = false) : FnS w W2 S rb ob c b U' := by
  have hr2 : ∀ r, row = some r → ∃ o : Obj, U.heap[r]? = some o ∧ o.isCells = false := fun r e => (hr r e).2
  refine ⟨row_own h.r hg hr2, row_own h.o hg hr2, h.bel.grown hg h.bel.size (fun j e => by have := (hr j e).1; have := h.le; omega), h.kp.trans ⟨hg.size, fun k q => hg.block k (Nat.lt_of_lt_of_le (h.sl k q) h.kp.1) (fun e => ?_)⟩, h.sl, h.nr, h.no, h.ne, h.le⟩
  have h1 := (hr k e.symm).1
  have h2 := h.sl k q
  omega
end
/-- The first node with a key. -/
def fndT (t : VT) (key : St) : Option VT := (flT t).find? fun x => decide (x.k = key)
/-- A list that lies in cells of its own, kept. -/
def Sp (N : Nat) (x : VT) (F : Nat → Prop) (av kv : Value) (W : World) : Prop := SepF x.sz W F av kv x ∧ ∀ k, F k → N ≤ k ∧ k < W.heap.size ∧ ∃ c t f, W.heap[k]? = some (.cells c t f)
theorem Sp.grown {N : Nat} {x : VT} {F : Nat → Prop} {av kv : Value} {W W' : World} (h : Sp N x F av kv W) {row : Option Nat} (hg : W.grownBy W' row) (hr : ∀ r, row = some r → ∃ o : Obj, W.heap[r]? = some o ∧ o.isCells = false) : Sp N x F av kv W' := by
  have hk : ∀ k, F k → W'.heap[k]? = W.heap[k]? := fun k q => by
    obtain ⟨_, _, c, t, f, hc⟩ := h.2 k q
    rw [row_own hc hg hr, hc]
  exact ⟨h.1.turn _ hk, fun k q => ⟨(h.2 k q).1, Nat.lt_of_lt_of_le (h.2 k q).2.1 hg.size, by rw [hk k q]; exact (h.2 k q).2.2⟩⟩
theorem Sp.same {N : Nat} {x : VT} {F : Nat → Prop} {av kv : Value} {W W' : World} (h : Sp N x F av kv W) (hs : W.heap.size ≤ W'.heap.size) (hk : ∀ k, F k → W'.heap[k]? = W.heap[k]?) : Sp N x F av kv W' :=
  ⟨h.1.turn _ hk, fun k q => ⟨(h.2 k q).1, Nat.lt_of_lt_of_le (h.2 k q).2.1 hs, by rw [hk k q]; exact (h.2 k q).2.2⟩⟩
end Go.Proofs.Ythhnglpkfcmjiaa

namespace Go.Proofs.Ythhnglpkfcmjiaa
open Go.RowKit Go.Shelf
set_option linter.unusedVariables false
set_option linter.unusedSimpArgs false
attribute [local go_sem] Oper.semAt_some
/-- The last one, if there is one. -/
def lastS (D : List St) : St × Bool := match D.getLast? with | some s => (s, true) | none => ((0, 0), false)
theorem lastS_pos {D : List St} {n : Nat} (h : D.length = n + 1) : lastS D = (D[n]'(by omega), true) := by
  have e : D.getLast? = some (D[n]'(by omega)) := by
    rw [List.getLast?_eq_getElem?, show D.length - 1 = n by omega, List.getElem?_eq_getElem (by omega)]
  unfold lastS
  rw [e]
theorem results_cell_tmp9 {fn : Func} {p u : Tmp} {ty : TypeId} (h : fn.results = #[.cell p ty, .tmp u]) (tmps : Array Value) (w : World) (g : Nat) (cs : Array Value)
    (hp : tmps.getD p undef = .pointer (some ⟨g, 0, none⟩)) (e1 : (loadVar ty ⟨g, 0, none⟩).run Try.prog w = .ok (.agg cs) w) :
    (results fn tmps).run Try.prog w = .ok (.tuple #[.agg cs, tmps.getD u undef]) w := by
  have hp' : tmps[p]?.getD undef = .pointer (some ⟨g, 0, none⟩) := by simpa using hp
  simp [results, h, hp', asAddr, e1]
/-- The key of the node of which the first one with that key is a kid, by the way down. -/
def parR (D : List St) : List (Nat × VT) → St → St × Bool
  | [], _ => ((0, 0), false)
  | x :: r, key => if x.2.k = key then lastS (D.take x.1) else parR (D.take x.1 ++ [x.2.k]) r key
/-- Each one stands at most one lower than the one ahead. -/
def PreD (m : Nat) : List (Nat × VT) → Prop
  | [] => True
  | x :: r => x.1 ≤ m ∧ PreD (x.1 + 1) r
theorem PreD.mono {m n : Nat} {l : List (Nat × VT)} (h : PreD m l) (hm : m ≤ n) : PreD n l := by
  cases l with
  | nil => trivial
  | cons x r => exact ⟨by have := h.1; omega, h.2⟩
theorem PreD.app : ∀ (l r : List (Nat × VT)) (m d : Nat), PreD m l → (∀ x ∈ l, d ≤ x.1) → d ≤ m → PreD d r → PreD m (l ++ r)
  | [], r, m, d, _, _, hm, hr => hr.mono hm
  | x :: l, r, m, d, h, ha, hm, hr => ⟨h.1, PreD.app l r (x.1 + 1) d h.2 (fun y hy => ha y (List.mem_cons_of_mem _ hy)) (by have := ha x (List.mem_cons_self ..); omega) hr⟩
theorem preD_n : ∀ (n : Nat), (∀ t d, VT.sz t ≤ n → PreD d (flatD t d)) ∧ (∀ l d, szs l ≤ n → PreD d (flatDs l d))
  | 0 => ⟨fun t d h => by have := t.sz_pos; omega, fun l d h => by
      cases l with
      | nil => simp [flatDs, PreD]
      | cons x r => have := x.sz_pos; rw [szs] at h; omega⟩
  | n + 1 => by
    have ih := preD_n n
    have h1 : ∀ t d, VT.sz t ≤ n + 1 → PreD d (flatD t d) := fun t d h => by
      rw [flatD_eq]
      exact ⟨Nat.le_refl _, ih.2 t.ks (d + 1) (by have := t.sz_eq; omega)⟩
    refine ⟨h1, fun l => ?_⟩
    induction l with
    | nil => intro d _; simp [flatDs, PreD]
    | cons x r ihr =>
      intro d h
      rw [szs] at h
      rw [flatDs]
      exact PreD.app _ _ d d (h1 x d (by omega)) ((flatD_n x.sz).1 x d (Nat.le_refl _)).2 (Nat.le_refl _) (ihr d (by omega))
theorem preD (t : VT) : PreD 0 (flatD t 0) := (preD_n t.sz).1 t 0 (Nat.le_refl _)
end Go.Proofs.Ythhnglpkfcmjiaa

namespace Go.Proofs.Ythhnglpkfcmjiaa
set_option linter.unusedVariables false
/-- A right tree's keys are unlike. -/
theorem chk2_nodup : ∀ (l : List VT) (seen : List St) (i : Nat), chk2 seen i l = 0 → (∀ x ∈ l, hasS seen x.k = false) ∧ (l.map VT.k).Nodup
  | [], _, _, _ => ⟨fun x h => by simp at h, by simp⟩
  | x :: r, seen, i, h => by
    rw [chk2] at h
    by_cases h1 : keyB i x.k = false
    · rw [if_pos h1] at h; omega
    · rw [if_neg h1] at h
      by_cases h2 : hasS seen x.k = true
      · rw [if_pos h2] at h; omega
      · rw [if_neg h2] at h
        by_cases h3 : chkN x ≠ 0
        · rw [if_pos h3] at h; exact absurd h h3
        · rw [if_neg h3] at h
          obtain ⟨h4, h5⟩ := chk2_nodup r (seen ++ [x.k]) (i + 1) h
          have h6 : ∀ y ∈ r, hasS seen y.k = false ∧ y.k ≠ x.k := fun y hy => by
            have h7 := h4 y hy
            unfold hasS at h7 ⊢
            rw [List.any_append, Bool.or_eq_false_iff] at h7
            refine ⟨h7.1, fun e => ?_⟩
            have h8 := h7.2
            simp [e] at h8
          refine ⟨fun y hy => ?_, ?_⟩
          · rcases List.mem_cons.1 hy with rfl | hy
            · simpa using h2
            · exact (h6 y hy).1
          · rw [List.map_cons, List.nodup_cons]
            refine ⟨fun hm => ?_, h5⟩
            obtain ⟨y, hy, e⟩ := List.mem_map.1 hm
            exact (h6 y hy).2 e
theorem right_nodup {t : VT} (h : chkT t = 0) : ((flT t).map VT.k).Nodup := by
  unfold chkT at h
  split at h
  · omega
  · rw [chkR_flat] at h
    exact (chk2_nodup _ _ _ h).2
theorem find_nodup : ∀ (l : List VT) (i : Nat) (hi : i < l.length), (l.map VT.k).Nodup → l.find? (fun x => decide (x.k = l[i].k)) = some l[i]
  | x :: r, 0, _, _ => by simp
  | x :: r, i + 1, hi, h => by
    rw [List.map_cons, List.nodup_cons] at h
    have hi' : i < r.length := by simpa using hi
    have hne : x.k ≠ r[i].k := fun e => h.1 (by rw [e]; exact List.mem_map_of_mem (List.getElem_mem hi'))
    simp only [List.getElem_cons_succ, List.find?_cons, hne, decide_false]
    exact find_nodup r i hi' h.2
theorem fnd_node {t : VT} (h : ((flT t).map VT.k).Nodup) {i : Nat} (hi : i < (flT t).length) : fndT t (flT t)[i].k = some (flT t)[i] := find_nodup _ i hi h
theorem take_app {D : List St} {s : St} {m : Nat} (h : m ≤ D.length) : (D ++ [s]).take m = D.take m := by rw [List.take_append_of_le_length h]
theorem parR_congr {D1 D2 : List St} {m : Nat} {l : List (Nat × VT)} {key : St} (h : ∀ j, j ≤ m → D1.take j = D2.take j) (hp : PreD m l) : parR D1 l key = parR D2 l key := by
  cases l with
  | nil => rfl
  | cons x r => rw [parR, parR, h x.1 hp.1]
theorem skip_n : ∀ (n : Nat), (∀ t d D rest key, VT.sz t ≤ n → D.length = d → (∀ x ∈ flT t, x.k ≠ key) → PreD d rest → parR D (flatD t d ++ rest) key = parR D rest key) ∧ (∀ l d D rest key, szs l ≤ n → D.length = d → (∀ x ∈ flTs l, x.k ≠ key) → PreD d rest → parR D (flatDs l d ++ rest) key = parR D rest key)
  | 0 => ⟨fun t d D rest key h => by have := t.sz_pos; omega, fun l d D rest key h => by
      cases l with
      | nil => intro _ _ _; simp [flatDs]
      | cons x r => have := x.sz_pos; rw [szs] at h; omega⟩
  | n + 1 => by
    have ih := skip_n n
    have h1 : ∀ t d D rest key, VT.sz t ≤ n + 1 → D.length = d → (∀ x ∈ flT t, x.k ≠ key) → PreD d rest → parR D (flatD t d ++ rest) key = parR D rest key := fun t d D rest key h hD hk hp => by
      rw [flatD_eq, List.cons_append, parR]
      rw [flT_eq] at hk
      rw [if_neg (hk t (List.mem_cons_self ..)), List.take_of_length_le (by show D.length ≤ d; omega)]
      rw [ih.2 t.ks (d + 1) (D ++ [t.k]) rest key (by have := t.sz_eq; omega) (by simp [hD]) (fun x hx => hk x (List.mem_cons_of_mem _ hx)) (hp.mono (Nat.le_succ d))]
      exact parR_congr (m := d) (fun j hj => take_app (by omega)) hp
    refine ⟨h1, fun l => ?_⟩
    induction l with
    | nil => intro d D rest key _ _ _ _; simp [flatDs]
    | cons x r ihr =>
      intro d D rest key h hD hk hp
      rw [szs] at h
      rw [flTs] at hk
      rw [flatDs, List.append_assoc]
      have hpr : PreD d (flatDs r d ++ rest) := PreD.app _ _ d d ((preD_n (szs r)).2 r d (Nat.le_refl _)) ((flatD_n (szs r)).2 r d (Nat.le_refl _)).2 (Nat.le_refl _) hp
      rw [h1 x d D _ key (by omega) hD (fun y hy => hk y (List.mem_append.2 (.inl hy))) hpr]
      exact ihr d D rest key (by omega) hD (fun y hy => hk y (List.mem_append.2 (.inr hy))) hp
theorem skip_t {t : VT} {d : Nat} {D : List St} {rest : List (Nat × VT)} {key : St} (hD : D.length = d) (hk : ∀ x ∈ flT t, x.k ≠ key) (hp : PreD d rest) : parR D (flatD t d ++ rest) key = parR D rest key := (skip_n t.sz).1 t d D rest key (Nat.le_refl _) hD hk hp
theorem kid_mem_n : ∀ (n : Nat), (∀ t x y, VT.sz t ≤ n → x ∈ flT t → y ∈ x.ks → y ∈ flT t) ∧ (∀ l x y, szs l ≤ n → x ∈ flTs l → y ∈ x.ks → y ∈ flTs l)
  | 0 => ⟨fun t x y h => by have := t.sz_pos; omega, fun l x y h => by
      cases l with
      | nil => intro hx; simp [flTs] at hx
      | cons x r => have := x.sz_pos; rw [szs] at h; omega⟩
  | n + 1 => by
    have ih := kid_mem_n n
    have hself : ∀ (l : List VT) (y : VT), y ∈ l → y ∈ flTs l := fun l => by
      induction l with
      | nil => intro y hy; simp at hy
      | cons a r ihr =>
        intro y hy
        rw [flTs]
        rcases List.mem_cons.1 hy with rfl | hy
        · exact List.mem_append.2 (.inl (by rw [flT_eq]; exact List.mem_cons_self ..))
        · exact List.mem_append.2 (.inr (ihr y hy))
    have h1 : ∀ t x y, VT.sz t ≤ n + 1 → x ∈ flT t → y ∈ x.ks → y ∈ flT t := fun t x y h hx hy => by
      rw [flT_eq] at hx ⊢
      rcases List.mem_cons.1 hx with rfl | hx
      · exact List.mem_cons_of_mem _ (hself _ _ hy)
      · exact List.mem_cons_of_mem _ (ih.2 t.ks x y (by have := t.sz_eq; omega) hx hy)
    refine ⟨h1, fun l => ?_⟩
    induction l with
    | nil => intro x y _ hx; simp [flTs] at hx
    | cons a r ihr =>
      intro x y h hx hy
      rw [szs] at h
      rw [flTs] at hx ⊢
      rcases List.mem_append.1 hx with hx | hx
      · exact List.mem_append.2 (.inl (h1 a x y (by omega) hx hy))
      · exact List.mem_append.2 (.inr (ihr x y (by omega) hx hy))
theorem kid_mem {t x y : VT} (hx : x ∈ flT t) (hy : y ∈ x.ks) : y ∈ flT t := (kid_mem_n t.sz).1 t x y (Nat.le_refl _) hx hy
theorem lastS_snoc (D : List St) (s : St) : lastS (D ++ [s]) = (s, true) := by unfold lastS; simp
theorem par_n : ∀ (n : Nat) (t : VT) (d : Nat) (D : List St) (rest : List (Nat × VT)), t.sz ≤ n → D.length = d → ((flT t).map VT.k).Nodup → PreD d rest → ∀ x ∈ flT t, ∀ y ∈ x.ks, parR D (flatD t d ++ rest) y.k = (x.k, true)
  | 0, t, _, _, _, h, _, _, _, _, _, _, _ => by have := t.sz_pos; omega
  | n + 1, t, d, D, rest, h, hD, hn, hp, x, hx, y, hy => by
    have hin : y ∈ flT t := kid_mem hx hy
    rw [flT_eq, List.map_cons, List.nodup_cons] at hn
    have hyk : y ∈ flTs t.ks := by
      rw [flT_eq] at hx hin
      rcases List.mem_cons.1 hin with e | h9
      · exfalso
        have h2 : y.sz < x.sz := by
          obtain ⟨j, hj, e2⟩ := List.getElem_of_mem hy
          rw [← e2]; exact VT.kid hj
        have h3 : ∀ (m : Nat), (∀ t x, VT.sz t ≤ m → x ∈ flT t → x.sz ≤ t.sz) ∧ (∀ l x, szs l ≤ m → x ∈ flTs l → x.sz ≤ szs l) := by
          intro m
          induction m with
          | zero => exact ⟨fun t x h => by have := t.sz_pos; omega, fun l x h => by
              cases l with
              | nil => intro hx; simp [flTs] at hx
              | cons x r => have := x.sz_pos; rw [szs] at h; omega⟩
          | succ m ih =>
            have g1 : ∀ t x, VT.sz t ≤ m + 1 → x ∈ flT t → x.sz ≤ t.sz := fun t x h hx => by
              rw [flT_eq] at hx
              rcases List.mem_cons.1 hx with rfl | hx
              · exact Nat.le_refl _
              · have := ih.2 t.ks x (by have := t.sz_eq; omega) hx; have := t.sz_eq; omega
            refine ⟨g1, fun l => ?_⟩
            induction l with
            | nil => intro x _ hx; simp [flTs] at hx
            | cons a r ihr =>
              intro x h hx
              rw [szs] at h ⊢
              rw [flTs] at hx
              rcases List.mem_append.1 hx with hx | hx
              · have := g1 a x (by omega) hx; omega
              · have := ihr x (by omega) hx; omega
        have h4 := (h3 t.sz).1 t x (Nat.le_refl _) (by rw [flT_eq]; exact hx)
        rw [e] at h2
        omega
      · exact h9
    have htk : t.k ≠ y.k := fun e => hn.1 (by rw [e]; exact List.mem_map_of_mem hyk)
    rw [flatD_eq, List.cons_append, parR, if_neg htk, List.take_of_length_le (by show D.length ≤ d; omega)]
    have hD2 : (D ++ [t.k]).length = d + 1 := by simp [hD]
    have hp2 : PreD (d + 1) rest := hp.mono (Nat.le_succ d)
    have key : ∀ (l : List VT), szs l ≤ n → ((flTs l).map VT.k).Nodup → (y ∈ l → parR (D ++ [t.k]) (flatDs l (d + 1) ++ rest) y.k = (t.k, true)) ∧ (x ∈ flTs l → parR (D ++ [t.k]) (flatDs l (d + 1) ++ rest) y.k = (x.k, true)) := by
      intro l
      induction l with
      | nil => intro _ _; exact ⟨fun h => by simp at h, fun h => by simp [flTs] at h⟩
      | cons a r ihr =>
        intro hs hnd
        rw [szs] at hs
        rw [flTs, List.map_append, List.nodup_append] at hnd
        obtain ⟨n1, n2, n3⟩ := hnd
        have hpr : PreD (d + 1) (flatDs r (d + 1) ++ rest) := PreD.app _ _ _ (d + 1) ((preD_n (szs r)).2 r (d + 1) (Nat.le_refl _)) ((flatD_n (szs r)).2 r (d + 1) (Nat.le_refl _)).2 (Nat.le_refl _) hp2
        have hsk : y ∈ flTs r → parR (D ++ [t.k]) (flatDs (a :: r) (d + 1) ++ rest) y.k = parR (D ++ [t.k]) (flatDs r (d + 1) ++ rest) y.k := fun hyr => by
          rw [flatDs, List.append_assoc]
          exact skip_t hD2 (fun z hz e => n3 z.k (List.mem_map_of_mem hz) y.k (List.mem_map_of_mem hyr) e) hpr
        have hself : ∀ (l : List VT) (y : VT), y ∈ l → y ∈ flTs l := fun l => by
          induction l with
          | nil => intro y hy; simp at hy
          | cons a r ihr =>
            intro y hy
            rw [flTs]
            rcases List.mem_cons.1 hy with rfl | hy
            · exact List.mem_append.2 (.inl (by rw [flT_eq]; exact List.mem_cons_self ..))
            · exact List.mem_append.2 (.inr (ihr y hy))
        obtain ⟨q1, q2⟩ := ihr (by omega) n2
        refine ⟨fun hyl => ?_, fun hxl => ?_⟩
        · rcases List.mem_cons.1 hyl with e | hyr
          · rw [flatDs, List.append_assoc, ← e, flatD_eq, List.cons_append, parR, if_pos rfl, List.take_of_length_le (by show (D ++ [t.k]).length ≤ d + 1; omega)]
            exact lastS_snoc D t.k
          · rw [hsk (hself r y hyr)]; exact q1 hyr
        · rw [flTs] at hxl
          rcases List.mem_append.1 hxl with hxa | hxr
          · rw [flatDs, List.append_assoc]
            exact par_n n a (d + 1) (D ++ [t.k]) _ (by omega) hD2 n1 hpr x hxa y hy
          · rw [hsk ((kid_mem_n (szs r)).2 r x y (Nat.le_refl _) hxr hy)]; exact q2 hxr
    obtain ⟨q1, q2⟩ := key t.ks (by have := t.sz_eq; omega) hn.2
    rw [flT_eq] at hx
    rcases List.mem_cons.1 hx with e | hx
    · rw [e] at hy ⊢
      exact q1 hy
    · exact q2 hx
/-- In a tree of unlike keys a kid's parent is who it stands beneath. -/
theorem par_kid {t x y : VT} (h : ((flT t).map VT.k).Nodup) (hx : x ∈ flT t) (hy : y ∈ x.ks) : parR [] (flatD t 0) y.k = (x.k, true) := by
  have := par_n t.sz t 0 [] [] (Nat.le_refl _) rfl h trivial x hx y hy
  simpa using this
theorem par_root (t : VT) : parR [] (flatD t 0) t.k = ((0, 0), false) := by
  rw [flatD_eq, parR, if_pos rfl]; rfl
end Go.Proofs.Ythhnglpkfcmjiaa
