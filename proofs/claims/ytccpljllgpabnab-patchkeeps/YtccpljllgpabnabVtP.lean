/- The document's Has, and what makes a node's own fields right. -/
import Derived.Test.YtccpljllgpabnabVtK
import Derived.Deep.Cut
import Derived.Laws.StructEq
namespace Go.Proofs.Ytccpljllgpabnab
open Go.RowKit
set_option linter.unusedVariables false
set_option linter.unusedSimpArgs false

set_option maxRecDepth 100000 in
set_option maxHeartbeats 4000000 in
theorem refHas_any (B : Nat) (v : Value) (D : List St) (s : St) (w : World) (h : OwnSt B w v D) (hl : D.length ≤ 1048577) : Calls Try.prog 10 #[v, .agg #[.int .i64 s.1, .int .i64 s.2]] w fun e w' => e = .returned (.bool (hasS D s)) ∧ Below w.heap.size w w' := by
  obtain ⟨a1, c1, rfl⟩ := OwnE.form h
  have hb0 : Below w.heap.size w (w.alloc (.cells #[.int .i64 s.1, .int .i64 s.2] 23)) := (Below.refl _ _).alloc (Nat.le_refl _) _
  have HO := hide9 h
  have HB0 := hide9 hb0
  have HKy : Hid (w.heap.size < (w.alloc (.cells #[.int .i64 s.1, .int .i64 s.2] 23)).heap.size ∧ (w.alloc (.cells #[.int .i64 s.1, .int .i64 s.2] 23)).cell? ⟨w.heap.size, 0, none⟩ = some (.int .i64 s.1) ∧ (w.alloc (.cells #[.int .i64 s.1, .int .i64 s.2] 23)).cell? ⟨w.heap.size, 1, none⟩ = some (.int .i64 s.2)) := ⟨by simp, by (rw [cell_of_row _ _ _ _ _ _ (heap_alloc_new w _)]; rfl), by (rw [cell_of_row _ _ _ _ _ _ (heap_alloc_new w _)]; rfl)⟩
  clear h hb0
  go_enter Try.func10, Try.ntmps10
  go_wp2
  go_loopw [5] (fun iv wr => ∃ (i : Nat), iv = .int .i64 (i : Int) ∧ i ≤ D.length ∧ Hid (hasS (D.take i) s = false) ∧ Hid (Below w.heap.size w wr ∧ Below (w.alloc (.cells #[.int .i64 s.1, .int .i64 s.2] 23)).heap.size (w.alloc (.cells #[.int .i64 s.1, .int .i64 s.2] 23)) wr)) (fun iv _ => D.length - (intOf iv).toNat)
  case atStart => exact ⟨0, rfl, Nat.zero_le _, rfl, ⟨HB0.out, Below.refl _ _⟩⟩
  case round =>
    obtain ⟨i, rfl, hil, HT, HBB⟩ := hrel
    have HBw := hide9 HBB.out.1
    have HB1 : Hid (Below (w.alloc (.cells #[.int .i64 s.1, .int .i64 s.2] 23)).heap.size (w.alloc (.cells #[.int .i64 s.1, .int .i64 s.2] 23)) wr) := HBB.out.2
    by_cases hlt : i < D.length
    · obtain ⟨g, cap, eg, _, hcs, _⟩ := OwnE.cells stCells_len HO.out hlt
      injection eg with e1 _ e3
      subst e1
      clear e3
      have hgl := (OwnE.lt HO.out g rfl).2
      have p0 := hcs 0 _ rfl
      have p1 := hcs 1 _ rfl
      have ht2 : hasS (D.take (i + 1)) s = (hasS (D.take i) s || decide (D[i] = s)) := (by unfold hasS; rw [List.take_succ_eq_append_getElem hlt, List.any_append]; simp)
      have hal : D[i] = s → hasS D s = true := fun e => hasS_iff.2 ⟨D[i], List.getElem_mem hlt, e⟩
      obtain ⟨x, ex⟩ : ∃ x, x = D[i] := ⟨_, rfl⟩
      rw [← ex] at p0 p1 ht2 hal
      have HG : Hid (g < (w.alloc (.cells #[.int .i64 s.1, .int .i64 s.2] 23)).heap.size ∧ (w.alloc (.cells #[.int .i64 s.1, .int .i64 s.2] 23)).cell? ⟨g, i * 2, none⟩ = some (.int .i64 x.1) ∧ (w.alloc (.cells #[.int .i64 s.1, .int .i64 s.2] 23)).cell? ⟨g, i * 2 + 1, none⟩ = some (.int .i64 x.2)) := ⟨by simp; omega, (HB0.out.cell (p := ⟨g, i * 2, none⟩) hgl).trans p0, (HB0.out.cell (p := ⟨g, i * 2 + 1, none⟩) hgl).trans p1⟩
      have Hal := hide9 hal
      have Ht2 := hide9 ht2
      have k1 : (i : Int) < (D.length : Int) := by omega
      have k0 : (0 : Int) ≤ (i : Int) := by omega
      clear ex p0 p1 hgl hcs ht2 hal HBB
      go_wp2_with fail
      by_cases he : x = s
      · have HE : Hid ((x.1, x.2) = (s.1, s.2)) := he
        have HR : Hid (hasS D s = true) := Hal.out he
        clear he
        refine wp_region_held_drew (S := fun W' => Below (w.alloc (.cells #[.int .i64 s.1, .int .i64 s.2] 23)).heap.size (w.alloc (.cells #[.int .i64 s.1, .int .i64 s.2] 23)) W') (by kernel_rfl) HB1.out.drew (fun hHeld => ?_)
        obtain ⟨Ua1u0, eW⟩ : ∃ X, X = wr.drew := ⟨_, rfl⟩
        have hb : Below wr.heap.size wr Ua1u0 := by rw [eW]; exact (Below.refl _ _).drew
        replace HBw : Hid (Below w.heap.size w Ua1u0) := HBw.out.trans (hb.mono HBw.out.size)
        rw [← eW] at hHeld ⊢
        clear eW hb
        refine tkW 0 (some 12) (v := ?_) ?_ hHeld ?_
        rotate_left
        · (intro ww _; go_simp; try with_reducible rfl)
        refine tkW 1 (some 13) (v := ?_) ?_ hHeld ?_
        rotate_left
        · (intro ww _; go_simp; try with_reducible rfl)
        refine tkW 2 (some 14) (v := ?_) ?_ hHeld ?_
        rotate_left
        · (intro ww hSw; (try dsimp only at hSw); go_simp; try with_reducible rfl)
        refine tkW 3 (some 15) (v := ?_) ?_ hHeld ?_
        rotate_left
        · (intro ww hSw; (try dsimp only at hSw); have a0 : ww.cell? ⟨g, i * 2, none⟩ = some (.int .i64 x.1) := (hSw.cell (p := ⟨g, i * 2, none⟩) HG.out.1).trans HG.out.2.1; have a1 : ww.cell? ⟨g, i * 2 + 1, none⟩ = some (.int .i64 x.2) := (hSw.cell (p := ⟨g, i * 2 + 1, none⟩) HG.out.1).trans HG.out.2.2; go_simp; try with_reducible rfl)
        refine tkW 4 (some 16) (v := ?_) ?_ hHeld ?_
        rotate_left
        · (intro ww hSw; (try dsimp only at hSw); have a0 : ww.cell? ⟨w.heap.size, 0, none⟩ = some (.int .i64 s.1) := (hSw.cell (p := ⟨w.heap.size, 0, none⟩) HKy.out.1).trans HKy.out.2.1; have a1 : ww.cell? ⟨w.heap.size, 1, none⟩ = some (.int .i64 s.2) := (hSw.cell (p := ⟨w.heap.size, 1, none⟩) HKy.out.1).trans HKy.out.2.2; go_simp; try with_reducible rfl)
        refine tkW 5 (some 17) (v := ?_) ?_ hHeld ?_
        rotate_left
        · (intro ww hSw; (try dsimp only at hSw); have hq : ∀ w, (binOp .eql 23 (.agg #[.int .i64 x.1, .int .i64 x.2]) (.agg #[.int .i64 s.1, .int .i64 s.2])).run Try.prog w = .ok (.bool true) w := fun w => (by rw [eqlSt, decide_eq_true HE.out]); go_simp; try with_reducible rfl)
        refine wpAnyH_done (by kernel_rfl) ?_ _
        clear hHeld
        go_wp2
        go_ret
        exact ⟨ret_bool (by rw [HR.out]), HBw.out⟩
      · have HE : Hid (¬ (x.1, x.2) = (s.1, s.2)) := he
        have HT2 : Hid (hasS (D.take (i + 1)) s = false) := (by show _ = _; rw [Ht2.out, HT.out, decide_eq_false he]; rfl)
        clear he
        refine wp_region_held_drew (S := fun W' => Below (w.alloc (.cells #[.int .i64 s.1, .int .i64 s.2] 23)).heap.size (w.alloc (.cells #[.int .i64 s.1, .int .i64 s.2] 23)) W') (by kernel_rfl) HB1.out.drew (fun hHeld => ?_)
        obtain ⟨Ub2u0, eW⟩ : ∃ X, X = wr.drew := ⟨_, rfl⟩
        have hb : Below wr.heap.size wr Ub2u0 := by rw [eW]; exact (Below.refl _ _).drew
        replace HBw : Hid (Below w.heap.size w Ub2u0) := HBw.out.trans (hb.mono HBw.out.size)
        rw [← eW] at hHeld ⊢
        clear eW hb
        refine tkW 0 (some 12) (v := ?_) ?_ hHeld ?_
        rotate_left
        · (intro ww _; go_simp; try with_reducible rfl)
        refine tkW 1 (some 13) (v := ?_) ?_ hHeld ?_
        rotate_left
        · (intro ww _; go_simp; try with_reducible rfl)
        refine tkW 2 (some 14) (v := ?_) ?_ hHeld ?_
        rotate_left
        · (intro ww hSw; (try dsimp only at hSw); go_simp; try with_reducible rfl)
        refine tkW 3 (some 15) (v := ?_) ?_ hHeld ?_
        rotate_left
        · (intro ww hSw; (try dsimp only at hSw); have a0 : ww.cell? ⟨g, i * 2, none⟩ = some (.int .i64 x.1) := (hSw.cell (p := ⟨g, i * 2, none⟩) HG.out.1).trans HG.out.2.1; have a1 : ww.cell? ⟨g, i * 2 + 1, none⟩ = some (.int .i64 x.2) := (hSw.cell (p := ⟨g, i * 2 + 1, none⟩) HG.out.1).trans HG.out.2.2; go_simp; try with_reducible rfl)
        refine tkW 4 (some 16) (v := ?_) ?_ hHeld ?_
        rotate_left
        · (intro ww hSw; (try dsimp only at hSw); have a0 : ww.cell? ⟨w.heap.size, 0, none⟩ = some (.int .i64 s.1) := (hSw.cell (p := ⟨w.heap.size, 0, none⟩) HKy.out.1).trans HKy.out.2.1; have a1 : ww.cell? ⟨w.heap.size, 1, none⟩ = some (.int .i64 s.2) := (hSw.cell (p := ⟨w.heap.size, 1, none⟩) HKy.out.1).trans HKy.out.2.2; go_simp; try with_reducible rfl)
        refine tkW 5 (some 17) (v := ?_) ?_ hHeld ?_
        rotate_left
        · (intro ww hSw; (try dsimp only at hSw); have hq : ∀ w, (binOp .eql 23 (.agg #[.int .i64 x.1, .int .i64 x.2]) (.agg #[.int .i64 s.1, .int .i64 s.2])).run Try.prog w = .ok (.bool false) w := fun w => (by rw [eqlSt, decide_eq_false HE.out]); go_simp; try with_reducible rfl)
        refine wpAnyH_done (by kernel_rfl) ?_ _
        have HB2 := hide9 hHeld
        clear hHeld
        have n1 : IntKind.i64.wrap ((i : Int) + 1) = (i : Int) + 1 := by rw [IntKind.wrap_i64]; omega
        go_wp2
        go_roundw
        case rel => exact ⟨i + 1, by go_num, by omega, HT2, ⟨HBw.out, HB2.out⟩⟩
        case measure => simp [intOf]; omega
    · have HR : Hid (hasS D s = false) := (by have h1 := HT.out; rw [List.take_of_length_le (by omega)] at h1; exact h1)
      have k1 : ¬ (i : Int) < (D.length : Int) := by omega
      have k3 : decide ((i : Int) < (D.length : Int)) = false := decide_eq_false k1
      go_wp2
      go_ret
      exact ⟨ret_bool (by rw [HR.out]), HBw.out⟩

theorem run_geqS (a b : ByteArray) (w : World) : (binOp .geq 9 (.string a) (.string b)).run Try.prog w = .ok (.bool (!ltT a b)) w := by
  rw [← txt_less]
  first | rfl | (simp [binOp, go_sem]; done) | kernel_rfl
/-- The name ahead of place i. -/
def prevA (A : List At) (i : Nat) : ByteArray := if i = 0 then noTx else (A.getD (i - 1) (noTx, noTx)).1
theorem prevA_pos {A : List At} {i : Nat} (h0 : i ≠ 0) (h : i - 1 < A.length) : ∃ hj : i - 1 < A.length, prevA A i = A[i - 1].1 := ⟨h, by unfold prevA; rw [if_neg h0, List.getD_eq_getElem?_getD, List.getElem?_eq_getElem h]; rfl⟩
theorem prevA_succ {A : List At} {i : Nat} (h : i < A.length) : prevA A (i + 1) = A[i].1 := by
  unfold prevA
  rw [if_neg (by omega), Nat.add_sub_cancel, List.getD_eq_getElem?_getD, List.getElem?_eq_getElem h]
  rfl
theorem name_pos {b : ByteArray} (h : nameL (txL b) = true) : ltT noTx b = true := by
  unfold ltT
  rw [decide_eq_true_eq]
  unfold nameL at h
  cases hb : txL b with
  | nil => rw [hb] at h; simp at h
  | cons x l => show [] < x :: l; simp

end Go.Proofs.Ytccpljllgpabnab
