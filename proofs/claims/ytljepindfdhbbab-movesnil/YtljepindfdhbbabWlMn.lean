/- MovesNil: a nil tree is made of no moves. -/
import Derived.Test.YtljepindfdhbbabTrP
import Derived.Test.YtljepindfdhbbabTrO
import Derived.Test.YtljepindfdhbbabBaseV
namespace Go.Proofs.Ytljepindfdhbbab
open Go.RowKit
set_option linter.unusedVariables false
set_option linter.unusedSimpArgs false

set_option maxHeartbeats 1000000 in
theorem do_nil (s1 s2 s3 : St) (w : World) :
    Calls Try.prog 7 #[.pointer none, .agg #[.int .i64 s1.1, .int .i64 s1.2], .agg #[.int .i64 s2.1, .int .i64 s2.2], .agg #[.int .i64 s3.1, .int .i64 s3.2]] w fun e w' => e = .returned (.int .i64 7) ∧ Below w.heap.size w w' := by
  go_enter Try.func7, Try.ntmps7
  go_wp2
  go_ret
  exact ⟨rfl, (((Below.refl _ _).alloc (Nat.le_refl _) _).alloc (by simp) _).alloc (by simp; omega) _⟩

set_option maxHeartbeats 1000000 in
theorem undo_nil (s1 : St) (w : World) :
    Calls Try.prog 8 #[.pointer none, .agg #[.int .i64 s1.1, .int .i64 s1.2]] w fun e w' => e = .returned (.int .i64 7) ∧ Below w.heap.size w w' := by
  go_enter Try.func8, Try.ntmps8
  go_wp2
  go_ret
  exact ⟨rfl, (Below.refl _ _).alloc (Nat.le_refl _) _⟩

set_option maxHeartbeats 1000000 in
theorem len_nil (w : World) :
    Calls Try.prog 10 #[.pointer none] w fun e w' => e = .returned (.int .i64 0) ∧ Below w.heap.size w w' := by
  go_enter Try.func10, Try.ntmps10
  go_wp2
  go_ret
  exact ⟨rfl, Below.refl _ _⟩

set_option maxHeartbeats 1000000 in
theorem clone_nilT (w : World) :
    Calls Try.prog 16 #[.pointer none] w fun e w' => e = .returned (.pointer none) ∧ Below w.heap.size w w' := by
  go_enter Try.func16, Try.ntmps16
  go_wp2
  go_ret
  exact ⟨rfl, Below.refl _ _⟩

set_option maxRecDepth 100000 in
set_option maxHeartbeats 8000000 in
theorem movesNil_walk (a : Ma) (w : World) :
    Calls Try.prog 4 #[.agg (maCells a).toArray] w fun e w' => e = .returned (.bool true) ∧ Below w.heap.size w w' := by
  obtain ⟨W0, eW⟩ : ∃ X, X = w.alloc (.cells (maCells a).toArray 26) := ⟨_, rfl⟩
  have HB : Hid (Below w.heap.size w W0) := by rw [eW]; exact (Below.refl _ _).alloc (Nat.le_refl _) _
  have HA : Hid (W0.heap[w.heap.size]? = some (.cells (maCells a).toArray 26)) := by rw [eW]; exact heap_alloc_new _ _
  have HeW : Hid (W0 = w.alloc (.cells (maCells a).toArray 26)) := eW
  have f1 : W0.cell? ⟨w.heap.size, 1, none⟩ = some (.int .i64 a.2.ts.1) := by rw [cell_of_row W0 _ 1 _ _ _ HA.out]; rfl
  have f2 : W0.cell? ⟨w.heap.size, 2, none⟩ = some (.int .i64 a.2.ts.2) := by rw [cell_of_row W0 _ 2 _ _ _ HA.out]; rfl
  have f3 : W0.cell? ⟨w.heap.size, 3, none⟩ = some (.int .i64 a.2.nd.1) := by rw [cell_of_row W0 _ 3 _ _ _ HA.out]; rfl
  have f4 : W0.cell? ⟨w.heap.size, 4, none⟩ = some (.int .i64 a.2.nd.2) := by rw [cell_of_row W0 _ 4 _ _ _ HA.out]; rfl
  have f5 : W0.cell? ⟨w.heap.size, 5, none⟩ = some (.int .i64 a.2.pr.1) := by rw [cell_of_row W0 _ 5 _ _ _ HA.out]; rfl
  have f6 : W0.cell? ⟨w.heap.size, 6, none⟩ = some (.int .i64 a.2.pr.2) := by rw [cell_of_row W0 _ 6 _ _ _ HA.out]; rfl
  rw [eW] at f1 f2 f3 f4 f5 f6
  clear eW
  go_enter Try.func4, Try.ntmps4
  go_wp2_with fail
  rw [← HeW.out]
  clear f1 f2 f3 f4 f5 f6
  clear HeW
  refine (where_any (fun _ => False) (.pointer none) [] a.2.nd _ (.inr ⟨rfl, rfl⟩) (fun _ h => h.elim)).mono ?_
  rintro e w0 ⟨he, hask⟩
  have he2 : e = .returned (.tuple #[.agg #[.int .i64 0, .int .i64 0, .int .i64 0, .int .i64 0, .int .i64 0, .int .i64 0], .bool false]) := he
  subst he2
  have hb : Below _ _ _ := hask.2.below (B := _) (fun _ h => h.elim) (Nat.le_refl _)
  clear hask he
  obtain ⟨W2, eW2⟩ : ∃ X, X = w0.alloc (.cells #[.int .i64 0, .int .i64 0, .int .i64 0, .int .i64 0, .int .i64 0, .int .i64 0] 43) := ⟨_, rfl⟩
  have hb2 : Below w0.heap.size w0 W2 := by rw [eW2]; exact (Below.refl _ _).alloc (Nat.le_refl _) _
  replace HA : Hid (W2.heap[w.heap.size]? = some (.cells (maCells a).toArray 26)) := (hb2.block _ (row_lt ((hb.block _ (row_lt HA.out)).trans HA.out))).trans ((hb.block _ (row_lt HA.out)).trans HA.out)
  have HZ0 : Hid (W2.heap[w0.heap.size]? = some (.cells #[.int .i64 0, .int .i64 0, .int .i64 0, .int .i64 0, .int .i64 0, .int .i64 0] 43)) := by rw [eW2]; exact heap_alloc_new _ _
  replace HB : Hid (Below w.heap.size w W2) := (HB.out.trans (hb.mono HB.out.size)).trans (hb2.mono (Nat.le_trans HB.out.size hb.size))
  have HeW : Hid (W2 = w0.alloc (.cells #[.int .i64 0, .int .i64 0, .int .i64 0, .int .i64 0, .int .i64 0, .int .i64 0] 43)) := eW2
  obtain ⟨nb, enb⟩ : ∃ b, b = w0.heap.size := ⟨_, rfl⟩
  have HZ : Hid (W2.heap[nb]? = some (.cells #[.int .i64 0, .int .i64 0, .int .i64 0, .int .i64 0, .int .i64 0, .int .i64 0] 43)) := by (rw [enb]; exact HZ0.out)
  have HeN : Hid (nb = w0.heap.size) := enb
  clear hb hb2 enb HZ0
  have f1 : W2.cell? ⟨w.heap.size, 1, none⟩ = some (.int .i64 a.2.ts.1) := by rw [cell_of_row W2 _ 1 _ _ _ HA.out]; rfl
  have f2 : W2.cell? ⟨w.heap.size, 2, none⟩ = some (.int .i64 a.2.ts.2) := by rw [cell_of_row W2 _ 2 _ _ _ HA.out]; rfl
  have f3 : W2.cell? ⟨w.heap.size, 3, none⟩ = some (.int .i64 a.2.nd.1) := by rw [cell_of_row W2 _ 3 _ _ _ HA.out]; rfl
  have f4 : W2.cell? ⟨w.heap.size, 4, none⟩ = some (.int .i64 a.2.nd.2) := by rw [cell_of_row W2 _ 4 _ _ _ HA.out]; rfl
  have f5 : W2.cell? ⟨w.heap.size, 5, none⟩ = some (.int .i64 a.2.pr.1) := by rw [cell_of_row W2 _ 5 _ _ _ HA.out]; rfl
  have f6 : W2.cell? ⟨w.heap.size, 6, none⟩ = some (.int .i64 a.2.pr.2) := by rw [cell_of_row W2 _ 6 _ _ _ HA.out]; rfl
  rw [eW2] at f1 f2 f3 f4 f5 f6
  clear eW2
  go_wp2_with fail
  rw [← HeW.out, ← HeN.out]
  clear f1 f2 f3 f4 f5 f6
  clear HeW HeN
  refine (do_nil _ _ _ _).mono ?_
  rintro e w1 ⟨rfl, hb⟩
  replace HA : Hid (w1.heap[w.heap.size]? = some (.cells (maCells a).toArray 26)) := (hb.block _ (row_lt HA.out)).trans HA.out
  replace HZ : Hid (w1.heap[nb]? = some (.cells #[.int .i64 0, .int .i64 0, .int .i64 0, .int .i64 0, .int .i64 0, .int .i64 0] 43)) := (hb.block _ (row_lt HZ.out)).trans HZ.out
  replace HB : Hid (Below w.heap.size w w1) := HB.out.trans (hb.mono HB.out.size)
  clear hb
  have f1 : w1.cell? ⟨w.heap.size, 1, none⟩ = some (.int .i64 a.2.ts.1) := by rw [cell_of_row w1 _ 1 _ _ _ HA.out]; rfl
  have f2 : w1.cell? ⟨w.heap.size, 2, none⟩ = some (.int .i64 a.2.ts.2) := by rw [cell_of_row w1 _ 2 _ _ _ HA.out]; rfl
  have f3 : w1.cell? ⟨w.heap.size, 3, none⟩ = some (.int .i64 a.2.nd.1) := by rw [cell_of_row w1 _ 3 _ _ _ HA.out]; rfl
  have f4 : w1.cell? ⟨w.heap.size, 4, none⟩ = some (.int .i64 a.2.nd.2) := by rw [cell_of_row w1 _ 4 _ _ _ HA.out]; rfl
  have f5 : w1.cell? ⟨w.heap.size, 5, none⟩ = some (.int .i64 a.2.pr.1) := by rw [cell_of_row w1 _ 5 _ _ _ HA.out]; rfl
  have f6 : w1.cell? ⟨w.heap.size, 6, none⟩ = some (.int .i64 a.2.pr.2) := by rw [cell_of_row w1 _ 6 _ _ _ HA.out]; rfl
  have z0 : w1.cell? ⟨nb, 0, none⟩ = some (.int .i64 0) := by rw [cell_of_row w1 _ 0 _ _ _ HZ.out]; rfl
  have z1 : w1.cell? ⟨nb, 1, none⟩ = some (.int .i64 0) := by rw [cell_of_row w1 _ 1 _ _ _ HZ.out]; rfl
  have z2 : w1.cell? ⟨nb, 2, none⟩ = some (.int .i64 0) := by rw [cell_of_row w1 _ 2 _ _ _ HZ.out]; rfl
  have z3 : w1.cell? ⟨nb, 3, none⟩ = some (.int .i64 0) := by rw [cell_of_row w1 _ 3 _ _ _ HZ.out]; rfl
  have z4 : w1.cell? ⟨nb, 4, none⟩ = some (.int .i64 0) := by rw [cell_of_row w1 _ 4 _ _ _ HZ.out]; rfl
  have z5 : w1.cell? ⟨nb, 5, none⟩ = some (.int .i64 0) := by rw [cell_of_row w1 _ 5 _ _ _ HZ.out]; rfl
  go_wp2_with fail
  clear f1 f2 f3 f4 f5 f6
  clear z0 z1 z2 z3 z4 z5
  refine (undo_nil _ _).mono ?_
  rintro e w2 ⟨rfl, hb⟩
  replace HA : Hid (w2.heap[w.heap.size]? = some (.cells (maCells a).toArray 26)) := (hb.block _ (row_lt HA.out)).trans HA.out
  replace HZ : Hid (w2.heap[nb]? = some (.cells #[.int .i64 0, .int .i64 0, .int .i64 0, .int .i64 0, .int .i64 0, .int .i64 0] 43)) := (hb.block _ (row_lt HZ.out)).trans HZ.out
  replace HB : Hid (Below w.heap.size w w2) := HB.out.trans (hb.mono HB.out.size)
  clear hb
  have f1 : w2.cell? ⟨w.heap.size, 1, none⟩ = some (.int .i64 a.2.ts.1) := by rw [cell_of_row w2 _ 1 _ _ _ HA.out]; rfl
  have f2 : w2.cell? ⟨w.heap.size, 2, none⟩ = some (.int .i64 a.2.ts.2) := by rw [cell_of_row w2 _ 2 _ _ _ HA.out]; rfl
  have f3 : w2.cell? ⟨w.heap.size, 3, none⟩ = some (.int .i64 a.2.nd.1) := by rw [cell_of_row w2 _ 3 _ _ _ HA.out]; rfl
  have f4 : w2.cell? ⟨w.heap.size, 4, none⟩ = some (.int .i64 a.2.nd.2) := by rw [cell_of_row w2 _ 4 _ _ _ HA.out]; rfl
  have f5 : w2.cell? ⟨w.heap.size, 5, none⟩ = some (.int .i64 a.2.pr.1) := by rw [cell_of_row w2 _ 5 _ _ _ HA.out]; rfl
  have f6 : w2.cell? ⟨w.heap.size, 6, none⟩ = some (.int .i64 a.2.pr.2) := by rw [cell_of_row w2 _ 6 _ _ _ HA.out]; rfl
  have z0 : w2.cell? ⟨nb, 0, none⟩ = some (.int .i64 0) := by rw [cell_of_row w2 _ 0 _ _ _ HZ.out]; rfl
  have z1 : w2.cell? ⟨nb, 1, none⟩ = some (.int .i64 0) := by rw [cell_of_row w2 _ 1 _ _ _ HZ.out]; rfl
  have z2 : w2.cell? ⟨nb, 2, none⟩ = some (.int .i64 0) := by rw [cell_of_row w2 _ 2 _ _ _ HZ.out]; rfl
  have z3 : w2.cell? ⟨nb, 3, none⟩ = some (.int .i64 0) := by rw [cell_of_row w2 _ 3 _ _ _ HZ.out]; rfl
  have z4 : w2.cell? ⟨nb, 4, none⟩ = some (.int .i64 0) := by rw [cell_of_row w2 _ 4 _ _ _ HZ.out]; rfl
  have z5 : w2.cell? ⟨nb, 5, none⟩ = some (.int .i64 0) := by rw [cell_of_row w2 _ 5 _ _ _ HZ.out]; rfl
  go_wp2_with fail
  clear f1 f2 f3 f4 f5 f6
  clear z0 z1 z2 z3 z4 z5
  refine (len_nil _).mono ?_
  rintro e w3 ⟨rfl, hb⟩
  replace HA : Hid (w3.heap[w.heap.size]? = some (.cells (maCells a).toArray 26)) := (hb.block _ (row_lt HA.out)).trans HA.out
  replace HZ : Hid (w3.heap[nb]? = some (.cells #[.int .i64 0, .int .i64 0, .int .i64 0, .int .i64 0, .int .i64 0, .int .i64 0] 43)) := (hb.block _ (row_lt HZ.out)).trans HZ.out
  replace HB : Hid (Below w.heap.size w w3) := HB.out.trans (hb.mono HB.out.size)
  clear hb
  have f1 : w3.cell? ⟨w.heap.size, 1, none⟩ = some (.int .i64 a.2.ts.1) := by rw [cell_of_row w3 _ 1 _ _ _ HA.out]; rfl
  have f2 : w3.cell? ⟨w.heap.size, 2, none⟩ = some (.int .i64 a.2.ts.2) := by rw [cell_of_row w3 _ 2 _ _ _ HA.out]; rfl
  have f3 : w3.cell? ⟨w.heap.size, 3, none⟩ = some (.int .i64 a.2.nd.1) := by rw [cell_of_row w3 _ 3 _ _ _ HA.out]; rfl
  have f4 : w3.cell? ⟨w.heap.size, 4, none⟩ = some (.int .i64 a.2.nd.2) := by rw [cell_of_row w3 _ 4 _ _ _ HA.out]; rfl
  have f5 : w3.cell? ⟨w.heap.size, 5, none⟩ = some (.int .i64 a.2.pr.1) := by rw [cell_of_row w3 _ 5 _ _ _ HA.out]; rfl
  have f6 : w3.cell? ⟨w.heap.size, 6, none⟩ = some (.int .i64 a.2.pr.2) := by rw [cell_of_row w3 _ 6 _ _ _ HA.out]; rfl
  have z0 : w3.cell? ⟨nb, 0, none⟩ = some (.int .i64 0) := by rw [cell_of_row w3 _ 0 _ _ _ HZ.out]; rfl
  have z1 : w3.cell? ⟨nb, 1, none⟩ = some (.int .i64 0) := by rw [cell_of_row w3 _ 1 _ _ _ HZ.out]; rfl
  have z2 : w3.cell? ⟨nb, 2, none⟩ = some (.int .i64 0) := by rw [cell_of_row w3 _ 2 _ _ _ HZ.out]; rfl
  have z3 : w3.cell? ⟨nb, 3, none⟩ = some (.int .i64 0) := by rw [cell_of_row w3 _ 3 _ _ _ HZ.out]; rfl
  have z4 : w3.cell? ⟨nb, 4, none⟩ = some (.int .i64 0) := by rw [cell_of_row w3 _ 4 _ _ _ HZ.out]; rfl
  have z5 : w3.cell? ⟨nb, 5, none⟩ = some (.int .i64 0) := by rw [cell_of_row w3 _ 5 _ _ _ HZ.out]; rfl
  go_wp2_with fail
  clear f1 f2 f3 f4 f5 f6
  clear z0 z1 z2 z3 z4 z5
  refine (counts_any (fun _ => False) (.pointer none) [] a.2.ts _ (.inr ⟨rfl, rfl⟩) (fun _ h => h.elim)).mono ?_
  rintro e w4 ⟨rfl, hask⟩
  have hb : Below _ _ _ := hask.2.below (B := _) (fun _ h => h.elim) (Nat.le_refl _)
  clear hask
  replace HA : Hid (w4.heap[w.heap.size]? = some (.cells (maCells a).toArray 26)) := (hb.block _ (row_lt HA.out)).trans HA.out
  replace HZ : Hid (w4.heap[nb]? = some (.cells #[.int .i64 0, .int .i64 0, .int .i64 0, .int .i64 0, .int .i64 0, .int .i64 0] 43)) := (hb.block _ (row_lt HZ.out)).trans HZ.out
  replace HB : Hid (Below w.heap.size w w4) := HB.out.trans (hb.mono HB.out.size)
  clear hb
  have f1 : w4.cell? ⟨w.heap.size, 1, none⟩ = some (.int .i64 a.2.ts.1) := by rw [cell_of_row w4 _ 1 _ _ _ HA.out]; rfl
  have f2 : w4.cell? ⟨w.heap.size, 2, none⟩ = some (.int .i64 a.2.ts.2) := by rw [cell_of_row w4 _ 2 _ _ _ HA.out]; rfl
  have f3 : w4.cell? ⟨w.heap.size, 3, none⟩ = some (.int .i64 a.2.nd.1) := by rw [cell_of_row w4 _ 3 _ _ _ HA.out]; rfl
  have f4 : w4.cell? ⟨w.heap.size, 4, none⟩ = some (.int .i64 a.2.nd.2) := by rw [cell_of_row w4 _ 4 _ _ _ HA.out]; rfl
  have f5 : w4.cell? ⟨w.heap.size, 5, none⟩ = some (.int .i64 a.2.pr.1) := by rw [cell_of_row w4 _ 5 _ _ _ HA.out]; rfl
  have f6 : w4.cell? ⟨w.heap.size, 6, none⟩ = some (.int .i64 a.2.pr.2) := by rw [cell_of_row w4 _ 6 _ _ _ HA.out]; rfl
  have z0 : w4.cell? ⟨nb, 0, none⟩ = some (.int .i64 0) := by rw [cell_of_row w4 _ 0 _ _ _ HZ.out]; rfl
  have z1 : w4.cell? ⟨nb, 1, none⟩ = some (.int .i64 0) := by rw [cell_of_row w4 _ 1 _ _ _ HZ.out]; rfl
  have z2 : w4.cell? ⟨nb, 2, none⟩ = some (.int .i64 0) := by rw [cell_of_row w4 _ 2 _ _ _ HZ.out]; rfl
  have z3 : w4.cell? ⟨nb, 3, none⟩ = some (.int .i64 0) := by rw [cell_of_row w4 _ 3 _ _ _ HZ.out]; rfl
  have z4 : w4.cell? ⟨nb, 4, none⟩ = some (.int .i64 0) := by rw [cell_of_row w4 _ 4 _ _ _ HZ.out]; rfl
  have z5 : w4.cell? ⟨nb, 5, none⟩ = some (.int .i64 0) := by rw [cell_of_row w4 _ 5 _ _ _ HZ.out]; rfl
  have hcn : cntS [] a.2.ts = false := rfl
  rw [hcn]
  clear hcn
  go_wp2_with fail
  clear f1 f2 f3 f4 f5 f6
  clear z0 z1 z2 z3 z4 z5
  refine (above_any (fun _ => False) (.pointer none) [] a.2.nd _ (.inr ⟨rfl, rfl⟩) (fun _ h => h.elim)).mono ?_
  rintro e w5 ⟨v9, rfl, ho, hask⟩
  have hb : Below _ _ _ := hask.2.below (B := _) (fun _ h => h.elim) (Nat.le_refl _)
  clear hask
  replace HA : Hid (w5.heap[w.heap.size]? = some (.cells (maCells a).toArray 26)) := (hb.block _ (row_lt HA.out)).trans HA.out
  replace HZ : Hid (w5.heap[nb]? = some (.cells #[.int .i64 0, .int .i64 0, .int .i64 0, .int .i64 0, .int .i64 0, .int .i64 0] 43)) := (hb.block _ (row_lt HZ.out)).trans HZ.out
  replace HB : Hid (Below w.heap.size w w5) := HB.out.trans (hb.mono HB.out.size)
  clear hb
  obtain ⟨a9, n9, c9, e9⟩ : ∃ x n c, v9 = .slice x n c := by obtain ⟨x, c, e⟩ := ho.form; exact ⟨x, _, c, e⟩
  have hn9 : n9 = 0 := by (obtain ⟨x, c, e⟩ := ho.form; rw [e9] at e; injection e)
  subst hn9
  subst e9
  clear ho
  have f1 : w5.cell? ⟨w.heap.size, 1, none⟩ = some (.int .i64 a.2.ts.1) := by rw [cell_of_row w5 _ 1 _ _ _ HA.out]; rfl
  have f2 : w5.cell? ⟨w.heap.size, 2, none⟩ = some (.int .i64 a.2.ts.2) := by rw [cell_of_row w5 _ 2 _ _ _ HA.out]; rfl
  have f3 : w5.cell? ⟨w.heap.size, 3, none⟩ = some (.int .i64 a.2.nd.1) := by rw [cell_of_row w5 _ 3 _ _ _ HA.out]; rfl
  have f4 : w5.cell? ⟨w.heap.size, 4, none⟩ = some (.int .i64 a.2.nd.2) := by rw [cell_of_row w5 _ 4 _ _ _ HA.out]; rfl
  have f5 : w5.cell? ⟨w.heap.size, 5, none⟩ = some (.int .i64 a.2.pr.1) := by rw [cell_of_row w5 _ 5 _ _ _ HA.out]; rfl
  have f6 : w5.cell? ⟨w.heap.size, 6, none⟩ = some (.int .i64 a.2.pr.2) := by rw [cell_of_row w5 _ 6 _ _ _ HA.out]; rfl
  have z0 : w5.cell? ⟨nb, 0, none⟩ = some (.int .i64 0) := by rw [cell_of_row w5 _ 0 _ _ _ HZ.out]; rfl
  have z1 : w5.cell? ⟨nb, 1, none⟩ = some (.int .i64 0) := by rw [cell_of_row w5 _ 1 _ _ _ HZ.out]; rfl
  have z2 : w5.cell? ⟨nb, 2, none⟩ = some (.int .i64 0) := by rw [cell_of_row w5 _ 2 _ _ _ HZ.out]; rfl
  have z3 : w5.cell? ⟨nb, 3, none⟩ = some (.int .i64 0) := by rw [cell_of_row w5 _ 3 _ _ _ HZ.out]; rfl
  have z4 : w5.cell? ⟨nb, 4, none⟩ = some (.int .i64 0) := by rw [cell_of_row w5 _ 4 _ _ _ HZ.out]; rfl
  have z5 : w5.cell? ⟨nb, 5, none⟩ = some (.int .i64 0) := by rw [cell_of_row w5 _ 5 _ _ _ HZ.out]; rfl
  go_wp2_with fail
  clear f1 f2 f3 f4 f5 f6
  clear z0 z1 z2 z3 z4 z5
  refine (kids_any (fun _ => False) (.pointer none) [] a.2.pr _ (.inr ⟨rfl, rfl⟩) (fun _ h => h.elim)).mono ?_
  rintro e w6 ⟨v9, rfl, ho, hask⟩
  have hb : Below _ _ _ := hask.2.below (B := _) (fun _ h => h.elim) (Nat.le_refl _)
  clear hask
  replace HA : Hid (w6.heap[w.heap.size]? = some (.cells (maCells a).toArray 26)) := (hb.block _ (row_lt HA.out)).trans HA.out
  replace HZ : Hid (w6.heap[nb]? = some (.cells #[.int .i64 0, .int .i64 0, .int .i64 0, .int .i64 0, .int .i64 0, .int .i64 0] 43)) := (hb.block _ (row_lt HZ.out)).trans HZ.out
  replace HB : Hid (Below w.heap.size w w6) := HB.out.trans (hb.mono HB.out.size)
  clear hb
  obtain ⟨a9, n9, c9, e9⟩ : ∃ x n c, v9 = .slice x n c := by obtain ⟨x, c, e⟩ := ho.form; exact ⟨x, _, c, e⟩
  have hn9 : n9 = 0 := by (obtain ⟨x, c, e⟩ := ho.form; rw [e9] at e; injection e)
  subst hn9
  subst e9
  clear ho
  have f1 : w6.cell? ⟨w.heap.size, 1, none⟩ = some (.int .i64 a.2.ts.1) := by rw [cell_of_row w6 _ 1 _ _ _ HA.out]; rfl
  have f2 : w6.cell? ⟨w.heap.size, 2, none⟩ = some (.int .i64 a.2.ts.2) := by rw [cell_of_row w6 _ 2 _ _ _ HA.out]; rfl
  have f3 : w6.cell? ⟨w.heap.size, 3, none⟩ = some (.int .i64 a.2.nd.1) := by rw [cell_of_row w6 _ 3 _ _ _ HA.out]; rfl
  have f4 : w6.cell? ⟨w.heap.size, 4, none⟩ = some (.int .i64 a.2.nd.2) := by rw [cell_of_row w6 _ 4 _ _ _ HA.out]; rfl
  have f5 : w6.cell? ⟨w.heap.size, 5, none⟩ = some (.int .i64 a.2.pr.1) := by rw [cell_of_row w6 _ 5 _ _ _ HA.out]; rfl
  have f6 : w6.cell? ⟨w.heap.size, 6, none⟩ = some (.int .i64 a.2.pr.2) := by rw [cell_of_row w6 _ 6 _ _ _ HA.out]; rfl
  have z0 : w6.cell? ⟨nb, 0, none⟩ = some (.int .i64 0) := by rw [cell_of_row w6 _ 0 _ _ _ HZ.out]; rfl
  have z1 : w6.cell? ⟨nb, 1, none⟩ = some (.int .i64 0) := by rw [cell_of_row w6 _ 1 _ _ _ HZ.out]; rfl
  have z2 : w6.cell? ⟨nb, 2, none⟩ = some (.int .i64 0) := by rw [cell_of_row w6 _ 2 _ _ _ HZ.out]; rfl
  have z3 : w6.cell? ⟨nb, 3, none⟩ = some (.int .i64 0) := by rw [cell_of_row w6 _ 3 _ _ _ HZ.out]; rfl
  have z4 : w6.cell? ⟨nb, 4, none⟩ = some (.int .i64 0) := by rw [cell_of_row w6 _ 4 _ _ _ HZ.out]; rfl
  have z5 : w6.cell? ⟨nb, 5, none⟩ = some (.int .i64 0) := by rw [cell_of_row w6 _ 5 _ _ _ HZ.out]; rfl
  go_wp2_with fail
  clear f1 f2 f3 f4 f5 f6
  clear z0 z1 z2 z3 z4 z5
  refine (all_any (fun _ => False) (.pointer none) [] _ (.inr ⟨rfl, rfl⟩) (fun _ h => h.elim)).mono ?_
  rintro e w7 ⟨v9, rfl, ho, hask⟩
  have hb : Below _ _ _ := hask.2.below (B := _) (fun _ h => h.elim) (Nat.le_refl _)
  clear hask
  replace HA : Hid (w7.heap[w.heap.size]? = some (.cells (maCells a).toArray 26)) := (hb.block _ (row_lt HA.out)).trans HA.out
  replace HZ : Hid (w7.heap[nb]? = some (.cells #[.int .i64 0, .int .i64 0, .int .i64 0, .int .i64 0, .int .i64 0, .int .i64 0] 43)) := (hb.block _ (row_lt HZ.out)).trans HZ.out
  replace HB : Hid (Below w.heap.size w w7) := HB.out.trans (hb.mono HB.out.size)
  clear hb
  obtain ⟨a9, n9, c9, e9⟩ : ∃ x n c, v9 = .slice x n c := by obtain ⟨x, c, e⟩ := ho.form; exact ⟨x, _, c, e⟩
  have hn9 : n9 = 0 := by (obtain ⟨x, c, e⟩ := ho.form; rw [e9] at e; injection e)
  subst hn9
  subst e9
  clear ho
  have f1 : w7.cell? ⟨w.heap.size, 1, none⟩ = some (.int .i64 a.2.ts.1) := by rw [cell_of_row w7 _ 1 _ _ _ HA.out]; rfl
  have f2 : w7.cell? ⟨w.heap.size, 2, none⟩ = some (.int .i64 a.2.ts.2) := by rw [cell_of_row w7 _ 2 _ _ _ HA.out]; rfl
  have f3 : w7.cell? ⟨w.heap.size, 3, none⟩ = some (.int .i64 a.2.nd.1) := by rw [cell_of_row w7 _ 3 _ _ _ HA.out]; rfl
  have f4 : w7.cell? ⟨w.heap.size, 4, none⟩ = some (.int .i64 a.2.nd.2) := by rw [cell_of_row w7 _ 4 _ _ _ HA.out]; rfl
  have f5 : w7.cell? ⟨w.heap.size, 5, none⟩ = some (.int .i64 a.2.pr.1) := by rw [cell_of_row w7 _ 5 _ _ _ HA.out]; rfl
  have f6 : w7.cell? ⟨w.heap.size, 6, none⟩ = some (.int .i64 a.2.pr.2) := by rw [cell_of_row w7 _ 6 _ _ _ HA.out]; rfl
  have z0 : w7.cell? ⟨nb, 0, none⟩ = some (.int .i64 0) := by rw [cell_of_row w7 _ 0 _ _ _ HZ.out]; rfl
  have z1 : w7.cell? ⟨nb, 1, none⟩ = some (.int .i64 0) := by rw [cell_of_row w7 _ 1 _ _ _ HZ.out]; rfl
  have z2 : w7.cell? ⟨nb, 2, none⟩ = some (.int .i64 0) := by rw [cell_of_row w7 _ 2 _ _ _ HZ.out]; rfl
  have z3 : w7.cell? ⟨nb, 3, none⟩ = some (.int .i64 0) := by rw [cell_of_row w7 _ 3 _ _ _ HZ.out]; rfl
  have z4 : w7.cell? ⟨nb, 4, none⟩ = some (.int .i64 0) := by rw [cell_of_row w7 _ 4 _ _ _ HZ.out]; rfl
  have z5 : w7.cell? ⟨nb, 5, none⟩ = some (.int .i64 0) := by rw [cell_of_row w7 _ 5 _ _ _ HZ.out]; rfl
  go_wp2_with fail
  clear f1 f2 f3 f4 f5 f6
  clear z0 z1 z2 z3 z4 z5
  refine (clone_nilT _).mono ?_
  rintro e w8 ⟨rfl, hb⟩
  replace HA : Hid (w8.heap[w.heap.size]? = some (.cells (maCells a).toArray 26)) := (hb.block _ (row_lt HA.out)).trans HA.out
  replace HZ : Hid (w8.heap[nb]? = some (.cells #[.int .i64 0, .int .i64 0, .int .i64 0, .int .i64 0, .int .i64 0, .int .i64 0] 43)) := (hb.block _ (row_lt HZ.out)).trans HZ.out
  replace HB : Hid (Below w.heap.size w w8) := HB.out.trans (hb.mono HB.out.size)
  clear hb
  have f1 : w8.cell? ⟨w.heap.size, 1, none⟩ = some (.int .i64 a.2.ts.1) := by rw [cell_of_row w8 _ 1 _ _ _ HA.out]; rfl
  have f2 : w8.cell? ⟨w.heap.size, 2, none⟩ = some (.int .i64 a.2.ts.2) := by rw [cell_of_row w8 _ 2 _ _ _ HA.out]; rfl
  have f3 : w8.cell? ⟨w.heap.size, 3, none⟩ = some (.int .i64 a.2.nd.1) := by rw [cell_of_row w8 _ 3 _ _ _ HA.out]; rfl
  have f4 : w8.cell? ⟨w.heap.size, 4, none⟩ = some (.int .i64 a.2.nd.2) := by rw [cell_of_row w8 _ 4 _ _ _ HA.out]; rfl
  have f5 : w8.cell? ⟨w.heap.size, 5, none⟩ = some (.int .i64 a.2.pr.1) := by rw [cell_of_row w8 _ 5 _ _ _ HA.out]; rfl
  have f6 : w8.cell? ⟨w.heap.size, 6, none⟩ = some (.int .i64 a.2.pr.2) := by rw [cell_of_row w8 _ 6 _ _ _ HA.out]; rfl
  have z0 : w8.cell? ⟨nb, 0, none⟩ = some (.int .i64 0) := by rw [cell_of_row w8 _ 0 _ _ _ HZ.out]; rfl
  have z1 : w8.cell? ⟨nb, 1, none⟩ = some (.int .i64 0) := by rw [cell_of_row w8 _ 1 _ _ _ HZ.out]; rfl
  have z2 : w8.cell? ⟨nb, 2, none⟩ = some (.int .i64 0) := by rw [cell_of_row w8 _ 2 _ _ _ HZ.out]; rfl
  have z3 : w8.cell? ⟨nb, 3, none⟩ = some (.int .i64 0) := by rw [cell_of_row w8 _ 3 _ _ _ HZ.out]; rfl
  have z4 : w8.cell? ⟨nb, 4, none⟩ = some (.int .i64 0) := by rw [cell_of_row w8 _ 4 _ _ _ HZ.out]; rfl
  have z5 : w8.cell? ⟨nb, 5, none⟩ = some (.int .i64 0) := by rw [cell_of_row w8 _ 5 _ _ _ HZ.out]; rfl
  go_wp2_with fail
  clear f1 f2 f3 f4 f5 f6
  clear z0 z1 z2 z3 z4 z5
  refine (awake_any _).mono ?_
  rintro e w9 ⟨rfl, hb⟩
  replace HA : Hid (w9.heap[w.heap.size]? = some (.cells (maCells a).toArray 26)) := (hb.block _ (row_lt HA.out)).trans HA.out
  replace HZ : Hid (w9.heap[nb]? = some (.cells #[.int .i64 0, .int .i64 0, .int .i64 0, .int .i64 0, .int .i64 0, .int .i64 0] 43)) := (hb.block _ (row_lt HZ.out)).trans HZ.out
  replace HB : Hid (Below w.heap.size w w9) := HB.out.trans (hb.mono HB.out.size)
  clear hb
  have f1 : w9.cell? ⟨w.heap.size, 1, none⟩ = some (.int .i64 a.2.ts.1) := by rw [cell_of_row w9 _ 1 _ _ _ HA.out]; rfl
  have f2 : w9.cell? ⟨w.heap.size, 2, none⟩ = some (.int .i64 a.2.ts.2) := by rw [cell_of_row w9 _ 2 _ _ _ HA.out]; rfl
  have f3 : w9.cell? ⟨w.heap.size, 3, none⟩ = some (.int .i64 a.2.nd.1) := by rw [cell_of_row w9 _ 3 _ _ _ HA.out]; rfl
  have f4 : w9.cell? ⟨w.heap.size, 4, none⟩ = some (.int .i64 a.2.nd.2) := by rw [cell_of_row w9 _ 4 _ _ _ HA.out]; rfl
  have f5 : w9.cell? ⟨w.heap.size, 5, none⟩ = some (.int .i64 a.2.pr.1) := by rw [cell_of_row w9 _ 5 _ _ _ HA.out]; rfl
  have f6 : w9.cell? ⟨w.heap.size, 6, none⟩ = some (.int .i64 a.2.pr.2) := by rw [cell_of_row w9 _ 6 _ _ _ HA.out]; rfl
  have z0 : w9.cell? ⟨nb, 0, none⟩ = some (.int .i64 0) := by rw [cell_of_row w9 _ 0 _ _ _ HZ.out]; rfl
  have z1 : w9.cell? ⟨nb, 1, none⟩ = some (.int .i64 0) := by rw [cell_of_row w9 _ 1 _ _ _ HZ.out]; rfl
  have z2 : w9.cell? ⟨nb, 2, none⟩ = some (.int .i64 0) := by rw [cell_of_row w9 _ 2 _ _ _ HZ.out]; rfl
  have z3 : w9.cell? ⟨nb, 3, none⟩ = some (.int .i64 0) := by rw [cell_of_row w9 _ 3 _ _ _ HZ.out]; rfl
  have z4 : w9.cell? ⟨nb, 4, none⟩ = some (.int .i64 0) := by rw [cell_of_row w9 _ 4 _ _ _ HZ.out]; rfl
  have z5 : w9.cell? ⟨nb, 5, none⟩ = some (.int .i64 0) := by rw [cell_of_row w9 _ 5 _ _ _ HZ.out]; rfl
  go_wp2
  go_ret
  exact ⟨rfl, HB.out⟩

end Go.Proofs.Ytljepindfdhbbab
