/- Does the program answer at all? -/
import Derived.Test.YtljepindfdhbbaaTrK
namespace Go.Proofs.Ytljepindfdhbbaa
open Go.RowKit
set_option linter.unusedVariables false
set_option linter.unusedSimpArgs false

def mA : Mv := ⟨(3, 0), (1, 0), (0, 0)⟩
theorem doE_A0 : doE [] mA = 0 := by decide
theorem doL_A0 : doL [] mA = [mA] := by decide
theorem doE_A1 : doE [mA] mA = 5 := by decide
theorem doL_A1 : doL [mA] mA = [mA] := by decide
theorem wh_A : (whT (doneT [mA]) (1, 0)) = some ⟨(1, 0), (0, 0), (3, 0)⟩ := by decide

set_option maxRecDepth 100000 in
set_option maxHeartbeats 4000000 in
theorem awake_any (w : World) : Calls Try.prog 14 #[] w fun e w' => e = .returned (.bool true) ∧ Below w.heap.size w w' := by
  go_enter Try.func14, Try.ntmps14
  go_wp2_with fail
  refine (new_any _).mono ?_
  rintro e w1 ⟨tb, F, rfl, h1, h2, h3⟩
  obtain ⟨W1, eW⟩ : ∃ X, X = w1.alloc (.cells #[.int .i64 1, .int .i64 0] 27) := ⟨_, rfl⟩
  have hb1 : Below w1.heap.size w1 W1 := by rw [eW]; exact (Below.refl _ _).alloc (Nat.le_refl _) _
  have hr1 : W1.heap[w1.heap.size]? = some (.cells #[.int .i64 1, .int .i64 0] 27) := by rw [eW]; exact heap_alloc_new _ _
  obtain ⟨sx, esx⟩ : ∃ b, b = w1.heap.size := ⟨_, rfl⟩
  have HR : Hid (W1.heap[sx]? = some (.cells #[.int .i64 1, .int .i64 0] 27)) := by (rw [esx]; exact hr1)
  have HT : Hid (TreeOk F W1 tb []) := h1.below hb1
  have HFl : Hid (∀ k, F k → w.heap.size ≤ k) := h2
  have HFs : Hid (∀ k, F k → k ≠ sx) := fun k hk e => by have := h1.lt k hk; omega
  have HB : Hid (Below w.heap.size w W1) := h3.trans (hb1.mono h3.size)
  have HSl : Hid (sx < W1.heap.size) := by rw [esx]; exact row_lt hr1
  have HSx : Hid (w.heap.size ≤ sx) := by rw [esx]; exact h3.size
  have a0 : W1.cell? ⟨w1.heap.size, 0, none⟩ = some (.int .i64 1) := by rw [cell_of_row W1 _ 0 _ _ _ hr1]; rfl
  have a1 : W1.cell? ⟨w1.heap.size, 1, none⟩ = some (.int .i64 0) := by rw [cell_of_row W1 _ 1 _ _ _ hr1]; rfl
  have HeW : Hid (W1 = w1.alloc (.cells #[.int .i64 1, .int .i64 0] 27)) := eW
  have HeS : Hid (sx = w1.heap.size) := esx
  rw [eW] at a0 a1
  clear h1 h2 h3 hb1 hr1 eW esx
  go_wp2_with fail
  rw [← HeW.out, ← HeS.out]
  clear a0 a1 HeW HeS
  refine (do_any F tb [] (3, 0) (1, 0) (0, 0) _ HT.out (by decide)).mono ?_
  rintro e w2 ⟨he, F2, hT2, hF2, hF3, ht2⟩
  rw [show doE [] (⟨(3, 0), (1, 0), (0, 0)⟩ : Mv) = 0 from doE_A0] at he
  subst he
  rw [show doL [] (⟨(3, 0), (1, 0), (0, 0)⟩ : Mv) = [mA] from doL_A0] at hT2
  replace HR : Hid (w2.heap[sx]? = some (.cells #[.int .i64 1, .int .i64 0] 27)) := (ht2.block _ (row_lt HR.out) (fun h => HFs.out _ h rfl)).trans HR.out
  have HT2 : Hid (TreeOk F2 w2 tb [mA]) := hT2
  have HB2 : Hid (Below w.heap.size w w2) := HB.out.trans (ht2.below HFl.out HB.out.size)
  have HFl2 : Hid (∀ k, F2 k → w.heap.size ≤ k) := fun k hk => (hF3 k hk).elim (HFl.out k) (fun h => Nat.le_trans HB.out.size h)
  have HFs2 : Hid (∀ k, F2 k → k ≠ sx) := fun k hk e => (hF3 k hk).elim (fun h => HFs.out k h e) (fun h => by have h7 := HSl.out; omega)
  have a0 : w2.cell? ⟨sx, 0, none⟩ = some (.int .i64 1) := by rw [cell_of_row w2 _ 0 _ _ _ HR.out]; rfl
  have a1 : w2.cell? ⟨sx, 1, none⟩ = some (.int .i64 0) := by rw [cell_of_row w2 _ 1 _ _ _ HR.out]; rfl
  have HSl2 : Hid (sx < w2.heap.size) := row_lt HR.out
  clear hT2 hF2 hF3 ht2 HT HB HFl HFs HSl
  go_wp2_with fail
  clear a0 a1
  refine (do_any F2 tb [mA] (3, 0) (1, 0) (0, 0) _ HT2.out (by decide)).mono ?_
  rintro e w3 ⟨he, F3, hT3, hF2, hF3, ht3⟩
  rw [show doE [mA] (⟨(3, 0), (1, 0), (0, 0)⟩ : Mv) = 5 from doE_A1] at he
  subst he
  rw [show doL [mA] (⟨(3, 0), (1, 0), (0, 0)⟩ : Mv) = [mA] from doL_A1] at hT3
  replace HR : Hid (w3.heap[sx]? = some (.cells #[.int .i64 1, .int .i64 0] 27)) := (ht3.block _ (row_lt HR.out) (fun h => HFs2.out _ h rfl)).trans HR.out
  have HT3 : Hid (TreeOk F3 w3 tb [mA]) := hT3
  have HB3 : Hid (Below w.heap.size w w3) := HB2.out.trans (ht3.below HFl2.out HB2.out.size)
  have HFl3 : Hid (∀ k, F3 k → w.heap.size ≤ k) := fun k hk => (hF3 k hk).elim (HFl2.out k) (fun h => Nat.le_trans HB2.out.size h)
  have HFs3 : Hid (∀ k, F3 k → k ≠ sx) := fun k hk e => (hF3 k hk).elim (fun h => HFs2.out k h e) (fun h => by have h7 := HSl2.out; omega)
  have a0 : w3.cell? ⟨sx, 0, none⟩ = some (.int .i64 1) := by rw [cell_of_row w3 _ 0 _ _ _ HR.out]; rfl
  have a1 : w3.cell? ⟨sx, 1, none⟩ = some (.int .i64 0) := by rw [cell_of_row w3 _ 1 _ _ _ HR.out]; rfl
  clear hT3 hF2 hF3 ht3 HT2 HB2 HFl2 HFs2 HSl2
  go_wp2_with fail
  clear a0 a1
  refine (where_any F3 _ [mA] (1, 0) _ HT3.out.tv HT3.out.lt).mono ?_
  rintro e w4 ⟨he, hV4, ht4⟩
  rw [wh_A] at he
  have he2 : e = .returned (.tuple #[.agg #[.int .i64 1, .int .i64 0, .int .i64 0, .int .i64 0, .int .i64 3, .int .i64 0], .bool true]) := he
  subst he2
  replace HR : Hid (w4.heap[sx]? = some (.cells #[.int .i64 1, .int .i64 0] 27)) := (ht4.block _ (row_lt HR.out) (fun h => HFs3.out _ h rfl)).trans HR.out
  have HB4 : Hid (Below w.heap.size w w4) := HB3.out.trans (ht4.below HFl3.out HB3.out.size)
  obtain ⟨W5, eW5⟩ : ∃ X, X = w4.alloc (.cells #[.int .i64 1, .int .i64 0, .int .i64 0, .int .i64 0, .int .i64 3, .int .i64 0] 43) := ⟨_, rfl⟩
  have hb5 : Below w4.heap.size w4 W5 := by rw [eW5]; exact (Below.refl _ _).alloc (Nat.le_refl _) _
  have HT5 : Hid (TreeOk F3 W5 tb [mA]) := hV4.ok.below hb5
  have HB5 : Hid (Below w.heap.size w W5) := HB4.out.trans (hb5.mono HB4.out.size)
  have a0 : W5.cell? ⟨sx, 0, none⟩ = some (.int .i64 1) := by rw [cell_of_row W5 _ 0 _ _ _ ((hb5.block _ (row_lt HR.out)).trans HR.out)]; rfl
  have a1 : W5.cell? ⟨sx, 1, none⟩ = some (.int .i64 0) := by rw [cell_of_row W5 _ 1 _ _ _ ((hb5.block _ (row_lt HR.out)).trans HR.out)]; rfl
  have HeW : Hid (W5 = w4.alloc (.cells #[.int .i64 1, .int .i64 0, .int .i64 0, .int .i64 0, .int .i64 3, .int .i64 0] 43)) := eW5
  rw [eW5] at a0 a1
  clear hV4 ht4 he hb5 eW5 HT3 HB3 HFl3 HFs3 HB4 HR
  go_wp2_with fail
  rw [← HeW.out]
  clear a0 a1 HeW
  refine (len_any F3 tb [mA] _ HT5.out).mono ?_
  rintro e w6 ⟨rfl, hw⟩
  replace hw := hw.symm
  subst hw
  go_wp2
  go_ret
  exact ⟨rfl, HB5.out⟩

end Go.Proofs.Ytljepindfdhbbaa
