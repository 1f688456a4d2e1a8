/- Does the program answer at all? -/
import Derived.Test.YtecliogffcnfiaaLwD
namespace Go.Proofs.Ytecliogffcnfiaa
open Go.RowKit
set_option linter.unusedVariables false
set_option linter.unusedSimpArgs false

def reg0 : Rg := ⟨((1 : Int), (0 : Int)), ⟨#[99, 108, 97, 115, 115]⟩, ((3 : Int), (0 : Int)), ⟨#[97]⟩, false⟩
theorem chk0 : chkR reg0 = 0 := by decide +kernel
theorem put0 : putC [] reg0 = [reg0] := by
  unfold putC okR
  rw [chk0]
  rfl
theorem at0 : (atR [reg0] ((1, 0), ⟨#[99, 108, 97, 115, 115]⟩)).vl = ⟨#[97]⟩ := by
  have h : atR [reg0] (keyR reg0) = reg0 := atR_mem (List.pairwise_singleton _ _) (by simp)
  have h2 : atR [reg0] ((1, 0), ⟨#[99, 108, 97, 115, 115]⟩) = reg0 := h
  rw [h2]
  rfl
theorem chkZ : chkR zeroR = 2 := by decide +kernel

set_option maxRecDepth 100000 in
set_option maxHeartbeats 4000000 in
theorem awake_any (w : World) : Calls Try.prog 11 #[] w fun e w' => e = .returned (.bool true) ∧ Below w.heap.size w w' := by
  go_enter Try.func11, Try.ntmps11
  go_wp2_with fail
  refine (new_any _).mono ?_
  rintro e w1 ⟨rb, F, rfl, hT, hFh, hb1⟩
  obtain ⟨W2, eW⟩ : ∃ X, X = w1.alloc (.cells [.int .i64 1, .int .i64 0, .string ⟨#[99, 108, 97, 115, 115]⟩, .int .i64 3, .int .i64 0, .string ⟨#[97]⟩, .bool false].toArray 26) := ⟨_, rfl⟩
  have hb2 : Below w1.heap.size w1 W2 := by rw [eW]; exact (Below.refl _ _).alloc (Nat.le_refl _) _
  have HX : Hid (BxC w1.heap.size [.int .i64 1, .int .i64 0, .string ⟨#[99, 108, 97, 115, 115]⟩, .int .i64 3, .int .i64 0, .string ⟨#[97]⟩, .bool false] 26 W2) := by rw [eW]; exact BxC.new w1 _ _
  have HR : Hid (RegOk F W2 rb []) := hT.below hb2
  have HB : Hid (Below w.heap.size w W2) := hb1.trans (hb2.mono hb1.size)
  have HFh : Hid (∀ k, F k → w.heap.size ≤ k ∧ k < w1.heap.size) := fun k hk => ⟨hFh k hk, hT.lt k hk⟩
  have x0 : W2.cell? ⟨w1.heap.size, 0, none⟩ = some (.int .i64 1) := HX.out.cell 0 _ rfl
  have x1 : W2.cell? ⟨w1.heap.size, 1, none⟩ = some (.int .i64 0) := HX.out.cell 1 _ rfl
  have x2 : W2.cell? ⟨w1.heap.size, 2, none⟩ = some (.string ⟨#[99, 108, 97, 115, 115]⟩) := HX.out.cell 2 _ rfl
  have x3 : W2.cell? ⟨w1.heap.size, 3, none⟩ = some (.int .i64 3) := HX.out.cell 3 _ rfl
  have x4 : W2.cell? ⟨w1.heap.size, 4, none⟩ = some (.int .i64 0) := HX.out.cell 4 _ rfl
  have x5 : W2.cell? ⟨w1.heap.size, 5, none⟩ = some (.string ⟨#[97]⟩) := HX.out.cell 5 _ rfl
  have x6 : W2.cell? ⟨w1.heap.size, 6, none⟩ = some (.bool false) := HX.out.cell 6 _ rfl
  rw [eW] at x0 x1 x2 x3 x4 x5 x6
  clear hT hFh hb1 hb2
  go_wp2_with fail
  rw [← eW]
  clear eW x0 x1 x2 x3 x4 x5 x6
  refine (put_any F rb [] reg0 _ HR.out (by simp) (by decide +kernel)).mono ?_
  rintro e w2 ⟨rfl, F2, t1, t2, t3, t4⟩
  rw [chk0]
  rw [put0] at t1
  have HR2 : Hid (RegOk F2 w2 rb [reg0]) := t1
  have HX2 : Hid (BxC w1.heap.size [.int .i64 1, .int .i64 0, .string ⟨#[99, 108, 97, 115, 115]⟩, .int .i64 3, .int .i64 0, .string ⟨#[97]⟩, .bool false] 26 w2) := HX.out.touch t4 (fun h => Nat.lt_irrefl _ (HFh.out _ h).2)
  have HB2 : Hid (Below w.heap.size w w2) := HB.out.trans (t4.below (fun k hk => (HFh.out k hk).1) HB.out.size)
  clear t1 t2 t3 t4
  have x0 : w2.cell? ⟨w1.heap.size, 0, none⟩ = some (.int .i64 1) := HX2.out.cell 0 _ rfl
  have x1 : w2.cell? ⟨w1.heap.size, 1, none⟩ = some (.int .i64 0) := HX2.out.cell 1 _ rfl
  have x2 : w2.cell? ⟨w1.heap.size, 2, none⟩ = some (.string ⟨#[99, 108, 97, 115, 115]⟩) := HX2.out.cell 2 _ rfl
  have x3 : w2.cell? ⟨w1.heap.size, 3, none⟩ = some (.int .i64 3) := HX2.out.cell 3 _ rfl
  have x4 : w2.cell? ⟨w1.heap.size, 4, none⟩ = some (.int .i64 0) := HX2.out.cell 4 _ rfl
  have x5 : w2.cell? ⟨w1.heap.size, 5, none⟩ = some (.string ⟨#[97]⟩) := HX2.out.cell 5 _ rfl
  have x6 : w2.cell? ⟨w1.heap.size, 6, none⟩ = some (.bool false) := HX2.out.cell 6 _ rfl
  go_wp2_with fail
  clear x0 x1 x2 x3 x4 x5 x6
  refine (value_v (F := F2) (R := [reg0]) ((1, 0), ⟨#[99, 108, 97, 115, 115]⟩) _ HR2.out.rv).mono ?_
  rintro e w3 ⟨rfl, hb⟩
  rw [at0]
  have HB3 : Hid (Below w.heap.size w w3) := HB2.out.trans (hb.mono HB2.out.size)
  clear hb
  go_wp2_with fail
  refine (check_any zeroR (by decide +kernel) _).mono ?_
  rintro e w4 ⟨rfl, hb⟩
  rw [chkZ]
  have HB4 : Hid (Below w.heap.size w w4) := HB3.out.trans (hb.mono HB3.out.size)
  clear hb
  go_wp2
  go_ret
  exact ⟨rfl, HB4.out⟩

end Go.Proofs.Ytecliogffcnfiaa
