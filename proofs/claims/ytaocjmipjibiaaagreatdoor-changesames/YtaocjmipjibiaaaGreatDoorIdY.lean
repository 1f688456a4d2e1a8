/- What the document's Text makes of any stamp. -/
import Derived.Test.YtaocjmipjibiaaaGreatDoorNumY
import Derived.Test.YtaocjmipjibiaaaGreatDoorIdV
import Derived.Test.YtaocjmipjibiaaaGreatDoorWalksB
namespace Go.Proofs.YtaocjmipjibiaaaGreatDoor
open Go.RowKit
set_option linter.unusedVariables false

theorem Kept1.drew {w0 : World} {c r : Int} {W : World} (h : Kept1 w0 c r W) : Kept1 w0 c r W.drew := ⟨h.1, h.2.1, h.2.2.1, h.2.2.2.drew⟩
theorem Kept1.begin (w0 : World) (c r : Int) : Kept1 w0 c r (w0.alloc (.cells #[.int .i64 c, .int .i64 r] 23)) :=
  ⟨by simp [go_sem], by simp [go_sem], by simp, (Below.refl _ _).alloc (Nat.le_refl _) _⟩
theorem nodeB_parts (c r : Int) : nodeB c r = (rootB c r || trashB c r || rightB c r) := by
  unfold nodeB rootB trashB rightB
  rw [Bool.eq_iff_iff]
  simp
  omega

set_option maxHeartbeats 1000000 in
theorem refTextS_any (c r : Int) (w : World) :
    Calls Tryz.prog 92 #[.agg #[.int .i64 c, .int .i64 r]] w fun e w' => e = .returned (.tuple #[.string ⟨(textL c r).toArray⟩, .int .i64 (textE c r)]) ∧ Below w.heap.size w w' := by
  have hn := nodeB_parts c r
  cases h2 : rightB c r
  · cases h0 : rootB c r
    · cases h1 : trashB c r
      · have H : Hid (textL c r = [] ∧ textE c r = 2) := by show _ ∧ _; simp [textL, textE, h0, h1, h2]
        rw [h0, h1, h2] at hn
        have hn2 : nodeB c r = false := hn
        clear hn
        go_enter Tryz.func92, Tryz.ntmps92
        go_wp2_with fail
        refine (refNode_any _ _ _).mono ?_
        rintro e w1 ⟨rfl, hb⟩
        go_wp2
        go_ret2
        exact ⟨ret_siS (by rw [H.out.1]) H.out.2.symm, (Kept1.step (Kept1.begin w c r) hb).2.2.2⟩
      · have H : Hid (textL c r = trashL ∧ textE c r = 0) := by show _ ∧ _; simp [textL, textE, h0, h1]
        have hc : c = 0 ∧ r = 1 := by simpa [trashB] using h1
        obtain ⟨rfl, rfl⟩ := hc
        have hn2 : nodeB 0 1 = true := by decide
        clear hn
        go_enter Tryz.func92, Tryz.ntmps92
        go_wp2_with fail
        refine (refNode_any _ _ _).mono ?_
        rintro e w1 ⟨rfl, hb⟩
        obtain ⟨k1, k2, kz, kb⟩ := Kept1.step (Kept1.begin w 0 1) hb
        go_wp2
        go_ret2
        exact ⟨ret_siS (by rw [H.out.1]; rfl) H.out.2.symm, kb⟩
    · have H : Hid (textL c r = rootL ∧ textE c r = 0) := by show _ ∧ _; simp [textL, textE, h0]
      have hc : c = 0 ∧ r = 0 := by simpa [rootB] using h0
      obtain ⟨rfl, rfl⟩ := hc
      have hn2 : nodeB 0 0 = true := by decide
      clear hn
      go_enter Tryz.func92, Tryz.ntmps92
      go_wp2_with fail
      refine (refNode_any _ _ _).mono ?_
      rintro e w1 ⟨rfl, hb⟩
      obtain ⟨k1, k2, kz, kb⟩ := Kept1.step (Kept1.begin w 0 0) hb
      go_wp2
      go_ret2
      exact ⟨ret_siS (by rw [H.out.1]; rfl) H.out.2.symm, kb⟩
  · have hr : 1 ≤ c ∧ c ≤ 1099511627776 ∧ 0 ≤ r ∧ r < 64 := by simpa [rightB] using h2
    have h0 : rootB c r = false := by simp [rootB]; omega
    have h1 : trashB c r = false := by simp [trashB]; omega
    have H : Hid (textL c r = stampL c r ∧ textE c r = 0) := by show _ ∧ _; simp [textL, textE, h0, h1, h2]
    have hn2 : nodeB c r = true := by rw [hn, h2]; simp
    clear hn h0 h1 h2
    obtain ⟨x1, x2, x3, x4⟩ := hr
    have l1 := Lib.itoa_length_le c (by omega) (by omega)
    have l2 := Lib.itoa_length_le r (by omega) (by omega)
    have x5 : 0 < c := by omega
    have x6 : 0 ≤ c := by omega
    have x7 : r ≤ 1099511627776 := by omega
    go_enter Tryz.func92, Tryz.ntmps92
    go_wp2_with fail
    refine (refNode_any _ _ _).mono ?_
    rintro e w1 ⟨rfl, hb0⟩
    have K0 := Kept1.step (Kept1.begin w c r) hb0
    obtain ⟨k1, k2, kz, kb⟩ := Kept1.step (Kept1.begin w c r) hb0
    go_wp2
    have n1 : ¬ 9223372036854775807 < (Lib.itoa c).length + 1 := by omega
    have n2 : ¬ 9223372036854775807 < (Lib.itoa c).length + 1 + (Lib.itoa r).length := by omega
    go_region_held3 (fun w' => w'.cell? ⟨w.heap.size, 0, none⟩ = some (.int .i64 c) ∧ w'.cell? ⟨w.heap.size, 1, none⟩ = some (.int .i64 r) ∧ w.heap.size < w'.heap.size ∧ Below w.heap.size w w')
      (first | exact Kept1.drew K0 | exact Kept1.step (by assumption) hb)
      (first
        | (go_at_call 64; refine (digitsI _ (by assumption) (by assumption) _).mono ?_; rintro e w' ⟨rfl, hb⟩))
    go_wp2
    go_ret2
    exact ⟨ret_siS (by rw [H.out.1]; simp [stampL, ByteArray.mk_append_mk]) H.out.2.symm, (show Kept1 w c r _ by assumption).2.2.2⟩

end Go.Proofs.YtaocjmipjibiaaaGreatDoor
