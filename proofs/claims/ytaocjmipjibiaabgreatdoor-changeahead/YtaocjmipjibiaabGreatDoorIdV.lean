/- What Parse makes of any text, and Text of any stamp. -/
import Derived.Test.YtaocjmipjibiaabGreatDoorIdU
import Derived.Test.YtaocjmipjibiaabGreatDoorWalksK
namespace Go.Proofs.YtaocjmipjibiaabGreatDoor
open Go.RowKit
set_option linter.unusedVariables false

set_option maxHeartbeats 1000000 in
theorem parseS_any (s : ByteArray) (hs : s.size ≤ 281474976710656) (w : World) (he : Env w) :
    Calls Tryz.prog 67 #[.string s] w fun e w' => ∃ c r k, e = .returned (.tuple #[.agg #[.int .i64 c, .int .i64 r], .int .i64 k]) ∧ ParseIs s.data.toList c r k ∧ Below w.heap.size w w' := by
  by_cases h1 : s.data.toList = rootL
  · have q1 : (s.toList == [114, 111, 111, 116]) = true := by rw [ByteArray.toList_eq, h1]; rfl
    have H1 : Hid (s.data.toList = rootL) := h1
    clear h1
    go_enter Tryz.func67, Tryz.ntmps67
    go_wp2
    exact bodyPost_ret (v := .tuple #[.agg #[.int .i64 0, .int .i64 0], .int .i64 0]) (by simp [results, Tryz.results67, go_sem]) rfl ⟨_, _, _, rfl, .inl ⟨H1.out, rfl, rfl, rfl⟩, (Below.refl _ _).alloc (Nat.le_refl _) _⟩
  have q1 : (s.toList == [114, 111, 111, 116]) = false := by rw [ByteArray.toList_eq, beq_eq_false_iff_ne]; exact h1
  have H1 : Hid (¬ s.data.toList = rootL) := h1
  clear h1
  by_cases h2 : s.data.toList = trashL
  · have q2 : (s.toList == [116, 114, 97, 115, 104]) = true := by rw [ByteArray.toList_eq, h2]; rfl
    have H2 : Hid (s.data.toList = trashL) := h2
    clear h2
    go_enter Tryz.func67, Tryz.ntmps67
    go_wp2
    exact bodyPost_ret (v := .tuple #[.agg #[.int .i64 0, .int .i64 1], .int .i64 0]) (by simp [results, Tryz.results67, go_sem]) rfl ⟨_, _, _, rfl, .inr (.inl ⟨H2.out, rfl, rfl, rfl⟩), (Below.refl _ _).alloc (Nat.le_refl _) _⟩
  have q2 : (s.toList == [116, 114, 97, 115, 104]) = false := by rw [ByteArray.toList_eq, beq_eq_false_iff_ne]; exact h2
  have H2 : Hid (¬ s.data.toList = trashL) := h2
  clear h2
  go_enter Tryz.func67, Tryz.ntmps67
  go_wp2_with fail
  refine (parseRight_any s hs _ (he.below ((Below.refl _ _).alloc (Nat.le_refl _) _))).mono ?_
  rintro e w1 ⟨c, r, k, rfl, h3, hb1⟩
  have H3 : Hid (StampIs s.data.toList c r k) := h3
  clear h3
  have hc1 := fun (b o : Nat) (h : b < _) => hb1.cell (p := ⟨b, o, none⟩) h
  have hf1 := fun (b o : Nat) (h : b < _) => hb1.frozen (p := ⟨b, o, none⟩) h
  have z1 : w.heap.size < w1.heap.size := by have := hb1.size; simp at this; omega
  have bel1 : Below w.heap.size w w1 := ((Below.refl _ _).alloc (Nat.le_refl _) _).trans (hb1.mono (by simp))
  go_wp2
  exact bodyPost_ret (v := .tuple #[.agg #[.int .i64 c, .int .i64 r], .int .i64 k]) (by simp [results, Tryz.results67, go_sem, hc1]) rfl ⟨_, _, _, rfl, parseIs_stamp H1.out H2.out H3.out, (bel1.setCell (by exact Nat.le_refl _) _).setCell (by exact Nat.le_refl _) _⟩

/-- A stamp's text, and the error. -/
def textL (c r : Int) : List UInt8 := if rootB c r = true then rootL else if trashB c r = true then trashL else if rightB c r = true then stampL c r else []
def textE (c r : Int) : Int := if rootB c r = true then 0 else if trashB c r = true then 0 else if rightB c r = true then 0 else 2

theorem ret_siS {a b : ByteArray} {x y : Int} (h : a = b) (h2 : x = y) : Ending.returned (.tuple #[.string a, .int .i64 x]) = .returned (.tuple #[.string b, .int .i64 y]) := by rw [h, h2]

set_option maxHeartbeats 1000000 in
theorem textS_any (c r : Int) (w : World) (he : Env w) :
    Calls Tryz.prog 37 #[.agg #[.int .i64 c, .int .i64 r]] w fun e w' => e = .returned (.tuple #[.string ⟨(textL c r).toArray⟩, .int .i64 (textE c r)]) ∧ Below w.heap.size w w' := by
  cases h0 : rootB c r
  · cases h1 : trashB c r
    · cases h2 : rightB c r
      · have H : Hid (textL c r = [] ∧ textE c r = 2) := by show _ ∧ _; simp [textL, textE, h0, h1, h2]
        go_enter Tryz.func37, Tryz.ntmps37
        go_wp2_with (first
          | (go_at_call 62; refine (isRoot_any _ _ _).mono ?_; rintro e w' ⟨rfl, rfl⟩)
          | (go_at_call 63; refine (isTrash_any _ _ _).mono ?_; rintro e w' ⟨rfl, rfl⟩)
          | (go_at_call 23; refine (right_any _ _ _).mono ?_; rintro e w' ⟨rfl, rfl⟩))
        go_ret2
        exact ⟨ret_siS (by rw [H.out.1]) H.out.2.symm, (by repeat (first | exact Below.refl _ _ | refine Below.alloc ?_ (by first | exact Nat.le_refl _ | (simp; done) | (simp; omega)) _))⟩
      · have H : Hid (textL c r = stampL c r ∧ textE c r = 0) := by show _ ∧ _; simp [textL, textE, h0, h1, h2]
        have hb : -9223372036854775808 ≤ c ∧ c ≤ 9223372036854775807 ∧ -9223372036854775808 ≤ r ∧ r ≤ 9223372036854775807 := by unfold rightB at h2; simp at h2; omega
        obtain ⟨x1, x2, x3, x4⟩ := hb
        have l1 := Lib.itoa_length_le c x1 x2
        have l2 := Lib.itoa_length_le r x3 x4
        go_enter Tryz.func37, Tryz.ntmps37
        go_wp2_with (first
          | (go_at_call 62; refine (isRoot_any _ _ _).mono ?_; rintro e w' ⟨rfl, rfl⟩)
          | (go_at_call 63; refine (isTrash_any _ _ _).mono ?_; rintro e w' ⟨rfl, rfl⟩)
          | (go_at_call 23; refine (right_any _ _ _).mono ?_; rintro e w' ⟨rfl, rfl⟩))
        have n1 : ¬ 9223372036854775807 < (Lib.itoa c).length + 1 := by omega
        have n2 : ¬ 9223372036854775807 < (Lib.itoa c).length + 1 + (Lib.itoa r).length := by omega
        go_region_held3 (fun w' => w'.cell? ⟨w.heap.size, 0, none⟩ = some (.int .i64 c) ∧ w'.cell? ⟨w.heap.size, 1, none⟩ = some (.int .i64 r) ∧ w.heap.size < w'.heap.size ∧ Below w.heap.size w w')
          (first | exact Kept1.start4 w c r | exact Kept1.step (by assumption) hb | assumption)
          (first
            | (go_at_call 15; refine (itoa_any _ (by assumption) (by assumption) _ (by exact he.below (show Kept1 w c r _ by assumption).2.2.2)).mono ?_; rintro e w' ⟨rfl, hb⟩))
        go_wp2
        go_ret2
        exact ⟨ret_siS (by rw [H.out.1]; simp [stampL, ByteArray.mk_append_mk]) H.out.2.symm, (show Kept1 w c r _ by assumption).2.2.2⟩
    · have H : Hid (textL c r = trashL ∧ textE c r = 0) := by show _ ∧ _; simp [textL, textE, h0, h1]
      go_enter Tryz.func37, Tryz.ntmps37
      go_wp2_with (first
        | (go_at_call 62; refine (isRoot_any _ _ _).mono ?_; rintro e w' ⟨rfl, rfl⟩)
        | (go_at_call 63; refine (isTrash_any _ _ _).mono ?_; rintro e w' ⟨rfl, rfl⟩))
      go_ret2
      exact ⟨ret_siS (by rw [H.out.1]; rfl) H.out.2.symm, (by repeat (first | exact Below.refl _ _ | refine Below.alloc ?_ (by first | exact Nat.le_refl _ | (simp; done) | (simp; omega)) _))⟩
  · have H : Hid (textL c r = rootL ∧ textE c r = 0) := by show _ ∧ _; simp [textL, textE, h0]
    go_enter Tryz.func37, Tryz.ntmps37
    go_wp2_with (go_at_call 62; refine (isRoot_any _ _ _).mono ?_; rintro e w' ⟨rfl, rfl⟩)
    go_ret2
    exact ⟨ret_siS (by rw [H.out.1]; rfl) H.out.2.symm, (by repeat (first | exact Below.refl _ _ | refine Below.alloc ?_ (by first | exact Nat.le_refl _ | (simp; done) | (simp; omega)) _))⟩

end Go.Proofs.YtaocjmipjibiaabGreatDoor
