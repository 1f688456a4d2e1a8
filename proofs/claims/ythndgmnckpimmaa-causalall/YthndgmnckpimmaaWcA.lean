/- What the small functions of package change do, for every change: isKind, isZero, isAhead, fieldsOf, isNodeRight, isPlaceRight, isNameRight, checkValue, checkDeps; and what a struct's box holds behind calls. -/
import Derived.Test.YthndgmnckpimmaaPlainGw
import Derived.Test.YthndgmnckpimmaaCkT
import Derived.Test.YthndgmnckpimmaaWalksB
import Derived.Laws.Rows
namespace Go.Proofs.Ythndgmnckpimmaa
open Go.RowKit
set_option linter.unusedVariables false
set_option linter.unusedSimpArgs false

/-- A block holds these cells still, and what lay ahead of it lies as it lay. -/
def KeptC (w0 : World) (b : Nat) (cs : List Value) (w : World) : Prop := (∀ i v, cs[i]? = some v → w.cell? ⟨b, i, none⟩ = some v) ∧ b < w.heap.size ∧ Below w0.heap.size w0 w
theorem KeptC.step {w0 : World} {b : Nat} {cs : List Value} {W w' : World} (h : KeptC w0 b cs W) (hb : Below W.heap.size W w') : KeptC w0 b cs w' :=
  ⟨fun i v e => (hb.cell (p := ⟨b, i, none⟩) h.2.1).trans (h.1 i v e), Nat.lt_of_lt_of_le h.2.1 hb.size, h.2.2.trans (hb.mono h.2.2.size)⟩
theorem KeptC.start (w0 : World) (cs : List Value) (t : TypeId) : KeptC w0 w0.heap.size cs (w0.alloc (.cells cs.toArray t)) := by
  refine ⟨fun i v e => ?_, by simp, (Below.refl _ _).alloc (Nat.le_refl _) _⟩
  rw [cell_of_row _ _ i _ _ _ (heap_alloc_new w0 (.cells cs.toArray t))]
  simpa using e
theorem KeptC.all {w0 : World} {b : Nat} {ac ar sq : Int} {dv : Value} {kd nc nr pc pr fc fr : Int} {nm vl : ByteArray} {W : World} (h : KeptC w0 b #[.int .i64 ac, .int .i64 ar, .int .i64 sq, dv, .int .i64 kd, .int .i64 nc, .int .i64 nr, .int .i64 pc, .int .i64 pr, .int .i64 fc, .int .i64 fr, .string nm, .string vl].toList W) : W.cell? ⟨b, 0, none⟩ = some (.int .i64 ac) ∧ W.cell? ⟨b, 1, none⟩ = some (.int .i64 ar) ∧ W.cell? ⟨b, 2, none⟩ = some (.int .i64 sq) ∧ W.cell? ⟨b, 3, none⟩ = some (dv) ∧ W.cell? ⟨b, 4, none⟩ = some (.int .i64 kd) ∧ W.cell? ⟨b, 5, none⟩ = some (.int .i64 nc) ∧ W.cell? ⟨b, 6, none⟩ = some (.int .i64 nr) ∧ W.cell? ⟨b, 7, none⟩ = some (.int .i64 pc) ∧ W.cell? ⟨b, 8, none⟩ = some (.int .i64 pr) ∧ W.cell? ⟨b, 9, none⟩ = some (.int .i64 fc) ∧ W.cell? ⟨b, 10, none⟩ = some (.int .i64 fr) ∧ W.cell? ⟨b, 11, none⟩ = some (.string nm) ∧ W.cell? ⟨b, 12, none⟩ = some (.string vl) :=
  ⟨h.1 0 _ rfl, h.1 1 _ rfl, h.1 2 _ rfl, h.1 3 _ rfl, h.1 4 _ rfl, h.1 5 _ rfl, h.1 6 _ rfl, h.1 7 _ rfl, h.1 8 _ rfl, h.1 9 _ rfl, h.1 10 _ rfl, h.1 11 _ rfl, h.1 12 _ rfl⟩
theorem KeptC.drew {w0 : World} {b : Nat} {cs : List Value} {W : World} (h : KeptC w0 b cs W) : KeptC w0 b cs W.drew := ⟨h.1, h.2.1, h.2.2.drew⟩

set_option maxHeartbeats 400000 in
theorem isKind_any (k : Int) (w : World) :
    Calls Try.prog 70 #[.int .i64 k] w fun e w' => e = .returned (.bool (kindB k)) ∧ w' = w := by
  by_cases h0 : 1 ≤ k
  · by_cases h1 : k ≤ 5
    all_goals
      go_enter Try.func70, Try.ntmps70
      go_wp2
      go_ret
      exact ⟨ret_bool (by unfold kindB; rw [Bool.eq_iff_iff]; simp; omega), rfl⟩
  · go_enter Try.func70, Try.ntmps70
    go_wp2
    go_ret
    exact ⟨ret_bool (by unfold kindB; rw [Bool.eq_iff_iff]; simp; omega), rfl⟩

set_option maxHeartbeats 400000 in
theorem isZero_any (c r : Int) (w : World) :
    Calls Try.prog 93 #[.agg #[.int .i64 c, .int .i64 r]] w fun e w' => e = .returned (.bool (rootB c r)) ∧ Below w.heap.size w w' := by
  by_cases h0 : c = 0
  · subst h0
    by_cases h1 : r = 0
    · subst h1
      go_enter Try.func93, Try.ntmps93
      go_wp2
      go_ret
      exact ⟨ret_bool (by simp [rootB]), by first | exact Below.refl _ _ | exact (Below.refl _ _).alloc (Nat.le_refl _) _⟩
    · have h2 : (r == 0) = false := by simp; omega
      go_enter Try.func93, Try.ntmps93
      go_wp2
      go_ret
      exact ⟨ret_bool (by simp [rootB, h1]), by first | exact Below.refl _ _ | exact (Below.refl _ _).alloc (Nat.le_refl _) _⟩
  · have h2 : (c == 0) = false := by simp; omega
    go_enter Try.func93, Try.ntmps93
    go_wp2
    go_ret
    exact ⟨ret_bool (by simp [rootB, h0]), by first | exact Below.refl _ _ | exact (Below.refl _ _).alloc (Nat.le_refl _) _⟩

set_option maxHeartbeats 1000000 in
theorem isAhead_any (c r : Int) (ac ar sq : Int) (dv : Value) (kd nc nr pc pr fc fr : Int) (nm vl : ByteArray) (w : World) :
    Calls Try.prog 92 #[.agg #[.int .i64 c, .int .i64 r], .agg #[.int .i64 ac, .int .i64 ar, .int .i64 sq, dv, .int .i64 kd, .int .i64 nc, .int .i64 nr, .int .i64 pc, .int .i64 pr, .int .i64 fc, .int .i64 fr, .string nm, .string vl]] w fun e w' => e = .returned (.bool (aheadB c r ac ar)) ∧ Below w.heap.size w w' := by
  cases h0 : rightB c r
  · go_enter Try.func92, Try.ntmps92
    go_wp2_with (go_at_call 71; refine (right_any _ _ _).mono ?_; rintro e w' ⟨rfl, rfl⟩)
    go_ret
    exact ⟨ret_bool (by simp [aheadB, h0]), by repeat (first | exact Below.refl _ _ | refine Below.alloc ?_ (by first | exact Nat.le_refl _ | omega | (simp; done) | (simp; omega)) _ | refine Below.drew ?_)⟩
  · go_enter Try.func92, Try.ntmps92
    go_wp2_with (go_at_call 71; refine (right_any _ _ _).mono ?_; rintro e w' ⟨rfl, rfl⟩)
    refine (less_any _ _ _ _ _).mono ?_
    rintro e w' ⟨rfl, hb⟩
    go_wp2
    go_ret
    refine ⟨ret_bool (by simp [aheadB, h0]), Below.trans ?_ (hb.mono ?_)⟩
    · repeat (first | exact Below.refl _ _ | refine Below.alloc ?_ (by first | exact Nat.le_refl _ | omega | (simp; done) | (simp; omega)) _ | refine Below.drew ?_)
    · simp; omega

theorem fld0 : ∀ (a b c d : Bool) (w : World), (Instr.field 117 (.agg #[.bool a, .bool b, .bool c, .bool d]) 0).run Try.prog w = .ok (.bool a) w := fun a b c d w => by kernel_rfl
theorem fld1 : ∀ (a b c d : Bool) (w : World), (Instr.field 117 (.agg #[.bool a, .bool b, .bool c, .bool d]) 1).run Try.prog w = .ok (.bool b) w := fun a b c d w => by kernel_rfl
theorem fld2 : ∀ (a b c d : Bool) (w : World), (Instr.field 117 (.agg #[.bool a, .bool b, .bool c, .bool d]) 2).run Try.prog w = .ok (.bool c) w := fun a b c d w => by kernel_rfl
theorem fld3 : ∀ (a b c d : Bool) (w : World), (Instr.field 117 (.agg #[.bool a, .bool b, .bool c, .bool d]) 3).run Try.prog w = .ok (.bool d) w := fun a b c d w => by kernel_rfl

set_option maxHeartbeats 1000000 in
theorem fieldsOf_any (k : Int) (w : World) :
    Calls Try.prog 94 #[.int .i64 k] w fun e w' => e = .returned (.agg #[.bool (hasNode k), .bool (hasPlace k), .bool (hasName k), .bool (hasValue k)]) ∧ Below w.heap.size w w' := by
  by_cases h1 : k = 1
  · subst h1
    rw [show hasNode 1 = false by decide, show hasPlace 1 = true by decide, show hasName 1 = true by decide, show hasValue 1 = false by decide]
    go_enter Try.func94, Try.ntmps94
    go_wp2
    refine bodyPost_ret (v := .agg #[.bool false, .bool true, .bool true, .bool false]) (by simp [results, Try.results94, go_sem]) rfl ⟨rfl, ?_⟩
    repeat (first | exact Below.refl _ _ | refine Below.setCell ?_ (by first | exact Nat.le_refl _ | omega | (simp; done) | (simp; omega)) _ | refine Below.alloc ?_ (by first | exact Nat.le_refl _ | omega | (simp; done) | (simp; omega)) _ | refine Below.drew ?_)
  by_cases h2 : k = 2
  · subst h2
    rw [show hasNode 2 = true by decide, show hasPlace 2 = true by decide, show hasName 2 = false by decide, show hasValue 2 = false by decide]
    go_enter Try.func94, Try.ntmps94
    go_wp2
    refine bodyPost_ret (v := .agg #[.bool true, .bool true, .bool false, .bool false]) (by simp [results, Try.results94, go_sem]) rfl ⟨rfl, ?_⟩
    repeat (first | exact Below.refl _ _ | refine Below.setCell ?_ (by first | exact Nat.le_refl _ | omega | (simp; done) | (simp; omega)) _ | refine Below.alloc ?_ (by first | exact Nat.le_refl _ | omega | (simp; done) | (simp; omega)) _ | refine Below.drew ?_)
  by_cases h3 : k = 3
  · subst h3
    rw [show hasNode 3 = true by decide, show hasPlace 3 = false by decide, show hasName 3 = true by decide, show hasValue 3 = true by decide]
    go_enter Try.func94, Try.ntmps94
    go_wp2
    refine bodyPost_ret (v := .agg #[.bool true, .bool false, .bool true, .bool true]) (by simp [results, Try.results94, go_sem]) rfl ⟨rfl, ?_⟩
    repeat (first | exact Below.refl _ _ | refine Below.setCell ?_ (by first | exact Nat.le_refl _ | omega | (simp; done) | (simp; omega)) _ | refine Below.alloc ?_ (by first | exact Nat.le_refl _ | omega | (simp; done) | (simp; omega)) _ | refine Below.drew ?_)
  by_cases h4 : k = 4
  · subst h4
    rw [show hasNode 4 = true by decide, show hasPlace 4 = false by decide, show hasName 4 = true by decide, show hasValue 4 = false by decide]
    go_enter Try.func94, Try.ntmps94
    go_wp2
    refine bodyPost_ret (v := .agg #[.bool true, .bool false, .bool true, .bool false]) (by simp [results, Try.results94, go_sem]) rfl ⟨rfl, ?_⟩
    repeat (first | exact Below.refl _ _ | refine Below.setCell ?_ (by first | exact Nat.le_refl _ | omega | (simp; done) | (simp; omega)) _ | refine Below.alloc ?_ (by first | exact Nat.le_refl _ | omega | (simp; done) | (simp; omega)) _ | refine Below.drew ?_)
  by_cases h5 : k = 5
  · subst h5
    rw [show hasNode 5 = true by decide, show hasPlace 5 = false by decide, show hasName 5 = false by decide, show hasValue 5 = true by decide]
    go_enter Try.func94, Try.ntmps94
    go_wp2
    refine bodyPost_ret (v := .agg #[.bool true, .bool false, .bool false, .bool true]) (by simp [results, Try.results94, go_sem]) rfl ⟨rfl, ?_⟩
    repeat (first | exact Below.refl _ _ | refine Below.setCell ?_ (by first | exact Nat.le_refl _ | omega | (simp; done) | (simp; omega)) _ | refine Below.alloc ?_ (by first | exact Nat.le_refl _ | omega | (simp; done) | (simp; omega)) _ | refine Below.drew ?_)
  rw [show hasNode k = true by simp [hasNode, h1], show hasPlace k = false by simp [hasPlace, h1, h2], show hasName k = false by simp [hasName, h1, h3, h4], show hasValue k = false by simp [hasValue, h3, h5]]
  have q1 : (k == 1) = false := by simp [h1]
  have q2 : (k == 2) = false := by simp [h2]
  have q3 : (k == 3) = false := by simp [h3]
  have q4 : (k == 4) = false := by simp [h4]
  have q5 : (k == 5) = false := by simp [h5]
  have q6 : (k != 1) = true := by simp [h1]
  clear h1 h2 h3 h4 h5
  go_enter Try.func94, Try.ntmps94
  go_wp2
  refine bodyPost_ret (v := .agg #[.bool true, .bool false, .bool false, .bool false]) (by simp [results, Try.results94, go_sem]) rfl ⟨rfl, ?_⟩
  repeat (first | exact Below.refl _ _ | refine Below.setCell ?_ (by first | exact Nat.le_refl _ | omega | (simp; done) | (simp; omega)) _ | refine Below.alloc ?_ (by first | exact Nat.le_refl _ | omega | (simp; done) | (simp; omega)) _ | refine Below.drew ?_)

set_option maxHeartbeats 2000000 in
theorem isNodeRight_any (ac ar sq : Int) (dv : Value) (kd nc nr pc pr fc fr : Int) (nm vl : ByteArray) (ds : List Int) (w : World) :
    Calls Try.prog 73 #[.agg #[.int .i64 ac, .int .i64 ar, .int .i64 sq, dv, .int .i64 kd, .int .i64 nc, .int .i64 nr, .int .i64 pc, .int .i64 pr, .int .i64 fc, .int .i64 fr, .string nm, .string vl]] w fun e w' => e = .returned (.bool (nodeR ⟨ac, ar, sq, ds, kd, nc, nr, pc, pr, fc, fr, nm, vl⟩)) ∧ Below w.heap.size w w' := by
  unfold nodeR
  have K := KeptC.start w #[.int .i64 ac, .int .i64 ar, .int .i64 sq, dv, .int .i64 kd, .int .i64 nc, .int .i64 nr, .int .i64 pc, .int .i64 pr, .int .i64 fc, .int .i64 fr, .string nm, .string vl].toList 35
  by_cases h1 : kd = 1
  · subst h1
    rw [if_pos rfl]
    by_cases e1 : nc = ac
    · subst e1
      by_cases e2 : nr = ar
      · subst e2
        go_enter Try.func73, Try.ntmps73
        go_wp2
        go_ret
        exact ⟨ret_bool (by simp), K.2.2⟩
      · have q : (nr == ar) = false := by simp [e2]
        go_enter Try.func73, Try.ntmps73
        go_wp2
        go_ret
        exact ⟨ret_bool (by simp [e2]), K.2.2⟩
    · have q : (nc == ac) = false := by simp [e1]
      go_enter Try.func73, Try.ntmps73
      go_wp2
      go_ret
      exact ⟨ret_bool (by simp [e1]), K.2.2⟩
  · rw [if_neg h1]
    have q1 : (kd == 1) = false := by simp [h1]
    by_cases h2 : kd = 2
    · subst h2
      rw [if_pos rfl]
      clear h1 q1
      go_enter Try.func73, Try.ntmps73
      go_wp2_with (go_at_call 92; refine (isAhead_any nc nr ac ar sq dv 2 nc nr pc pr fc fr nm vl _).mono ?_; rintro e w' ⟨rfl, hb⟩)
      go_ret
      exact ⟨rfl, (K.step hb).2.2⟩
    · rw [if_neg h2]
      have q2 : (kd == 2) = false := by simp [h2]
      clear h1 h2
      cases hr : rootB nc nr
      · go_enter Try.func73, Try.ntmps73
        go_wp2_with fail
        refine (isZero_any _ _ _).mono ?_
        rintro e w1 ⟨rfl, hb1⟩
        rw [hr]
        have K1 := K.step hb1
        have k0 := K1.1 0 _ rfl
        have k1 := K1.1 1 _ rfl
        have k2 := K1.1 2 _ rfl
        have k3 := K1.1 3 _ rfl
        have k4 := K1.1 4 _ rfl
        have k5 := K1.1 5 _ rfl
        have k6 := K1.1 6 _ rfl
        have k7 := K1.1 7 _ rfl
        have k8 := K1.1 8 _ rfl
        have k9 := K1.1 9 _ rfl
        have k10 := K1.1 10 _ rfl
        have k11 := K1.1 11 _ rfl
        have k12 := K1.1 12 _ rfl
        go_wp2_with fail
        refine (isAhead_any nc nr ac ar sq dv kd nc nr pc pr fc fr nm vl _).mono ?_
        rintro e w2 ⟨rfl, hb2⟩
        go_wp2
        go_ret
        exact ⟨ret_bool (by simp), (K1.step hb2).2.2⟩
      · go_enter Try.func73, Try.ntmps73
        go_wp2_with fail
        refine (isZero_any _ _ _).mono ?_
        rintro e w1 ⟨rfl, hb1⟩
        rw [hr]
        go_wp2
        go_ret
        exact ⟨ret_bool (by simp), (K.step hb1).2.2⟩

end Go.Proofs.Ythndgmnckpimmaa
