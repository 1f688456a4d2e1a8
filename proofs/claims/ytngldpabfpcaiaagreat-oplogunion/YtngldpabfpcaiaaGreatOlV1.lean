/- What isWithin and hasDeps do. -/
import Derived.Test.YtngldpabfpcaiaaGreatOlU
namespace Go.Proofs.YtngldpabfpcaiaaGreat
open Go.RowKit
set_option linter.unusedVariables false
set_option linter.unusedSimpArgs false

set_option maxRecDepth 100000 in
set_option maxHeartbeats 2000000 in
theorem isWithin_any (ac ar sq : Int) (dv : Value) (kd nc nr pc pr fc fr : Int) (nm vl : ByteArray) (ds : List Int) (kv : Value) (kn : List Int) (w : World) (h : IsI w kv kn) :
    Calls Tryz.prog 48 #[.agg #[.int .i64 ac, .int .i64 ar, .int .i64 sq, dv, .int .i64 kd, .int .i64 nc, .int .i64 nr, .int .i64 pc, .int .i64 pr, .int .i64 fc, .int .i64 fr, .string nm, .string vl], kv] w fun e w' => e = .returned (.bool (withinB ⟨ac, ar, sq, ds, kd, nc, nr, pc, pr, fc, fr, nm, vl⟩ kn)) ∧ Below w.heap.size w w' := by
  have K0 := KeptC.start w #[.int .i64 ac, .int .i64 ar, .int .i64 sq, dv, .int .i64 kd, .int .i64 nc, .int .i64 nr, .int .i64 pc, .int .i64 pr, .int .i64 fc, .int .i64 fr, .string nm, .string vl].toList 38
  have HA : Hid (∀ W', Below w.heap.size w W' → Calls Tryz.prog 69 #[kv, .int .i64 ar] W' fun e w' => e = .returned (.int .i64 (atL kn ar)) ∧ w' = W') := fun W' hb => at_any kv kn ar W' (h.below hb)
  have HB : Hid (Below w.heap.size w (w.alloc (.cells #[.int .i64 ac, .int .i64 ar, .int .i64 sq, dv, .int .i64 kd, .int .i64 nc, .int .i64 nr, .int .i64 pc, .int .i64 pr, .int .i64 fc, .int .i64 fr, .string nm, .string vl] 38))) := K0.2.2
  have HW : Hid (withinB ⟨ac, ar, sq, ds, kd, nc, nr, pc, pr, fc, fr, nm, vl⟩ kn = decide (sq ≤ atL kn ar)) := rfl
  obtain ⟨a0, c0, e0⟩ := h.form
  subst e0
  clear h K0
  generalize atL kn ar = n0 at *
  go_enter Tryz.func48, Tryz.ntmps48
  go_wp2
  go_quiet ((go_at_call 69; exact Calls.quiet_of_same (HA.out _ (below_drewN HB.out _))))
  go_wp2
  go_ret
  exact ⟨ret_bool (by rw [HW.out]), below_drewN HB.out _⟩

theorem all_succ {p : Nat → Bool} {k : Nat} (h : (List.range k).all p = true) (hk : p k = true) : (List.range (k + 1)).all p = true := by
  rw [List.range_succ, List.all_append, h]; simp [hk]
theorem all_not {p : Nat → Bool} {n k : Nat} (hk : k < n) (h : p k = false) : (List.range n).all p = false := by
  rw [Bool.eq_false_iff]
  intro h2
  have := List.all_eq_true.1 h2 k (List.mem_range.2 hk)
  rw [h] at this; cases this

set_option maxRecDepth 100000 in
set_option maxHeartbeats 2000000 in
theorem hasDeps_any (F : Nat → Prop) (lb : Nat) (room : Int) (L : List Ch) (ac ar sq : Int) (dv : Value) (kd nc nr pc pr fc fr : Int) (nm vl : ByteArray) (ds : List Int) (w : World) (h : LogOk F w lb room L) (hd : IsI w dv ds) (hl : ds.length ≤ 64) :
    Calls Tryz.prog 41 #[.pointer (some ⟨lb, 0, none⟩), .agg #[.int .i64 ac, .int .i64 ar, .int .i64 sq, dv, .int .i64 kd, .int .i64 nc, .int .i64 nr, .int .i64 pc, .int .i64 pr, .int .i64 fc, .int .i64 fr, .string nm, .string vl]] w fun e w' => e = .returned (.bool (hasDepsB L ⟨ac, ar, sq, ds, kd, nc, nr, pc, pr, fc, fr, nm, vl⟩)) ∧ Below w.heap.size w w' := by
  obtain ⟨mb, ord, own, D, h⟩ := h
  have HL : Hid (LogIs F w lb room L mb ord own D) := h
  have HE : Hid (hasDepsB L ⟨ac, ar, sq, ds, kd, nc, nr, pc, pr, fc, fr, nm, vl⟩ = (List.range ds.length).all fun r => decide (ds.getD r 0 ≤ cntR L r)) := rfl
  have K0 := KeptC.start w #[.int .i64 ac, .int .i64 ar, .int .i64 sq, dv, .int .i64 kd, .int .i64 nc, .int .i64 nr, .int .i64 pc, .int .i64 pr, .int .i64 fc, .int .i64 fr, .string nm, .string vl].toList 38
  obtain ⟨a0, c0, e0, hc0, hl0, g0⟩ := hd
  subst e0
  have HG : Hid (ds = [] ∨ ∃ b o, a0 = some ⟨b, o, none⟩ ∧ IntsAt w b o ds) := g0
  have HB : Hid (Below w.heap.size w (w.alloc (.cells #[.int .i64 ac, .int .i64 ar, .int .i64 sq, .slice a0 ds.length c0, .int .i64 kd, .int .i64 nc, .int .i64 nr, .int .i64 pc, .int .i64 pr, .int .i64 fc, .int .i64 fr, .string nm, .string vl] 38))) := K0.2.2
  have hlen := h.len
  clear h g0 K0 hl0
  go_enter Tryz.func41, Tryz.ntmps41
  go_wp2
  go_loopw [5, 6, 10] (fun _ _ iv wr => ∃ k : Nat, k ≤ ds.length ∧ iv = .int .i64 (k : Int) ∧ Hid ((List.range k).all (fun r => decide (ds.getD r 0 ≤ cntR L r)) = true) ∧ Hid (Below w.heap.size w wr)) (fun _ _ iv _ => ds.length - (intOf iv).toNat)
  case atStart => exact ⟨0, Nat.zero_le _, rfl, rfl, HB⟩
  case round =>
    obtain ⟨k, hk, rfl, HT, HW⟩ := hrel
    by_cases hlt : k < ds.length
    · obtain ⟨b, o, rfl, g⟩ := HG.out.resolve_left (by intro e; subst e; simp at hlt)
      have x1 := (g.below HW.out) k hlt
      rw [← getD_at hlt] at x1
      clear g
      have hko : k < own.length := by omega
      have h1 := HL.out.below HW.out
      have x2 := h1.cellr hko
      obtain ⟨a2, c2, e2⟩ := (h1.hown k hko).form
      rw [e2, stL_length] at x2
      have HC : Hid ((ofR L (k : Int)).length = cntR L (k : Int)) := rfl
      have HN : Hid ((List.range (k + 1)).all (fun r => decide (ds.getD r 0 ≤ cntR L r)) = true ↔ ds.getD k 0 ≤ cntR L (k : Int)) := by
        show _ ↔ _
        rw [List.range_succ, List.all_append, HT.out]; simp
      have HN2 : Hid (¬ ds.getD k 0 ≤ cntR L (k : Int) → (List.range ds.length).all (fun r => decide (ds.getD r 0 ≤ cntR L r)) = false) := fun hx => all_not hlt (decide_eq_false hx)
      clear h1 e2
      rw [HC.out] at x2
      generalize ds.getD k 0 = n0 at *
      generalize cntR L (k : Int) = n1 at *
      have k1 : (k : Int) < (ds.length : Int) := by omega
      have k0 : (0 : Int) ≤ (k : Int) := by omega
      have k64 : (k : Int) < 64 := by omega
      by_cases hn : n0 ≤ (n1 : Int)
      · have hn2 : ¬ (n1 : Int) < n0 := by omega
        have hn3 : decide ((n1 : Int) < n0) = false := by simp; omega
        go_wp2
        go_roundw
        case rel => exact ⟨k + 1, by omega, by first | rfl | go_num, HN.out.2 hn, HW⟩
        case measure => simp [intOf]; omega
      · have hn2 : (n1 : Int) < n0 := by omega
        go_wp2
        go_ret
        exact ⟨ret_bool (by rw [HE.out]; exact (HN2.out hn).symm), HW.out⟩
    · obtain rfl : k = ds.length := by omega
      go_wp2
      go_ret
      exact ⟨ret_bool (by rw [HE.out]; exact HT.out.symm), HW.out⟩

end Go.Proofs.YtngldpabfpcaiaaGreat
