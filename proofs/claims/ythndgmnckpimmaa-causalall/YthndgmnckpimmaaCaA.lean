/- Of package causal: isWithin, isReady, placeOf, with. -/
import Derived.Test.YthndgmnckpimmaaCaM
import Derived.Test.YthndgmnckpimmaaCkK
import Derived.Test.YthndgmnckpimmaaWcE
import Derived.Test.YthndgmnckpimmaaOlC
namespace Go.Proofs.Ythndgmnckpimmaa
open Go.RowKit
set_option linter.unusedVariables false
set_option linter.unusedSimpArgs false

/-- Is a change ready with a clock? -/
def readyB (kn : List Int) (c : Ch) : Bool := decide (c.seq = atL kn c.ar + 1) && underB c.deps kn
theorem all_succ {p : Nat → Bool} {k : Nat} (h : (List.range k).all p = true) (hk : p k = true) : (List.range (k + 1)).all p = true := by
  rw [List.range_succ, List.all_append, h]; simp [hk]
theorem all_not {p : Nat → Bool} {n k : Nat} (hk : k < n) (h : p k = false) : (List.range n).all p = false := by
  rw [Bool.eq_false_iff]
  intro h2
  have := List.all_eq_true.1 h2 k (List.mem_range.2 hk)
  rw [h] at this; cases this

set_option maxRecDepth 100000 in
set_option maxHeartbeats 2000000 in
theorem isWithin_any (ac ar sq : Int) (dv : Value) (kd nc nr pc pr fc fr : Int) (nm vl : ByteArray) (ds : List Int) (kv : Value) (kn : List Int) (w : World) (h : IsI w kv kn) :
    Calls Try.prog 41 #[kv, .agg #[.int .i64 ac, .int .i64 ar, .int .i64 sq, dv, .int .i64 kd, .int .i64 nc, .int .i64 nr, .int .i64 pc, .int .i64 pr, .int .i64 fc, .int .i64 fr, .string nm, .string vl]] w fun e w' => e = .returned (.bool (withinB ⟨ac, ar, sq, ds, kd, nc, nr, pc, pr, fc, fr, nm, vl⟩ kn)) ∧ Below w.heap.size w w' := by
  have K0 := KeptC.start w #[.int .i64 ac, .int .i64 ar, .int .i64 sq, dv, .int .i64 kd, .int .i64 nc, .int .i64 nr, .int .i64 pc, .int .i64 pr, .int .i64 fc, .int .i64 fr, .string nm, .string vl].toList 35
  have HA : Hid (∀ W', Below w.heap.size w W' → Calls Try.prog 58 #[kv, .int .i64 ar] W' fun e w' => e = .returned (.int .i64 (atL kn ar)) ∧ w' = W') := fun W' hb => at_any kv kn ar W' (h.below hb)
  have HB : Hid (Below w.heap.size w (w.alloc (.cells #[.int .i64 ac, .int .i64 ar, .int .i64 sq, dv, .int .i64 kd, .int .i64 nc, .int .i64 nr, .int .i64 pc, .int .i64 pr, .int .i64 fc, .int .i64 fr, .string nm, .string vl] 35))) := K0.2.2
  have HW : Hid (withinB ⟨ac, ar, sq, ds, kd, nc, nr, pc, pr, fc, fr, nm, vl⟩ kn = decide (sq ≤ atL kn ar)) := rfl
  obtain ⟨a0, c0, e0⟩ := h.form
  subst e0
  clear h K0
  generalize atL kn ar = n0 at *
  go_enter Try.func41, Try.ntmps41
  go_wp2
  go_quiet ((go_at_call 58; exact Calls.quiet_of_same (HA.out _ (below_drewN HB.out _))))
  go_wp2
  go_ret
  exact ⟨ret_bool (by rw [HW.out]), below_drewN HB.out _⟩

set_option maxRecDepth 100000 in
set_option maxHeartbeats 2000000 in
theorem placeOf_any (ac ar sq : Int) (dv : Value) (kd nc nr pc pr fc fr : Int) (nm vl : ByteArray) (w : World) :
    Calls Try.prog 57 #[.agg #[.int .i64 ac, .int .i64 ar, .int .i64 sq, dv, .int .i64 kd, .int .i64 nc, .int .i64 nr, .int .i64 pc, .int .i64 pr, .int .i64 fc, .int .i64 fr, .string nm, .string vl]] w fun e w' => e = .returned (plV ar sq) ∧ Below w.heap.size w w' := by
  go_enter Try.func57, Try.ntmps57
  go_wp2
  (try simp only [Exit.inBlock, Exit.then])
  refine bodyPost_ret (v := plV ar sq) ?res rfl ?post
  case res =>
    have h0 := heap_alloc_new (w.alloc (.cells #[.int .i64 ac, .int .i64 ar, .int .i64 sq, dv, .int .i64 kd, .int .i64 nc, .int .i64 nr, .int .i64 pc, .int .i64 pr, .int .i64 fc, .int .i64 fr, .string nm, .string vl] 35)) (.cells #[.int .i64 ar, .int .i64 sq] 80)
    rw [show (w.alloc (.cells #[.int .i64 ac, .int .i64 ar, .int .i64 sq, dv, .int .i64 kd, .int .i64 nc, .int .i64 nr, .int .i64 pc, .int .i64 pr, .int .i64 fc, .int .i64 fr, .string nm, .string vl] 35)).heap.size = w.heap.size + 1 by simp] at h0
    exact results_cell_row rfl _ _ (w.heap.size + 1) _ _ _ _ rfl h0 Try.underlying80 rfl (by kernel_rfl)
  exact ⟨rfl, ((Below.refl _ _).alloc (Nat.le_refl _) _).alloc (by simp) _⟩

set_option maxRecDepth 100000 in
set_option maxHeartbeats 2000000 in
theorem with_any (ac ar sq : Int) (dv : Value) (kd nc nr pc pr fc fr : Int) (nm vl : ByteArray) (kv : Value) (kn : List Int) (w : World) (h : IsI w kv kn) :
    Calls Try.prog 59 #[kv, .agg #[.int .i64 ac, .int .i64 ar, .int .i64 sq, dv, .int .i64 kd, .int .i64 nc, .int .i64 nr, .int .i64 pc, .int .i64 pr, .int .i64 fc, .int .i64 fr, .string nm, .string vl]] w fun e w' => ∃ v', e = .returned v' ∧ OwnI w.heap.size w' v' (tickR kn ar) ∧ Below w.heap.size w w' := by
  have K0 := KeptC.start w #[.int .i64 ac, .int .i64 ar, .int .i64 sq, dv, .int .i64 kd, .int .i64 nc, .int .i64 nr, .int .i64 pc, .int .i64 pr, .int .i64 fc, .int .i64 fr, .string nm, .string vl].toList 35
  have HB : Hid (Below w.heap.size w (w.alloc (.cells #[.int .i64 ac, .int .i64 ar, .int .i64 sq, dv, .int .i64 kd, .int .i64 nc, .int .i64 nr, .int .i64 pc, .int .i64 pr, .int .i64 fc, .int .i64 fr, .string nm, .string vl] 35))) := K0.2.2
  have HI : Hid (IsI w kv kn) := h
  obtain ⟨a0, c0, e0⟩ := h.form
  subst e0
  clear h K0
  go_enter Try.func59, Try.ntmps59
  go_wp2_with fail
  refine (tick_any _ kn ar _ (HI.out.below HB.out)).mono ?_
  rintro e w1 ⟨v', rfl, ho, hb⟩
  obtain ⟨a1, c1, e1⟩ := ho.form
  subst e1
  have HO : Hid (OwnI w.heap.size w1 (.slice a1 (tickR kn ar).length c1) (tickR kn ar)) := ho.cut HB.out.size
  have HB1 : Hid (Below w.heap.size w w1) := HB.out.trans (hb.mono HB.out.size)
  clear ho hb HB HI
  go_wp2
  go_ret
  exact ⟨_, rfl, HO.out, HB1.out⟩

set_option maxRecDepth 100000 in
set_option maxHeartbeats 4000000 in
theorem isReady_any (ac ar sq : Int) (dv : Value) (kd nc nr pc pr fc fr : Int) (nm vl : ByteArray) (ds : List Int) (kv : Value) (kn : List Int) (w : World) (h : IsI w kv kn) (hd : IsI w dv ds) (hk : OkC kn) :
    Calls Try.prog 36 #[kv, .agg #[.int .i64 ac, .int .i64 ar, .int .i64 sq, dv, .int .i64 kd, .int .i64 nc, .int .i64 nr, .int .i64 pc, .int .i64 pr, .int .i64 fc, .int .i64 fr, .string nm, .string vl]] w fun e w' => e = .returned (.bool (readyB kn ⟨ac, ar, sq, ds, kd, nc, nr, pc, pr, fc, fr, nm, vl⟩)) ∧ Below w.heap.size w w' := by
  have HR : Hid (readyB kn ⟨ac, ar, sq, ds, kd, nc, nr, pc, pr, fc, fr, nm, vl⟩ = (decide (sq = atL kn ar + 1) && (List.range ds.length).all fun r => decide (ds.getD r 0 ≤ kn.getD r 0))) := rfl
  have HA : Hid (∀ W' r, Below w.heap.size w W' → Calls Try.prog 58 #[kv, .int .i64 r] W' fun e w' => e = .returned (.int .i64 (atL kn r)) ∧ w' = W') := fun W' r hb => at_any kv kn r W' (h.below hb)
  have hat : 0 ≤ atL kn ar ∧ atL kn ar ≤ 1099511627776 := by
    unfold atL
    split
    · exact hk.getD _
    · omega
  obtain ⟨a0, c0, e0⟩ := h.form
  subst e0
  obtain ⟨a1, c1, e1, hc1, hl1, g1⟩ := hd
  subst e1
  have K0 := KeptC.start w [.int .i64 ac, .int .i64 ar, .int .i64 sq, .slice a1 ds.length c1, .int .i64 kd, .int .i64 nc, .int .i64 nr, .int .i64 pc, .int .i64 pr, .int .i64 fc, .int .i64 fr, .string nm, .string vl] 35
  have HB : Hid (Below w.heap.size w (w.alloc (.cells #[.int .i64 ac, .int .i64 ar, .int .i64 sq, .slice a1 ds.length c1, .int .i64 kd, .int .i64 nc, .int .i64 nr, .int .i64 pc, .int .i64 pr, .int .i64 fc, .int .i64 fr, .string nm, .string vl] 35))) := K0.2.2
  have HG : Hid (ds = [] ∨ ∃ b o, a1 = some ⟨b, o, none⟩ ∧ IntsAt w b o ds) := g1
  clear h K0 g1
  have HA0 : Hid (∀ W', Below w.heap.size w W' → Calls Try.prog 58 #[.slice a0 kn.length c0, .int .i64 ar] W' fun e w' => e = .returned (.int .i64 (atL kn ar)) ∧ w' = W') := fun W' hb => HA.out W' ar hb
  generalize atL kn ar = n0 at *
  by_cases hq : sq = n0 + 1
  · subst hq
    go_enter Try.func36, Try.ntmps36
    go_wp2
    go_quiet ((go_at_call 58; exact Calls.quiet_of_same (HA0.out _ (below_drewN HB.out _))))
    go_wp2
    go_loopw [5, 6, 19] (fun _ _ iv wr => ∃ k : Nat, k ≤ ds.length ∧ iv = .int .i64 (k : Int) ∧ Hid ((List.range k).all (fun r => decide (ds.getD r 0 ≤ kn.getD r 0)) = true) ∧ Hid (Below w.heap.size w wr)) (fun _ _ iv _ => ds.length - (intOf iv).toNat)
    case atStart => exact ⟨0, Nat.zero_le _, rfl, rfl, below_drewN HB.out _⟩
    case round =>
      obtain ⟨k, hk2, rfl, HT, HW⟩ := hrel
      by_cases hlt : k < ds.length
      · obtain ⟨b, o, rfl, g⟩ := HG.out.resolve_left (by intro e; subst e; simp at hlt)
        have x1 := (g.below HW.out) k hlt
        rw [← getD_at hlt] at x1
        clear g
        obtain ⟨x, ex⟩ : ∃ x, x = ds.getD k 0 := ⟨_, rfl⟩
        obtain ⟨y, ey⟩ : ∃ y, y = kn.getD k 0 := ⟨_, rfl⟩
        rw [← ex] at x1
        have HX : Hid (x = ds.getD k 0 ∧ y = kn.getD k 0) := ⟨ex, ey⟩
        have k1 : (k : Int) < (ds.length : Int) := by omega
        have k0 : (0 : Int) ≤ (k : Int) := by omega
        clear ex
        go_wp2_with fail
        refine (HA.out _ (k : Int) HW.out).mono ?_
        rintro e w1 ⟨rfl, hw1⟩
        replace hw1 := hw1.symm
        subst hw1
        rw [atL_nat, ← ey]
        clear ey
        by_cases hle : x ≤ y
        · have HT2 : Hid ((List.range (k + 1)).all (fun r => decide (ds.getD r 0 ≤ kn.getD r 0)) = true) := all_succ HT.out (by rw [← HX.out.1, ← HX.out.2]; simpa using hle)
          go_wp2
          go_roundw
          case rel => exact ⟨k + 1, by omega, by go_num, HT2, HW⟩
          case measure => simp [intOf]; omega
        · have HT2 : Hid ((List.range ds.length).all (fun r => decide (ds.getD r 0 ≤ kn.getD r 0)) = false) := all_not hlt (by rw [← HX.out.1, ← HX.out.2]; simpa using hle)
          go_wp2
          go_ret
          exact ⟨ret_bool (by rw [HR.out, HT2.out]; simp), HW.out⟩
      · have HT2 : Hid ((List.range ds.length).all (fun r => decide (ds.getD r 0 ≤ kn.getD r 0)) = true) := by
          have := HT.out
          rw [show k = ds.length by omega] at this
          exact this
        go_wp2
        go_ret
        exact ⟨ret_bool (by rw [HR.out, HT2.out]; simp), HW.out⟩
  · go_enter Try.func36, Try.ntmps36
    go_wp2
    go_quiet ((go_at_call 58; exact Calls.quiet_of_same (HA0.out _ (below_drewN HB.out _))))
    have hq2 : (sq == n0 + 1) = false := by simp [hq]
    go_wp2
    go_ret
    exact ⟨ret_bool (by rw [HR.out]; simp [hq]), below_drewN HB.out _⟩

end Go.Proofs.Ythndgmnckpimmaa
