/- A nil buffer: Stale, Clone; the document's Take of an empty buffer. -/
import Derived.Test.YthndgmnckpimmaaCaR
import Derived.Test.YthndgmnckpimmaaCaH
namespace Go.Proofs.Ythndgmnckpimmaa
open Go.RowKit
set_option linter.unusedVariables false
set_option linter.unusedSimpArgs false

theorem results_cell_row3 {P : Program} {fn : Func} {p u q : Tmp} {ty : TypeId} (h : fn.results = #[.cell p ty, .tmp u, .tmp q]) (tmps : Array Value) (w : World) (g : Nat) (t : TypeId) (cs : Array Value) (fr : Nat × Nat) (d : TypeDesc)
    (hp : tmps.getD p undef = .pointer (some ⟨g, 0, none⟩)) (hg : w.heap[g]? = some (.cells cs t fr))
    (hu : P.underlying ty = some d) (hd : (match d with | .struct _ | .array _ _ => true | _ => false) = true) (hi : (P.info? ty).map (·.size) = some cs.size) {k m : Value} (hk : tmps.getD u undef = k) (hm : tmps.getD q undef = m) :
    (results fn tmps).run P w = .ok (.tuple #[.agg cs, k, m]) w := by
  have e : (results fn tmps).run P w = ((asAddr (tmps.getD p undef)).run P w).andThen fun a w₁ => ((loadVar ty a).run P w₁).andThen fun v w₂ => .ok (.tuple #[v, tmps.getD u undef, tmps.getD q undef]) w₂ := by
    simp only [results, h]
    simp [Sem.run_bind, Result.andThen]
  rw [e, hp, hk, hm]
  simp [asAddr, run_loadVar_row w g t ty cs fr d hg hu hd hi]

set_option maxHeartbeats 1000000 in
theorem clone_nil (w : World) : Calls Try.prog 15 #[.pointer none] w fun e w' => e = .returned (.pointer none) ∧ w' = w := by
  go_enter Try.func15, Try.ntmps15
  go_wp2
  go_ret
  exact ⟨rfl, rfl⟩

set_option maxRecDepth 100000 in
set_option maxHeartbeats 2000000 in
theorem stale_nil (kv : Value) (kn : List Int) (w : World) (hk : IsI w kv kn) : Calls Try.prog 14 #[.pointer none, kv] w fun e w' => e = .returned (.int .i64 0) ∧ Below w.heap.size w w' := by
  obtain ⟨a0, c0, e0⟩ := hk.form
  subst e0
  have HIk : Hid (IsI w (.slice a0 kn.length c0) kn) := hk
  clear hk
  go_enter Try.func14, Try.ntmps14
  go_wp2_with fail
  refine (check_any _ kn _ HIk.out).mono ?_
  rintro e w1 ⟨rfl, hw1⟩
  replace hw1 := hw1.symm
  subst hw1
  by_cases hc : checkL kn = 0
  · rw [hc]
    go_wp2_with fail
    refine (orEmpty_any (.pointer none) 0 [] (fun _ => False) _ (.inr ⟨rfl, rfl, rfl, fun k h => h.elim⟩)).mono ?_
    rintro e w2 ⟨bb, mb, F', rfl, h1, hb1, _, _⟩
    have HL : Hid (BufIs F' w2 bb 0 mb []) := h1
    have HB : Hid (Below w.heap.size w w2) := hb1
    have q1 := h1.cell1
    have hln := len_pl h1.hmap
    obtain ⟨o, hrg, hit⟩ := range_pl h1.hmap
    obtain ⟨W2, eW2⟩ : ∃ X, X = w2.alloc o := ⟨_, rfl⟩
    have hb2 : Below w2.heap.size w2 W2 := by rw [eW2]; exact (Below.refl _ _).alloc (Nat.le_refl _) _
    rw [← eW2] at hrg hit
    have HB2 : Hid (Below w.heap.size w W2) := HB.out.trans (hb2.mono HB.out.size)
    have HM2 : Hid (MapIs W2 mb []) := hit.map
    have hnx := (next_pl hit 0).resolve_right (by rintro ⟨R1, x, R2, w', e, _⟩; simp at e)
    have hnx2 := hnx.2
    have hln2 := len_pl HM2.out
    clear eW2 h1 hb1 hb2 hit hnx
    go_wp2
    refine wp_loop_rounds 1 ?_
    rw [rounds_succ]
    go_wp2
    go_ret
    exact ⟨rfl, HB2.out⟩
  · have hc2 : (checkL kn == 0) = false := by simp [hc]
    go_wp2
    go_ret
    exact ⟨rfl, Below.refl _ _⟩

set_option maxRecDepth 100000 in
set_option maxHeartbeats 2000000 in
/-- The document's Within. -/
theorem refWithin_any (ac ar sq : Int) (dv : Value) (kd nc nr pc pr fc fr : Int) (nm vl : ByteArray) (ds : List Int) (kv : Value) (kn : List Int) (w : World) (h : IsI w kv kn) :
    Calls Try.prog 27 #[.agg #[.int .i64 ac, .int .i64 ar, .int .i64 sq, dv, .int .i64 kd, .int .i64 nc, .int .i64 nr, .int .i64 pc, .int .i64 pr, .int .i64 fc, .int .i64 fr, .string nm, .string vl], kv] w fun e w' => e = .returned (.bool (withinB ⟨ac, ar, sq, ds, kd, nc, nr, pc, pr, fc, fr, nm, vl⟩ kn)) ∧ Below w.heap.size w w' := by
  have K0 := KeptC.start w #[.int .i64 ac, .int .i64 ar, .int .i64 sq, dv, .int .i64 kd, .int .i64 nc, .int .i64 nr, .int .i64 pc, .int .i64 pr, .int .i64 fc, .int .i64 fr, .string nm, .string vl].toList 35
  have HA : Hid (∀ W', Below w.heap.size w W' → Calls Try.prog 50 #[kv, .int .i64 ar] W' fun e w' => e = .returned (.int .i64 (atL kn ar)) ∧ w' = W') := fun W' hb => refAt_any kv kn ar W' (h.below hb)
  have HB : Hid (Below w.heap.size w (w.alloc (.cells #[.int .i64 ac, .int .i64 ar, .int .i64 sq, dv, .int .i64 kd, .int .i64 nc, .int .i64 nr, .int .i64 pc, .int .i64 pr, .int .i64 fc, .int .i64 fr, .string nm, .string vl] 35))) := K0.2.2
  have HW : Hid (withinB ⟨ac, ar, sq, ds, kd, nc, nr, pc, pr, fc, fr, nm, vl⟩ kn = decide (sq ≤ atL kn ar)) := rfl
  obtain ⟨a0, c0, e0⟩ := h.form
  subst e0
  clear h K0
  generalize atL kn ar = n0 at *
  go_enter Try.func27, Try.ntmps27
  go_wp2
  go_quiet ((go_at_call 50; exact Calls.quiet_of_same (HA.out _ (below_drewN HB.out _))))
  go_wp2
  go_ret
  exact ⟨ret_bool (by rw [HW.out]), below_drewN HB.out _⟩

set_option maxHeartbeats 1000000 in
theorem refOwn0 (a : Option Addr) (c : Nat) (r s : Int) (w : World) : Calls Try.prog 28 #[.slice a 0 c, .int .i64 r, .int .i64 s] w fun e w' => e = .returned (.int .i64 (-1)) ∧ w' = w := by
  go_enter Try.func28, Try.ntmps28
  go_wp2
  refine wp_loop_rounds 1 ?_
  rw [rounds_succ]
  go_wp2
  go_ret
  exact ⟨rfl, rfl⟩

set_option maxHeartbeats 1000000 in
theorem refNext0 (kv : Value) (a : Option Addr) (c : Nat) (w : World) : Calls Try.prog 32 #[kv, .slice a 0 c] w fun e w' => e = .returned (.int .i64 (-1)) ∧ w' = w := by
  go_enter Try.func32, Try.ntmps32
  go_wp2
  refine wp_loop_rounds 1 ?_
  rw [rounds_succ]
  go_wp2
  go_ret
  exact ⟨rfl, rfl⟩

set_option maxRecDepth 100000 in
set_option maxHeartbeats 2000000 in
theorem refTickC_any (ac ar sq : Int) (dv : Value) (kd nc nr pc pr fc fr : Int) (nm vl : ByteArray) (kv : Value) (kn : List Int) (w : World) (h : IsI w kv kn) :
    Calls Try.prog 31 #[kv, .agg #[.int .i64 ac, .int .i64 ar, .int .i64 sq, dv, .int .i64 kd, .int .i64 nc, .int .i64 nr, .int .i64 pc, .int .i64 pr, .int .i64 fc, .int .i64 fr, .string nm, .string vl]] w fun e w' => ∃ v', e = .returned v' ∧ OwnI w.heap.size w' v' (tickR kn ar) ∧ Below w.heap.size w w' := by
  have K0 := KeptC.start w #[.int .i64 ac, .int .i64 ar, .int .i64 sq, dv, .int .i64 kd, .int .i64 nc, .int .i64 nr, .int .i64 pc, .int .i64 pr, .int .i64 fc, .int .i64 fr, .string nm, .string vl].toList 35
  have HB : Hid (Below w.heap.size w (w.alloc (.cells #[.int .i64 ac, .int .i64 ar, .int .i64 sq, dv, .int .i64 kd, .int .i64 nc, .int .i64 nr, .int .i64 pc, .int .i64 pr, .int .i64 fc, .int .i64 fr, .string nm, .string vl] 35))) := K0.2.2
  have HI : Hid (IsI w kv kn) := h
  obtain ⟨a0, c0, e0⟩ := h.form
  subst e0
  clear h K0
  go_enter Try.func31, Try.ntmps31
  go_wp2_with fail
  refine (refTick_any _ kn ar _ (HI.out.below HB.out)).mono ?_
  rintro e w1 ⟨v', rfl, ho, hb⟩
  obtain ⟨a1, c1, e1⟩ := ho.form
  subst e1
  have HO : Hid (OwnI w.heap.size w1 (.slice a1 (tickR kn ar).length c1) (tickR kn ar)) := ho.cut HB.out.size
  have HB1 : Hid (Below w.heap.size w w1) := HB.out.trans (hb.mono HB.out.size)
  clear ho hb HB HI
  go_wp2
  go_ret
  exact ⟨_, rfl, HO.out, HB1.out⟩

end Go.Proofs.Ythndgmnckpimmaa
