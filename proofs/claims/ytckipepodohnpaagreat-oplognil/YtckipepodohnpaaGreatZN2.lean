/- OplogNil of package topiarylaw07 is proved at this commit: for every input (a change, a list of numbers, any) the call returns true and the arguments read as they did. No condition. -/
import Derived.Test.YtckipepodohnpaaGreatZN4
import Derived.Test.YtckipepodohnpaaGreatZN1
import Derived.Test.YtckipepodohnpaaGreatOlA
import Derived.Test.YtckipepodohnpaaGreatCkA
import Derived.Test.YtckipepodohnpaaGreatOlB
import Derived.Test.YtckipepodohnpaaGreatOlV5
import Derived.Test.YtckipepodohnpaaGreatBaseO
namespace Go.Proofs.YtckipepodohnpaaGreat
open Go.RowKit
set_option linter.unusedVariables false
set_option linter.unusedSimpArgs false

theorem results_cell_row2 {P : Program} {fn : Func} {p u : Tmp} {ty : TypeId} (h : fn.results = #[.cell p ty, .tmp u]) (tmps : Array Value) (w : World) (g : Nat) (t : TypeId) (cs : Array Value) (fr : Nat × Nat) (d : TypeDesc)
    (hp : tmps.getD p undef = .pointer (some ⟨g, 0, none⟩)) (hg : w.heap[g]? = some (.cells cs t fr))
    (hu : P.underlying ty = some d) (hd : (match d with | .struct _ | .array _ _ => true | _ => false) = true) (hi : (P.info? ty).map (·.size) = some cs.size) {k : Value} (hk : tmps.getD u undef = k) :
    (results fn tmps).run P w = .ok (.tuple #[.agg cs, k]) w := by
  rw [results_cell_tmp h, hp, hk]
  simp [asAddr, run_loadVar_row w g t ty cs fr d hg hu hd hi]
theorem row2_cells {W : World} {b : Nat} {v0 v1 : Value} {t : TypeId} (h : W.heap[b]? = some (.cells #[v0, v1] t)) : W.cell? ⟨b, 0, none⟩ = some v0 ∧ W.cell? ⟨b, 1, none⟩ = some v1 ∧ W.frozen? ⟨b, 0, none⟩ = false ∧ W.frozen? ⟨b, 1, none⟩ = false :=
  ⟨by rw [cell_of_row W b 0 _ _ _ h]; rfl, by rw [cell_of_row W b 1 _ _ _ h]; rfl, frozen_of_row W b 0 _ _ h, frozen_of_row W b 1 _ _ h⟩
theorem row_set1 {W : World} {b i : Nat} {c : Array Value} {t : TypeId} {v : Value} (h : W.heap[b]? = some (.cells c t)) : (W.setCell ⟨b, i, none⟩ v).heap[b]? = some (.cells (c.setIfInBounds i v) t) := heap_setCell_same _ b i _ _ v h
theorem row_set2 {W : World} {b : Nat} {z0 z1 v0 v1 : Value} {t : TypeId} (h : W.heap[b]? = some (.cells #[z0, z1] t)) : ((W.setCell ⟨b, 0, none⟩ v0).setCell ⟨b, 1, none⟩ v1).heap[b]? = some (.cells #[v0, v1] t) := by
  have h1 := row_set1 (i := 0) (v := v0) h
  have h2 := row_set1 (i := 1) (v := v1) h1
  exact h2
def Boxes3 (b : Nat) (x c r : Array Value) (W : World) : Prop := W.heap[b]? = some (.cells x 29) ∧ W.heap[b + 1]? = some (.cells c 34) ∧ W.heap[b + 2]? = some (.cells r 29)
theorem Boxes3.below {b : Nat} {x c r : Array Value} {W W' : World} (h : Boxes3 b x c r W) (hb : Below W.heap.size W W') : Boxes3 b x c r W' :=
  ⟨(hb.block _ (row_lt h.1)).trans h.1, (hb.block _ (row_lt h.2.1)).trans h.2.1, (hb.block _ (row_lt h.2.2)).trans h.2.2⟩
def RowZ (b : Nat) (W : World) : Prop := W.heap[b]? = some (.cells #[.int .i64 0, .int .i64 0, .int .i64 0, .slice none 0 0, .int .i64 0, .int .i64 0, .int .i64 0, .int .i64 0, .int .i64 0, .int .i64 0, .int .i64 0, .string ⟨#[]⟩, .string ⟨#[]⟩] 34)
theorem RowZ.below {b : Nat} {W W' : World} (h : RowZ b W) (hb : Below W.heap.size W W') : RowZ b W' := (hb.block _ (row_lt h)).trans h
structure RowA (b : Nat) (c r : Int) (W : World) : Prop where
  out : W.heap[b]? = some (.cells #[.int .i64 c, .int .i64 r] 31)
theorem RowA.below {b : Nat} {c r : Int} {W W' : World} (h : RowA b c r W) (hb : Below W.heap.size W W') : RowA b c r W' := ⟨(hb.block _ (row_lt h.out)).trans h.out⟩
theorem own13 {B g : Nat} {W : World} {v : Value} {D : List Int} {v0 v1 v2 v3 v4 v5 v6 v7 v8 v9 v10 v11 v12 : Value} (h : OwnI B W v D) (hg : g < B) : OwnI B (((((((((((((W.setCell ⟨g, 0, none⟩ v0).setCell ⟨g, 1, none⟩ v1).setCell ⟨g, 2, none⟩ v2).setCell ⟨g, 3, none⟩ v3).setCell ⟨g, 4, none⟩ v4).setCell ⟨g, 5, none⟩ v5).setCell ⟨g, 6, none⟩ v6).setCell ⟨g, 7, none⟩ v7).setCell ⟨g, 8, none⟩ v8).setCell ⟨g, 9, none⟩ v9).setCell ⟨g, 10, none⟩ v10).setCell ⟨g, 11, none⟩ v11).setCell ⟨g, 12, none⟩ v12) v D := (((((((((((((h.setFar hg).setFar hg).setFar hg).setFar hg).setFar hg).setFar hg).setFar hg).setFar hg).setFar hg).setFar hg).setFar hg).setFar hg).setFar hg)
theorem below13 {n g : Nat} {w W : World} {v0 v1 v2 v3 v4 v5 v6 v7 v8 v9 v10 v11 v12 : Value} (h : Below n w W) (hg : n ≤ g) : Below n w (((((((((((((W.setCell ⟨g, 0, none⟩ v0).setCell ⟨g, 1, none⟩ v1).setCell ⟨g, 2, none⟩ v2).setCell ⟨g, 3, none⟩ v3).setCell ⟨g, 4, none⟩ v4).setCell ⟨g, 5, none⟩ v5).setCell ⟨g, 6, none⟩ v6).setCell ⟨g, 7, none⟩ v7).setCell ⟨g, 8, none⟩ v8).setCell ⟨g, 9, none⟩ v9).setCell ⟨g, 10, none⟩ v10).setCell ⟨g, 11, none⟩ v11).setCell ⟨g, 12, none⟩ v12) := (((((((((((((h.setCell (p := ⟨g, 0, none⟩) hg _).setCell (p := ⟨g, 1, none⟩) hg _).setCell (p := ⟨g, 2, none⟩) hg _).setCell (p := ⟨g, 3, none⟩) hg _).setCell (p := ⟨g, 4, none⟩) hg _).setCell (p := ⟨g, 5, none⟩) hg _).setCell (p := ⟨g, 6, none⟩) hg _).setCell (p := ⟨g, 7, none⟩) hg _).setCell (p := ⟨g, 8, none⟩) hg _).setCell (p := ⟨g, 9, none⟩) hg _).setCell (p := ⟨g, 10, none⟩) hg _).setCell (p := ⟨g, 11, none⟩) hg _).setCell (p := ⟨g, 12, none⟩) hg _)
def zeroC : Ch := ⟨0, 0, 0, [], 0, 0, 0, 0, 0, 0, 0, ⟨#[]⟩, ⟨#[]⟩⟩
theorem orEmpty_some (lb : Nat) (w : World) : Calls Tryz.prog 36 #[.pointer (some ⟨lb, 0, none⟩)] w fun e w' => e = .returned (.pointer (some ⟨lb, 0, none⟩)) ∧ w' = w := by
  go_enter Tryz.func36, Tryz.ntmps36
  go_wp2
  go_ret
  exact ⟨rfl, rfl⟩
theorem far13 {g k : Nat} {W : World} {v0 v1 v2 v3 v4 v5 v6 v7 v8 v9 v10 v11 v12 : Value} (h : k ≠ g) : (((((((((((((W.setCell ⟨g, 0, none⟩ v0).setCell ⟨g, 1, none⟩ v1).setCell ⟨g, 2, none⟩ v2).setCell ⟨g, 3, none⟩ v3).setCell ⟨g, 4, none⟩ v4).setCell ⟨g, 5, none⟩ v5).setCell ⟨g, 6, none⟩ v6).setCell ⟨g, 7, none⟩ v7).setCell ⟨g, 8, none⟩ v8).setCell ⟨g, 9, none⟩ v9).setCell ⟨g, 10, none⟩ v10).setCell ⟨g, 11, none⟩ v11).setCell ⟨g, 12, none⟩ v12).heap[k]? = W.heap[k]? := by
  simp only [RowKit.Below.heap_setCell _ (⟨g, _, none⟩ : Addr) _ k h]
theorem own13f {B g : Nat} {W : World} {v : Value} {D : List Int} {v0 v1 v2 v3 v4 v5 v6 v7 v8 v9 v10 v11 v12 : Value} (h : OwnI B W v D) (hg : ∀ k, v.ownBlock = some k → g < k) : OwnI B (((((((((((((W.setCell ⟨g, 0, none⟩ v0).setCell ⟨g, 1, none⟩ v1).setCell ⟨g, 2, none⟩ v2).setCell ⟨g, 3, none⟩ v3).setCell ⟨g, 4, none⟩ v4).setCell ⟨g, 5, none⟩ v5).setCell ⟨g, 6, none⟩ v6).setCell ⟨g, 7, none⟩ v7).setCell ⟨g, 8, none⟩ v8).setCell ⟨g, 9, none⟩ v9).setCell ⟨g, 10, none⟩ v10).setCell ⟨g, 11, none⟩ v11).setCell ⟨g, 12, none⟩ v12) v D := h.keepF fun k e => far13 (fun e2 => by have := hg k e; omega)

end Go.Proofs.YtckipepodohnpaaGreat

namespace Go.Proofs.YtckipepodohnpaaGreat
open Go.RowKit
set_option linter.unusedVariables false
set_option linter.unusedSimpArgs false

set_option maxRecDepth 100000 in
set_option maxHeartbeats 8000000 in
/-- Own of a nil log. -/
theorem ownNil_any (w : World) :
    Calls Tryz.prog 19 #[.pointer none, .int .i64 0, .int .i64 1] w fun e w' => ∃ v', e = .returned (.tuple #[chV zeroC v', .int .i64 4]) ∧ OwnI w.heap.size w' v' zeroC.deps ∧ Below w.heap.size w w' := by
  obtain ⟨W0, eW⟩ : ∃ X, X = w.alloc (.cells #[.int .i64 0, .int .i64 0, .int .i64 0, .slice none 0 0, .int .i64 0, .int .i64 0, .int .i64 0, .int .i64 0, .int .i64 0, .int .i64 0, .int .i64 0, .string ⟨#[]⟩, .string ⟨#[]⟩] 34) := ⟨_, rfl⟩
  have hb0 : Below w.heap.size w W0 := by rw [eW]; exact (Below.refl _ _).alloc (Nat.le_refl _) _
  have HRz0 : Hid (RowZ w.heap.size W0) := by rw [eW]; exact heap_alloc_new _ _
  go_enter Tryz.func19, Tryz.ntmps19
  go_wp2_with fail
  rw [← eW]
  clear eW
  refine (orEmpty_any (.pointer none) 0 [] (fun _ => False) _ (.inr ⟨rfl, rfl, rfl, fun _ h => h.elim⟩)).mono ?_
  rintro e w1 ⟨lb, F', rfl, ⟨mb, ord, own, D, h1⟩, h2, hff⟩
  have HRz : Hid (RowZ w.heap.size w1) := HRz0.out.below h2
  have HBw : Hid (BelowH w w1) := hb0.trans (h2.mono hb0.size)
  have hrn : 0 < own.length := by rw [h1.len]; omega
  obtain ⟨ao, co, eo⟩ := (h1.hown 0 hrn).form
  have e0 : (stL (ofR [] ((0 : Nat) : Int))).length = 0 := rfl
  rw [e0] at eo
  have lcr := h1.cellr (r := 0) hrn
  rw [eo] at lcr
  have hzr : w1.heap[w.heap.size]? = _ := HRz.out
  obtain ⟨z_0, z_1, z_2, z_3, z_4, z_5, z_6, z_7, z_8, z_9, z_10, z_11, z_12⟩ := row_cells hzr
  have fz := row_free hzr
  simp only [Nat.add_zero] at lcr
  clear h1 h2 hff hb0 HRz0 hzr eo e0
  go_wp2
  (try simp only [Exit.inBlock, Exit.then])
  refine bodyPost_ret (results_cell_row2 rfl _ _ w.heap.size _ _ _ _ rfl (row_set13 HRz.out) Tryz.underlying34 rfl (by kernel_rfl) rfl) rfl ?_
  exact ⟨_, rfl, OwnI.nil0 _ _, below13 HBw.out (Nat.le_refl _)⟩

end Go.Proofs.YtckipepodohnpaaGreat

namespace Go.Proofs.YtckipepodohnpaaGreat
open Go.RowKit
set_option linter.unusedVariables false
set_option linter.unusedSimpArgs false

set_option maxRecDepth 100000 in
set_option maxHeartbeats 8000000 in
theorem refSameCh_eq (ac ar sq : Int) (v1 v2 : Value) (kd nc nr pc pr fc fr : Int) (nm vl : ByteArray) (ds : List Int) (w : World) (h1 : IsI w v1 ds) (h2 : IsI w v2 ds) :
    Calls Tryz.prog 18 #[.agg #[.int .i64 ac, .int .i64 ar, .int .i64 sq, v1, .int .i64 kd, .int .i64 nc, .int .i64 nr, .int .i64 pc, .int .i64 pr, .int .i64 fc, .int .i64 fr, .string nm, .string vl], .agg #[.int .i64 ac, .int .i64 ar, .int .i64 sq, v2, .int .i64 kd, .int .i64 nc, .int .i64 nr, .int .i64 pc, .int .i64 pr, .int .i64 fc, .int .i64 fr, .string nm, .string vl]] w fun e w' => e = .returned (.bool true) ∧ Below w.heap.size w w' := by
  obtain ⟨a1, c1, e1⟩ := h1.form
  subst e1
  obtain ⟨a2, c2, e2⟩ := h2.form
  subst e2
  have K0 := KeptC.start w [.int .i64 ac, .int .i64 ar, .int .i64 sq, .slice a1 ds.length c1, .int .i64 kd, .int .i64 nc, .int .i64 nr, .int .i64 pc, .int .i64 pr, .int .i64 fc, .int .i64 fr, .string nm, .string vl] 34
  have M0 := KeptC.start (w.alloc (.cells #[.int .i64 ac, .int .i64 ar, .int .i64 sq, .slice a1 ds.length c1, .int .i64 kd, .int .i64 nc, .int .i64 nr, .int .i64 pc, .int .i64 pr, .int .i64 fc, .int .i64 fr, .string nm, .string vl] 34)) [.int .i64 ac, .int .i64 ar, .int .i64 sq, .slice a2 ds.length c2, .int .i64 kd, .int .i64 nc, .int .i64 nr, .int .i64 pc, .int .i64 pr, .int .i64 fc, .int .i64 fr, .string nm, .string vl] 34
  rw [show (w.alloc (.cells #[.int .i64 ac, .int .i64 ar, .int .i64 sq, .slice a1 ds.length c1, .int .i64 kd, .int .i64 nc, .int .i64 nr, .int .i64 pc, .int .i64 pr, .int .i64 fc, .int .i64 fr, .string nm, .string vl] 34)).heap.size = w.heap.size + 1 by simp] at M0
  have K1 := K0.step M0.2.2
  have H1 : Hid (IsI _ (.slice a1 ds.length c1) ds) := h1.below K1.2.2
  have H2 : Hid (IsI _ (.slice a2 ds.length c2) ds) := h2.below K1.2.2
  clear h1 h2
  go_enter Tryz.func18, Tryz.ntmps18
  go_wp2_with fail
  refine (sameI_any _ _ ds ds _ H1.out H2.out).mono ?_
  rintro e w1 ⟨rfl, hb1⟩
  have d0 : decide (ds = ds) = true := by simp
  rw [d0]
  have K2 := K1.step hb1
  have M2 := M0.step hb1
  obtain ⟨k_0, k_1, k_2, k_3, k_4, k_5, k_6, k_7, k_8, k_9, k_10, k_11, k_12⟩ := K2.all
  obtain ⟨m_0, m_1, m_2, m_3, m_4, m_5, m_6, m_7, m_8, m_9, m_10, m_11, m_12⟩ := M2.all
  have q1 : (nm.toList == nm.toList) = true := by simp
  have q2 : (vl.toList == vl.toList) = true := by simp
  go_wp2
  go_ret
  exact ⟨rfl, K2.2.2⟩

end Go.Proofs.YtckipepodohnpaaGreat

namespace Go.Proofs.YtckipepodohnpaaGreat
open Go.RowKit
set_option linter.unusedVariables false
set_option linter.unusedSimpArgs false

theorem rangeAt_below {w W : World} {b o : Nat} {c : Ch} {dv : Value} (h : w.rangeAt b o (chCells c dv)) (hb : Below w.heap.size w W) : W.rangeAt b o (chCells c dv) := fun j v hj => by
  have h0 := h 0 _ rfl
  have hlt : b < w.heap.size := by
    rcases Nat.lt_or_ge b w.heap.size with h' | h'
    · exact h'
    · simp [World.cell?, h'] at h0
  exact (hb.cell (p := ⟨b, o + j, none⟩) hlt).trans (h j v hj)

set_option maxRecDepth 100000 in
set_option maxHeartbeats 4000000 in
theorem sameAll_eq (v1 v2 : Value) (L : List Ch) (w : World) (h1 : IsH w v1 L) (h2 : IsH w v2 L) :
    Calls Tryz.prog 23 #[v1, v2] w fun e w' => e = .returned (.bool true) ∧ Below w.heap.size w w' := by
  obtain ⟨a1, c1, rfl, hc1, hl1, r1⟩ := h1
  obtain ⟨a2, c2, rfl, hc2, hl2, r2⟩ := h2
  have R1 : Hid (L = [] ∨ ∃ b o, a1 = some ⟨b, o, none⟩ ∧ ChsAt w b o L) := r1
  have R2 : Hid (L = [] ∨ ∃ b o, a2 = some ⟨b, o, none⟩ ∧ ChsAt w b o L) := r2
  have q : ((L.length : Int) != (L.length : Int)) = false := by simp
  clear r1 r2
  go_enter Tryz.func23, Tryz.ntmps23
  go_wp2
  go_loopw [5] (fun i wr => ∃ k : Nat, k ≤ L.length ∧ i = .int .i64 (k : Int) ∧ Below w.heap.size w wr) (fun i _ => L.length - (intOf i).toNat)
  case atStart => exact ⟨0, Nat.zero_le _, rfl, Below.refl _ _⟩
  case round =>
    obtain ⟨k, hk, rfl, hb⟩ := hrel
    by_cases hlt : k < L.length
    · obtain ⟨b1, o1, rfl, g1⟩ := R1.out.resolve_left (by intro e; subst e; simp at hlt)
      obtain ⟨b2, o2, rfl, g2⟩ := R2.out.resolve_left (by intro e; subst e; simp at hlt)
      obtain ⟨a3, c3, i3, hs3, x3⟩ := (g1 k hlt).open
      obtain ⟨a4, c4, i4, hs4, x4⟩ := (g2 k hlt).open
      have k1 : (k : Int) < (L.length : Int) := by omega
      have k0 : (0 : Int) ≤ (k : Int) := by omega
      generalize L[k] = c at *
      have X3 : Hid (w.rangeAt b1 (o1 + k * 13) (chCells c (.slice a3 c.deps.length c3))) := x3
      have X4 : Hid (w.rangeAt b2 (o2 + k * 13) (chCells c (.slice a4 c.deps.length c4))) := x4
      have I3 : Hid (IsI w (.slice a3 c.deps.length c3) c.deps) := i3
      have I4 : Hid (IsI w (.slice a4 c.deps.length c4) c.deps) := i4
      have HB : Hid (Below w.heap.size w wr) := hb
      have hsw := hb.size
      clear g1 g2 i3 i4 hs3 hs4 x3 x4 hb
      go_upto_region 6 with fail
      refine wp_region_held_drew (S := fun W' => Below w.heap.size w W') (by kernel_rfl) (below_drewN HB.out 1) (fun hHeld => ?_)
      obtain ⟨Ua0, eW⟩ : ∃ X, X = wr.drew := ⟨_, rfl⟩
      rw [← eW] at hHeld ⊢
      clear eW
      refine wpAnyH_take (i := 0) (oi := ⟨some 17, _, _, _, _, _⟩) (v := ?vax0) rfl (by kernel_rfl) (by kernel_rfl) (by kernel_rfl) (fun _ _ _ h => h) (Or.inl ⟨by rfl, ?hyax0⟩) hHeld ?restax0
      case hyax0 => (intro w hSw; (try dsimp only at hSw); go_simp; try with_reducible rfl)
      simp only [Act.put, List.setIfInBounds_toArray, List.set_cons_zero, List.set_cons_succ]
      refine wpAnyH_take (i := 1) (oi := ⟨some 18, _, _, _, _, _⟩) (v := ?vax1) rfl (by kernel_rfl) (by kernel_rfl) (by kernel_rfl) (fun _ _ _ h => h) (Or.inl ⟨by rfl, ?hyax1⟩) hHeld ?restax1
      case hyax1 => (intro w hSw; (try dsimp only at hSw); go_simp; try with_reducible rfl)
      simp only [Act.put, List.setIfInBounds_toArray, List.set_cons_zero, List.set_cons_succ]
      refine wpAnyH_take (i := 2) (oi := ⟨some 19, _, _, _, _, _⟩) (v := ?vax2) rfl (by kernel_rfl) (by kernel_rfl) (by kernel_rfl) (fun _ _ _ h => h) (Or.inl ⟨by rfl, ?hyax2⟩) hHeld ?restax2
      case hyax2 => (intro w hSw; (try dsimp only at hSw); go_simp; try with_reducible rfl)
      simp only [Act.put, List.setIfInBounds_toArray, List.set_cons_zero, List.set_cons_succ]
      refine wpAnyH_take (i := 3) (oi := ⟨some 20, _, _, _, _, _⟩) (v := .agg (chCells c (.slice a3 c.deps.length c3)).toArray) rfl (by kernel_rfl) (by kernel_rfl) (by kernel_rfl) (fun _ _ _ h => h) (yieldsIf_load_mid (by rfl) 34 (.tmp 19) rfl b1 (o1 + k * 13) rfl (chCells c (.slice a3 c.deps.length c3)) _ (fun W hS => rangeAt_below X3.out hS) Tryz.underlying34 rfl sizeChange) hHeld ?_
      simp only [Act.put, List.setIfInBounds_toArray, List.set_cons_zero, List.set_cons_succ]
      refine wpAnyH_take (i := 4) (oi := ⟨some 21, _, _, _, _, _⟩) (v := ?vax4) rfl (by kernel_rfl) (by kernel_rfl) (by kernel_rfl) (fun _ _ _ h => h) (Or.inl ⟨by rfl, ?hyax4⟩) hHeld ?restax4
      case hyax4 => (intro w hSw; (try dsimp only at hSw); go_simp; try with_reducible rfl)
      simp only [Act.put, List.setIfInBounds_toArray, List.set_cons_zero, List.set_cons_succ]
      refine wpAnyH_take (i := 5) (oi := ⟨some 22, _, _, _, _, _⟩) (v := ?vax5) rfl (by kernel_rfl) (by kernel_rfl) (by kernel_rfl) (fun _ _ _ h => h) (Or.inl ⟨by rfl, ?hyax5⟩) hHeld ?restax5
      case hyax5 => (intro w hSw; (try dsimp only at hSw); go_simp; try with_reducible rfl)
      simp only [Act.put, List.setIfInBounds_toArray, List.set_cons_zero, List.set_cons_succ]
      refine wpAnyH_take (i := 6) (oi := ⟨some 23, _, _, _, _, _⟩) (v := ?vax6) rfl (by kernel_rfl) (by kernel_rfl) (by kernel_rfl) (fun _ _ _ h => h) (Or.inl ⟨by rfl, ?hyax6⟩) hHeld ?restax6
      case hyax6 => (intro w hSw; (try dsimp only at hSw); go_simp; try with_reducible rfl)
      simp only [Act.put, List.setIfInBounds_toArray, List.set_cons_zero, List.set_cons_succ]
      refine wpAnyH_take (i := 7) (oi := ⟨some 24, _, _, _, _, _⟩) (v := .agg (chCells c (.slice a4 c.deps.length c4)).toArray) rfl (by kernel_rfl) (by kernel_rfl) (by kernel_rfl) (fun _ _ _ h => h) (yieldsIf_load_mid (by rfl) 34 (.tmp 23) rfl b2 (o2 + k * 13) rfl (chCells c (.slice a4 c.deps.length c4)) _ (fun W hS => rangeAt_below X4.out hS) Tryz.underlying34 rfl sizeChange) hHeld ?_
      simp only [Act.put, List.setIfInBounds_toArray, List.set_cons_zero, List.set_cons_succ]
      refine wpAnyH_ready (rs := [8]) (by kernel_rfl) (by simp) ?_
      refine AllReadyH.cons (o := ⟨some 25, _, _, _, _, _⟩) rfl (fun K hK => ?_) AllReadyH.nil
      go_simp
      refine (refSameCh_eq c.ac c.ar c.seq (.slice a3 c.deps.length c3) (.slice a4 c.deps.length c4) c.kind c.nc c.nr c.pc c.pr c.fc c.fr c.name c.value c.deps _ (I3.out.below hHeld) (I4.out.below hHeld)).mono ?_
      rintro e Va1 ⟨rfl, hb⟩
      (try go_wp2_with fail)
      refine hK.out _ _ (hHeld.trans (hb.mono hHeld.size)) (fun hHeld2 => ?_)
      clear hK K hHeld
      have hHeld := hHeld2
      clear hHeld2
      (try simp only [Act.put, List.setIfInBounds_toArray, List.set_cons_zero, List.set_cons_succ])
      clear hb
      refine wpAnyH_take (i := 9) (oi := ⟨some 26, _, _, _, _, _⟩) (v := ?va_8x9) rfl (by kernel_rfl) (by kernel_rfl) (by kernel_rfl) (fun _ _ _ h => h) (Or.inl ⟨by rfl, ?hya_8x9⟩) hHeld ?resta_8x9
      case hya_8x9 => (intro w hSw; (try dsimp only at hSw); go_simp; try with_reducible rfl)
      simp only [Act.put, List.setIfInBounds_toArray, List.set_cons_zero, List.set_cons_succ]
      refine wpAnyH_done (by kernel_rfl) ?_ _
      have HZ := hHeld
      clear hHeld
      go_wp2
      go_roundw
      case rel => exact ⟨k + 1, by omega, by go_num, HZ⟩
      case measure => simp [intOf]; omega
    · go_wp2
      go_ret
      exact ⟨rfl, hb⟩

end Go.Proofs.YtckipepodohnpaaGreat

namespace Go.Proofs.YtckipepodohnpaaGreat
open Go.RowKit
set_option linter.unusedVariables false
set_option linter.unusedSimpArgs false

theorem sizeOwn : (Tryz.prog.info? 78).map (·.size) = some 64 := by kernel_rfl
theorem index_own (own : List Value) (h : own.length = 64) (k : Nat) (hk : k < own.length) (w : World) : (Instr.index 78 (.agg own.toArray) (.int .i64 (k : Int))).run Tryz.prog w = .ok own[k] w := by
  have hs : (sizeOf 77).run Tryz.prog w = .ok 1 w := by kernel_rfl
  have ha : (isAgg 77).run Tryz.prog w = .ok false w := by kernel_rfl
  have h64 : (k : Int) < 64 := by omega
  have h0 : (0 : Int) ≤ (k : Int) := by omega
  simp [Instr.index, run_underlying Tryz.underlying78, asIntOf, part, hs, ha, h64, h0, hk, Result.andThen]
  intro h'
  omega
theorem counts_take (L : List Ch) {k : Nat} (hk : k < 64) : (counts L).take (k + 1) = (counts L).take k ++ [(cntR L (k : Int) : Int)] := by
  rw [List.take_succ_eq_append_getElem (by rw [counts_length]; exact hk)]
  simp [counts]

set_option maxRecDepth 100000 in
set_option maxHeartbeats 4000000 in
theorem clock_any (v : Value) (room : Int) (L : List Ch) (F : Nat → Prop) (w : World) (h : LogV F w v room L) :
    Calls Tryz.prog 30 #[v] w fun e w' => ∃ v', e = .returned v' ∧ OwnI w.heap.size w' v' (clockL L) ∧ Below w.heap.size w w' := by
  obtain ⟨i0, hi, hz0, hz1, hz2⟩ := info_parts infoInt
  go_enter Tryz.func30, Tryz.ntmps30
  go_wp2_with fail
  refine (orEmpty_any v room L F w h).mono ?_
  rintro e w1 ⟨lb, F', rfl, ⟨mb, ord, own, D, h1⟩, h2, hff⟩
  clear hff
  have HL : Hid (LogIs F' w1 lb room L mb ord own D) := h1
  have HB : Hid (Below w.heap.size w w1) := h2
  have hlen := h1.len
  have HR : Hid (w1.rangeAt lb 3 own) := fun j u hj => by
    obtain ⟨hj2, e2⟩ := List.getElem?_eq_some_iff.1 hj
    rw [h1.cellr hj2, e2]
  clear h h1 h2
  rename_i hKq
  refine hKq _ _ ?_
  refine wpList_plain rfl (fun K hK => ?_)
  go_simp
  refine hK _ _ ?_
  clear hK K
  refine wpList_plain rfl (fun K hK => ?_)
  go_simp
  refine hK _ _ ?_
  clear hK K
  refine wpList_load_mid rfl 78 (.tmp 9) rfl lb 3 rfl own _ HR.out Tryz.underlying78 rfl (by rw [hlen]; exact sizeOwn) ?_
  (try simp only [Act.put, List.setIfInBounds_toArray, List.set_cons_zero, List.set_cons_succ])
  go_wp2
  go_loopw [3, 5, 11] (fun ov _ iv wr => ∃ k : Nat, k ≤ 64 ∧ iv = .int .i64 (k : Int) ∧ Hid (OwnI w.heap.size wr ov ((counts L).take k)) ∧ Hid (Below w.heap.size w wr)) (fun _ _ iv _ => 64 - (intOf iv).toNat)
  case atStart => exact ⟨0, Nat.zero_le _, rfl, OwnI.nil0 _ _, HB⟩
  case round =>
    obtain ⟨k, hk, rfl, HO, HBr⟩ := hrel
    have hszr := HBr.out.size
    by_cases hlt : k < 64
    · have hko : k < own.length := by omega
      obtain ⟨a2, c2, e2⟩ := (HL.out.hown k hko).form
      have hix := index_own own hlen k hko wr
      rw [e2, stL_length] at hix
      have HC : Hid ((ofR L (k : Int)).length = cntR L (k : Int)) := rfl
      rw [HC.out] at hix
      have HT : Hid ((counts L).take (k + 1) = (counts L).take k ++ [(cntR L (k : Int) : Int)]) := counts_take L hlt
      have hll : ((counts L).take k).length = k := by rw [List.length_take, counts_length]; omega
      obtain ⟨T, hT⟩ : ∃ T, T = (counts L).take k := ⟨_, rfl⟩
      rw [← hT] at HO HT hll
      clear hT e2
      generalize cntR L (k : Int) = n1 at *
      obtain ⟨ao, co, e0⟩ := HO.out.form
      subst e0
      have k1 : (k : Int) < 64 := by omega
      have hTl : T.length ≤ 64 := by omega
      clear hll
      go_wp2_with (at_builtin; refine wpList_append_own _ rfl _ _ 32 rfl w.heap.size 3 i0 (.int .i64 0) 1 8 Tryz.underlying32 hi hz0 hz1 hz2 rfl (by decide) _ _ _ rfl (World.ownsRow.alloc HO.out _) ⟨wr.heap.size, 0, none⟩ 1 1 [.int .i64 (n1 : Int)] rfl rfl (cell_one_new _ _ _) (by simp [Value.oneCell']) (by unfold maxLen; omega) (by omega) (by simp; omega) ?_; intro v3 w3 hown3 hgrow3 hnil3)
      have hb3 : Below w.heap.size w w3 := (HBr.out.alloc (by omega) _).grown hgrow3 (by simp; omega) (fun j e => HO.out.block j e)
      go_roundw
      case rel => exact ⟨k + 1, by omega, by first | rfl | go_num, by rw [HT.out]; exact OwnI.snoc hown3, hb3⟩
      case measure => simp [intOf]; omega
    · obtain rfl : k = 64 := by omega
      have ho2 := HO.out
      rw [List.take_of_length_le (by rw [counts_length]; exact Nat.le_refl _)] at ho2
      have HO2 : Hid (OwnI w.heap.size wr _ (counts L)) := ho2
      clear ho2
      go_wp2_with fail
      refine (trim_any _ (counts L) _ (HO2.out.isI (by rw [counts_length]; omega))).mono ?_
      rintro e w4 ⟨v4, rfl, ho4, hb4⟩
      have HB4 : Hid (Below w.heap.size w w4) := HBr.out.trans (hb4.mono hszr)
      have HO4 : Hid (OwnI w.heap.size w4 v4 (clockL L)) := ho4.low hszr
      clear ho4 hb4
      go_wp2
      go_ret
      exact ⟨v4, rfl, HO4.out, HB4.out⟩

end Go.Proofs.YtckipepodohnpaaGreat

namespace Go.Proofs.YtckipepodohnpaaGreat
open Go.RowKit
set_option linter.unusedVariables false
set_option linter.unusedSimpArgs false

theorem all_any (v : Value) (room : Int) (L : List Ch) (F : Nat → Prop) (w : World) (h : LogV F w v room L) (hg : Good L) (hl : L.length ≤ 4096) :
    Calls Tryz.prog 29 #[v] w fun e w' => ∃ v' E, e = .returned v' ∧ E.map Prod.fst = L ∧ OwnH w.heap.size w' v' E ∧ (∀ x ∈ E, OwnI w.heap.size w' x.2 x.1.deps ∧ Sized x.1 ∧ x.1.deps.length ≤ 17592186044416) ∧ Below w.heap.size w w' :=
  (callsIn_wide.1 (all_in 5 (Nat.le_refl _) v room L F w h hg.srt hl)).mono fun e w' ⟨v', E, h1, h2, h3⟩ => ⟨v', E, h1, h2.trans (lackL_all hg), h3⟩

set_option maxRecDepth 100000 in
set_option maxHeartbeats 16000000 in
theorem told_any (F : Nat → Prop) (v : Value) (room : Int) (L : List Ch) (yv : Value) (w : World) (h : LogV F w v room L) (hy : IsH w yv L) (hg : Good L) (hl : L.length ≤ 4096) :
    Calls Tryz.prog 14 #[v, .agg #[.int .i64 room, yv]] w fun e w' => e = .returned (.bool true) ∧ Below w.heap.size w w' := by
  obtain ⟨ay, cy, ey⟩ := hy.form
  subst ey
  obtain ⟨W0, eW⟩ : ∃ X, X = w.alloc (.cells #[.int .i64 room, .slice ay L.length cy] 29) := ⟨_, rfl⟩
  have hb0 : Below w.heap.size w W0 := by rw [eW]; exact (Below.refl _ _).alloc (Nat.le_refl _) _
  have HRow : Hid (W0.drew.heap[w.heap.size]? = some (.cells #[.int .i64 room, .slice ay L.length cy] 29)) := by rw [eW]; exact heap_alloc_new _ _
  have HLv : Hid (LogV F W0 v room L) := h.below hb0
  have HH : Hid (IsH W0 (.slice ay L.length cy) L) := hy.below hb0
  have HBw : Hid (Below w.heap.size w W0) := hb0
  have HG : Hid (Good L) := hg
  have HLm : Hid (L.foldl (fun m c => max m c.ac) 0 = lastL L) := lastL_max hg
  clear h hy hg hb0
  go_enter Tryz.func14, Tryz.ntmps14
  go_upto_region 1 with fail
  rw [← eW]
  clear eW
  refine wp_region_held_drew (S := fun W' => W'.heap[w.heap.size]? = some (.cells #[.int .i64 room, .slice ay L.length cy] 29)) (by kernel_rfl) HRow.out (fun hHeld => ?_)
  obtain ⟨Ut1u0, eW⟩ : ∃ X, X = W0.drew := ⟨_, rfl⟩
  have hb : Below W0.heap.size W0 Ut1u0 := by rw [eW]; exact (Below.refl _ _).drew
  replace HLv : Hid (LogV F Ut1u0 v room L) := HLv.out.below hb
  replace HH : Hid (IsH Ut1u0 (.slice ay L.length cy) L) := HH.out.below hb
  replace HBw : Hid (Below w.heap.size w Ut1u0) := HBw.out.trans (hb.mono HBw.out.size)
  rw [← eW] at hHeld ⊢
  clear eW hb
  refine wpAnyH_take (i := 0) (oi := ⟨some 5, _, _, _, _, _⟩) (v := ?vt1ux0) rfl (by kernel_rfl) (by kernel_rfl) (by kernel_rfl) (fun _ _ _ h => h) (Or.inl ⟨by rfl, ?hyt1ux0⟩) hHeld ?restt1ux0
  case hyt1ux0 => (intro w _; go_simp; try with_reducible rfl)
  simp only [Act.put, List.setIfInBounds_toArray, List.set_cons_zero, List.set_cons_succ]
  refine wpAnyH_take (i := 2) (oi := ⟨some 7, _, _, _, _, _⟩) (v := ?vt1ux2) rfl (by kernel_rfl) (by kernel_rfl) (by kernel_rfl) (fun _ _ _ h => h) (Or.inl ⟨by rfl, ?hyt1ux2⟩) hHeld ?restt1ux2
  case hyt1ux2 => (intro w _; go_simp; try with_reducible rfl)
  simp only [Act.put, List.setIfInBounds_toArray, List.set_cons_zero, List.set_cons_succ]
  refine wpAnyH_take (i := 3) (oi := ⟨some 8, _, _, _, _, _⟩) (v := ?vt1ux3) rfl (by kernel_rfl) (by kernel_rfl) (by kernel_rfl) (fun _ _ _ h => h) (Or.inl ⟨by rfl, ?hyt1ux3⟩) hHeld ?restt1ux3
  case hyt1ux3 => (intro w hSw; (try dsimp only at hSw); have hk := hSw; obtain ⟨x_0, x_1, _, _⟩ := row2_cells hk; go_simp; try with_reducible rfl)
  simp only [Act.put, List.setIfInBounds_toArray, List.set_cons_zero, List.set_cons_succ]
  refine wpAnyH_take (i := 4) (oi := ⟨some 9, _, _, _, _, _⟩) (v := ?vt1ux4) rfl (by kernel_rfl) (by kernel_rfl) (by kernel_rfl) (fun _ _ _ h => h) (Or.inl ⟨by rfl, ?hyt1ux4⟩) hHeld ?restt1ux4
  case hyt1ux4 => (intro w hSw; (try dsimp only at hSw); have hk := hSw; obtain ⟨x_0, x_1, _, _⟩ := row2_cells hk; go_simp; try with_reducible rfl)
  simp only [Act.put, List.setIfInBounds_toArray, List.set_cons_zero, List.set_cons_succ]
  refine wpAnyH_ready (rs := [1]) (by kernel_rfl) (by simp) ?_
  refine AllReadyH.cons (o := ⟨some 6, _, _, _, _, _⟩) rfl (fun K hK => ?_) AllReadyH.nil
  go_simp
  refine (len_any _ room L F _ HLv.out).mono ?_
  rintro e Ut1u1 ⟨rfl, hb⟩
  (try go_wp2_with fail)
  refine hK.out _ _ ((hb.block _ (row_lt hHeld)).trans hHeld) (fun hHeld2 => ?_)
  clear hK K hHeld
  have hHeld := hHeld2
  clear hHeld2
  (try simp only [Act.put, List.setIfInBounds_toArray, List.set_cons_zero, List.set_cons_succ])
  replace HLv : Hid (LogV F Ut1u1 v room L) := HLv.out.below hb
  replace HH : Hid (IsH Ut1u1 (.slice ay L.length cy) L) := HH.out.below hb
  replace HBw : Hid (Below w.heap.size w Ut1u1) := HBw.out.trans (hb.mono HBw.out.size)
  clear hb
  refine wpAnyH_take (i := 5) (oi := ⟨some 10, _, _, _, _, _⟩) (v := ?vt1u_1x5) rfl (by kernel_rfl) (by kernel_rfl) (by kernel_rfl) (fun _ _ _ h => h) (Or.inl ⟨by rfl, ?hyt1u_1x5⟩) hHeld ?restt1u_1x5
  case hyt1u_1x5 => (intro w hSw; (try dsimp only at hSw); have hk := hSw; obtain ⟨x_0, x_1, _, _⟩ := row2_cells hk; go_simp; try with_reducible rfl)
  simp only [Act.put, List.setIfInBounds_toArray, List.set_cons_zero, List.set_cons_succ]
  refine wpAnyH_take (i := 6) (oi := ⟨some 11, _, _, _, _, _⟩) (v := ?vt1u_1x6) rfl (by kernel_rfl) (by kernel_rfl) (by kernel_rfl) (fun _ _ _ h => h) (Or.inl ⟨by rfl, ?hyt1u_1x6⟩) hHeld ?restt1u_1x6
  case hyt1u_1x6 => (intro w _; go_simp; try with_reducible rfl)
  simp only [Act.put, List.setIfInBounds_toArray, List.set_cons_zero, List.set_cons_succ]
  refine wpAnyH_take (i := 7) (oi := ⟨some 12, _, _, _, _, _⟩) (v := ?vt1u_1x7) rfl (by kernel_rfl) (by kernel_rfl) (by kernel_rfl) (fun _ _ _ h => h) (Or.inl ⟨by rfl, ?hyt1u_1x7⟩) hHeld ?restt1u_1x7
  case hyt1u_1x7 => (intro w _; go_simp; try with_reducible rfl)
  simp only [Act.put, List.setIfInBounds_toArray, List.set_cons_zero, List.set_cons_succ]
  refine wpAnyH_take (i := 9) (oi := ⟨some 14, _, _, _, _, _⟩) (v := ?vt1u_1x9) rfl (by kernel_rfl) (by kernel_rfl) (by kernel_rfl) (fun _ _ _ h => h) (Or.inl ⟨by rfl, ?hyt1u_1x9⟩) hHeld ?restt1u_1x9
  case hyt1u_1x9 => (intro w _; go_simp; try with_reducible rfl)
  simp only [Act.put, List.setIfInBounds_toArray, List.set_cons_zero, List.set_cons_succ]
  refine wpAnyH_take (i := 10) (oi := ⟨some 15, _, _, _, _, _⟩) (v := ?vt1u_1x10) rfl (by kernel_rfl) (by kernel_rfl) (by kernel_rfl) (fun _ _ _ h => h) (Or.inl ⟨by rfl, ?hyt1u_1x10⟩) hHeld ?restt1u_1x10
  case hyt1u_1x10 => (intro w hSw; (try dsimp only at hSw); have hk := hSw; obtain ⟨x_0, x_1, _, _⟩ := row2_cells hk; go_simp; try with_reducible rfl)
  simp only [Act.put, List.setIfInBounds_toArray, List.set_cons_zero, List.set_cons_succ]
  refine wpAnyH_ready (rs := [8]) (by kernel_rfl) (by simp) ?_
  refine AllReadyH.cons (o := ⟨some 13, _, _, _, _, _⟩) rfl (fun K hK => ?_) AllReadyH.nil
  go_simp
  refine (room_any _ room L F _ HLv.out).mono ?_
  rintro e Ut1u2 ⟨rfl, hb⟩
  (try go_wp2_with fail)
  refine hK.out _ _ ((hb.block _ (row_lt hHeld)).trans hHeld) (fun hHeld2 => ?_)
  clear hK K hHeld
  have hHeld := hHeld2
  clear hHeld2
  (try simp only [Act.put, List.setIfInBounds_toArray, List.set_cons_zero, List.set_cons_succ])
  replace HLv : Hid (LogV F Ut1u2 v room L) := HLv.out.below hb
  replace HH : Hid (IsH Ut1u2 (.slice ay L.length cy) L) := HH.out.below hb
  replace HBw : Hid (Below w.heap.size w Ut1u2) := HBw.out.trans (hb.mono HBw.out.size)
  clear hb
  refine wpAnyH_take (i := 11) (oi := ⟨some 16, _, _, _, _, _⟩) (v := ?vt1u_1_8x11) rfl (by kernel_rfl) (by kernel_rfl) (by kernel_rfl) (fun _ _ _ h => h) (Or.inl ⟨by rfl, ?hyt1u_1_8x11⟩) hHeld ?restt1u_1_8x11
  case hyt1u_1_8x11 => (intro w hSw; (try dsimp only at hSw); have hk := hSw; obtain ⟨x_0, x_1, _, _⟩ := row2_cells hk; go_simp; try with_reducible rfl)
  simp only [Act.put, List.setIfInBounds_toArray, List.set_cons_zero, List.set_cons_succ]
  refine wpAnyH_take (i := 12) (oi := ⟨some 17, _, _, _, _, _⟩) (v := ?vt1u_1_8x12) rfl (by kernel_rfl) (by kernel_rfl) (by kernel_rfl) (fun _ _ _ h => h) (Or.inl ⟨by rfl, ?hyt1u_1_8x12⟩) hHeld ?restt1u_1_8x12
  case hyt1u_1_8x12 => (intro w _; go_simp; try with_reducible rfl)
  simp only [Act.put, List.setIfInBounds_toArray, List.set_cons_zero, List.set_cons_succ]
  refine wpAnyH_take (i := 13) (oi := ⟨some 18, _, _, _, _, _⟩) (v := ?vt1u_1_8x13) rfl (by kernel_rfl) (by kernel_rfl) (by kernel_rfl) (fun _ _ _ h => h) (Or.inl ⟨by rfl, ?hyt1u_1_8x13⟩) hHeld ?restt1u_1_8x13
  case hyt1u_1_8x13 => (intro w _; go_simp; try with_reducible rfl)
  simp only [Act.put, List.setIfInBounds_toArray, List.set_cons_zero, List.set_cons_succ]
  refine wpAnyH_take (i := 14) (oi := ⟨some 19, _, _, _, _, _⟩) (v := ?vt1u_1_8x14) rfl (by kernel_rfl) (by kernel_rfl) (by kernel_rfl) (fun _ _ _ h => h) (Or.inl ⟨by rfl, ?hyt1u_1_8x14⟩) hHeld ?restt1u_1_8x14
  case hyt1u_1_8x14 => (intro w _; go_simp; try with_reducible rfl)
  simp only [Act.put, List.setIfInBounds_toArray, List.set_cons_zero, List.set_cons_succ]
  refine wpAnyH_take (i := 16) (oi := ⟨some 21, _, _, _, _, _⟩) (v := ?vt1u_1_8x16) rfl (by kernel_rfl) (by kernel_rfl) (by kernel_rfl) (fun _ _ _ h => h) (Or.inl ⟨by rfl, ?hyt1u_1_8x16⟩) hHeld ?restt1u_1_8x16
  case hyt1u_1_8x16 => (intro w _; go_simp; try with_reducible rfl)
  simp only [Act.put, List.setIfInBounds_toArray, List.set_cons_zero, List.set_cons_succ]
  refine wpAnyH_take (i := 17) (oi := ⟨some 22, _, _, _, _, _⟩) (v := ?vt1u_1_8x17) rfl (by kernel_rfl) (by kernel_rfl) (by kernel_rfl) (fun _ _ _ h => h) (Or.inl ⟨by rfl, ?hyt1u_1_8x17⟩) hHeld ?restt1u_1_8x17
  case hyt1u_1_8x17 => (intro w hSw; (try dsimp only at hSw); have hk := hSw; obtain ⟨x_0, x_1, _, _⟩ := row2_cells hk; go_simp; try with_reducible rfl)
  simp only [Act.put, List.setIfInBounds_toArray, List.set_cons_zero, List.set_cons_succ]
  refine wpAnyH_ready (rs := [15]) (by kernel_rfl) (by simp) ?_
  refine AllReadyH.cons (o := ⟨some 20, _, _, _, _, _⟩) rfl (fun K hK => ?_) AllReadyH.nil
  go_simp
  refine (last_any _ room L F _ HLv.out hl).mono ?_
  rintro e Ut1u3 ⟨rfl, hb⟩
  (try go_wp2_with fail)
  refine hK.out _ _ ((hb.block _ (row_lt hHeld)).trans hHeld) (fun hHeld2 => ?_)
  clear hK K hHeld
  have hHeld := hHeld2
  clear hHeld2
  (try simp only [Act.put, List.setIfInBounds_toArray, List.set_cons_zero, List.set_cons_succ])
  replace HLv : Hid (LogV F Ut1u3 v room L) := HLv.out.below hb
  replace HH : Hid (IsH Ut1u3 (.slice ay L.length cy) L) := HH.out.below hb
  replace HBw : Hid (Below w.heap.size w Ut1u3) := HBw.out.trans (hb.mono HBw.out.size)
  clear hb
  refine wpAnyH_ready (rs := [18]) (by kernel_rfl) (by simp) ?_
  refine AllReadyH.cons (o := ⟨some 23, _, _, _, _, _⟩) rfl (fun K hK => ?_) AllReadyH.nil
  go_simp
  refine (refLast_any _ L _ HH.out).mono ?_
  rintro e Ut1u4 ⟨rfl, hb⟩
  rw [HLm.out]
  (try go_wp2_with fail)
  refine hK.out _ _ ((hb.block _ (row_lt hHeld)).trans hHeld) (fun hHeld2 => ?_)
  clear hK K hHeld
  have hHeld := hHeld2
  clear hHeld2
  (try simp only [Act.put, List.setIfInBounds_toArray, List.set_cons_zero, List.set_cons_succ])
  replace HLv : Hid (LogV F Ut1u4 v room L) := HLv.out.below hb
  replace HH : Hid (IsH Ut1u4 (.slice ay L.length cy) L) := HH.out.below hb
  replace HBw : Hid (Below w.heap.size w Ut1u4) := HBw.out.trans (hb.mono HBw.out.size)
  clear hb
  refine wpAnyH_take (i := 19) (oi := ⟨some 24, _, _, _, _, _⟩) (v := ?vt1u_1_8_15_18x19) rfl (by kernel_rfl) (by kernel_rfl) (by kernel_rfl) (fun _ _ _ h => h) (Or.inl ⟨by rfl, ?hyt1u_1_8_15_18x19⟩) hHeld ?restt1u_1_8_15_18x19
  case hyt1u_1_8_15_18x19 => (intro w hSw; (try dsimp only at hSw); have hk := hSw; obtain ⟨x_0, x_1, _, _⟩ := row2_cells hk; go_simp; try with_reducible rfl)
  simp only [Act.put, List.setIfInBounds_toArray, List.set_cons_zero, List.set_cons_succ]
  refine wpAnyH_take (i := 20) (oi := ⟨some 25, _, _, _, _, _⟩) (v := ?vt1u_1_8_15_18x20) rfl (by kernel_rfl) (by kernel_rfl) (by kernel_rfl) (fun _ _ _ h => h) (Or.inl ⟨by rfl, ?hyt1u_1_8_15_18x20⟩) hHeld ?restt1u_1_8_15_18x20
  case hyt1u_1_8_15_18x20 => (intro w _; go_simp; try with_reducible rfl)
  simp only [Act.put, List.setIfInBounds_toArray, List.set_cons_zero, List.set_cons_succ]
  refine wpAnyH_take (i := 21) (oi := ⟨some 26, _, _, _, _, _⟩) (v := ?vt1u_1_8_15_18x21) rfl (by kernel_rfl) (by kernel_rfl) (by kernel_rfl) (fun _ _ _ h => h) (Or.inl ⟨by rfl, ?hyt1u_1_8_15_18x21⟩) hHeld ?restt1u_1_8_15_18x21
  case hyt1u_1_8_15_18x21 => (intro w _; go_simp; try with_reducible rfl)
  simp only [Act.put, List.setIfInBounds_toArray, List.set_cons_zero, List.set_cons_succ]
  refine wpAnyH_take (i := 22) (oi := ⟨some 27, _, _, _, _, _⟩) (v := ?vt1u_1_8_15_18x22) rfl (by kernel_rfl) (by kernel_rfl) (by kernel_rfl) (fun _ _ _ h => h) (Or.inl ⟨by rfl, ?hyt1u_1_8_15_18x22⟩) hHeld ?restt1u_1_8_15_18x22
  case hyt1u_1_8_15_18x22 => (intro w _; go_simp; try with_reducible rfl)
  simp only [Act.put, List.setIfInBounds_toArray, List.set_cons_zero, List.set_cons_succ]
  refine wpAnyH_take (i := 24) (oi := ⟨some 29, _, _, _, _, _⟩) (v := ?vt1u_1_8_15_18x24) rfl (by kernel_rfl) (by kernel_rfl) (by kernel_rfl) (fun _ _ _ h => h) (Or.inl ⟨by rfl, ?hyt1u_1_8_15_18x24⟩) hHeld ?restt1u_1_8_15_18x24
  case hyt1u_1_8_15_18x24 => (intro w _; go_simp; try with_reducible rfl)
  simp only [Act.put, List.setIfInBounds_toArray, List.set_cons_zero, List.set_cons_succ]
  refine wpAnyH_take (i := 25) (oi := ⟨some 30, _, _, _, _, _⟩) (v := ?vt1u_1_8_15_18x25) rfl (by kernel_rfl) (by kernel_rfl) (by kernel_rfl) (fun _ _ _ h => h) (Or.inl ⟨by rfl, ?hyt1u_1_8_15_18x25⟩) hHeld ?restt1u_1_8_15_18x25
  case hyt1u_1_8_15_18x25 => (intro w hSw; (try dsimp only at hSw); have hk := hSw; obtain ⟨x_0, x_1, _, _⟩ := row2_cells hk; go_simp; try with_reducible rfl)
  simp only [Act.put, List.setIfInBounds_toArray, List.set_cons_zero, List.set_cons_succ]
  refine wpAnyH_ready (rs := [23]) (by kernel_rfl) (by simp) ?_
  refine AllReadyH.cons (o := ⟨some 28, _, _, _, _, _⟩) rfl (fun K hK => ?_) AllReadyH.nil
  have hsW := HBw.out.size
  go_simp
  refine (clock_any _ room L F _ HLv.out).mono ?_
  rintro e Ut1u5 ⟨v5, rfl, ho5, hb⟩
  (try go_wp2_with fail)
  refine hK.out _ _ ((hb.block _ (row_lt hHeld)).trans hHeld) (fun hHeld2 => ?_)
  clear hK K hHeld
  have hHeld := hHeld2
  clear hHeld2
  (try simp only [Act.put, List.setIfInBounds_toArray, List.set_cons_zero, List.set_cons_succ])
  replace HLv : Hid (LogV F Ut1u5 v room L) := HLv.out.below hb
  replace HH : Hid (IsH Ut1u5 (.slice ay L.length cy) L) := HH.out.below hb
  replace HBw : Hid (Below w.heap.size w Ut1u5) := HBw.out.trans (hb.mono HBw.out.size)
  have hi5 := ho5.isI (by have := clockL_length L; omega)
  obtain ⟨a5, c5, e5⟩ := hi5.form
  subst e5
  have HC5 : Hid (IsI Ut1u5 (.slice a5 (clockL L).length c5) (clockL L)) := hi5
  clear ho5 hi5 hsW
  clear hb
  refine wpAnyH_ready (rs := [26]) (by kernel_rfl) (by simp) ?_
  refine AllReadyH.cons (o := ⟨some 31, _, _, _, _, _⟩) rfl (fun K hK => ?_) AllReadyH.nil
  have hsW := HBw.out.size
  go_simp
  refine (refClock_any _ L _ HH.out).mono ?_
  rintro e Ut1u6 ⟨v6, rfl, ho6, hb⟩
  (try go_wp2_with fail)
  refine hK.out _ _ ((hb.block _ (row_lt hHeld)).trans hHeld) (fun hHeld2 => ?_)
  clear hK K hHeld
  have hHeld := hHeld2
  clear hHeld2
  (try simp only [Act.put, List.setIfInBounds_toArray, List.set_cons_zero, List.set_cons_succ])
  replace HLv : Hid (LogV F Ut1u6 v room L) := HLv.out.below hb
  replace HH : Hid (IsH Ut1u6 (.slice ay L.length cy) L) := HH.out.below hb
  replace HBw : Hid (Below w.heap.size w Ut1u6) := HBw.out.trans (hb.mono HBw.out.size)
  replace HC5 : Hid (IsI Ut1u6 (.slice a5 (clockL L).length c5) (clockL L)) := HC5.out.below hb
  have hi6 := ho6.isI (by have := clockL_length L; omega)
  obtain ⟨a6, c6, e6⟩ := hi6.form
  subst e6
  have HC6 : Hid (IsI Ut1u6 (.slice a6 (clockL L).length c6) (clockL L)) := hi6
  clear ho6 hi6 hsW
  clear hb
  refine wpAnyH_ready (rs := [27]) (by kernel_rfl) (by simp) ?_
  refine AllReadyH.cons (o := ⟨some 32, _, _, _, _, _⟩) rfl (fun K hK => ?_) AllReadyH.nil
  go_simp
  refine (sameI_any _ _ (clockL L) (clockL L) _ HC5.out HC6.out).mono ?_
  rintro e Ut1u7 ⟨rfl, hb⟩
  rw [decide_eq_true (rfl : clockL L = clockL L)]
  (try go_wp2_with fail)
  refine hK.out _ _ ((hb.block _ (row_lt hHeld)).trans hHeld) (fun hHeld2 => ?_)
  clear hK K hHeld
  have hHeld := hHeld2
  clear hHeld2
  (try simp only [Act.put, List.setIfInBounds_toArray, List.set_cons_zero, List.set_cons_succ])
  replace HLv : Hid (LogV F Ut1u7 v room L) := HLv.out.below hb
  replace HH : Hid (IsH Ut1u7 (.slice ay L.length cy) L) := HH.out.below hb
  replace HBw : Hid (Below w.heap.size w Ut1u7) := HBw.out.trans (hb.mono HBw.out.size)
  replace HC5 : Hid (IsI Ut1u7 (.slice a5 (clockL L).length c5) (clockL L)) := HC5.out.below hb
  replace HC6 : Hid (IsI Ut1u7 (.slice a6 (clockL L).length c6) (clockL L)) := HC6.out.below hb
  clear hb
  refine wpAnyH_take (i := 28) (oi := ⟨some 33, _, _, _, _, _⟩) (v := ?vt1u_1_8_15_18_23_26_27x28) rfl (by kernel_rfl) (by kernel_rfl) (by kernel_rfl) (fun _ _ _ h => h) (Or.inl ⟨by rfl, ?hyt1u_1_8_15_18_23_26_27x28⟩) hHeld ?restt1u_1_8_15_18_23_26_27x28
  case hyt1u_1_8_15_18_23_26_27x28 => (intro w _; go_simp; try with_reducible rfl)
  simp only [Act.put, List.setIfInBounds_toArray, List.set_cons_zero, List.set_cons_succ]
  refine wpAnyH_take (i := 29) (oi := ⟨some 34, _, _, _, _, _⟩) (v := ?vt1u_1_8_15_18_23_26_27x29) rfl (by kernel_rfl) (by kernel_rfl) (by kernel_rfl) (fun _ _ _ h => h) (Or.inl ⟨by rfl, ?hyt1u_1_8_15_18_23_26_27x29⟩) hHeld ?restt1u_1_8_15_18_23_26_27x29
  case hyt1u_1_8_15_18_23_26_27x29 => (intro w _; go_simp; try with_reducible rfl)
  simp only [Act.put, List.setIfInBounds_toArray, List.set_cons_zero, List.set_cons_succ]
  refine wpAnyH_take (i := 30) (oi := ⟨some 35, _, _, _, _, _⟩) (v := ?vt1u_1_8_15_18_23_26_27x30) rfl (by kernel_rfl) (by kernel_rfl) (by kernel_rfl) (fun _ _ _ h => h) (Or.inl ⟨by rfl, ?hyt1u_1_8_15_18_23_26_27x30⟩) hHeld ?restt1u_1_8_15_18_23_26_27x30
  case hyt1u_1_8_15_18_23_26_27x30 => (intro w _; go_simp; try with_reducible rfl)
  simp only [Act.put, List.setIfInBounds_toArray, List.set_cons_zero, List.set_cons_succ]
  refine wpAnyH_take (i := 32) (oi := ⟨some 37, _, _, _, _, _⟩) (v := ?vt1u_1_8_15_18_23_26_27x32) rfl (by kernel_rfl) (by kernel_rfl) (by kernel_rfl) (fun _ _ _ h => h) (Or.inl ⟨by rfl, ?hyt1u_1_8_15_18_23_26_27x32⟩) hHeld ?restt1u_1_8_15_18_23_26_27x32
  case hyt1u_1_8_15_18_23_26_27x32 => (intro w _; go_simp; try with_reducible rfl)
  simp only [Act.put, List.setIfInBounds_toArray, List.set_cons_zero, List.set_cons_succ]
  refine wpAnyH_take (i := 33) (oi := ⟨some 38, _, _, _, _, _⟩) (v := ?vt1u_1_8_15_18_23_26_27x33) rfl (by kernel_rfl) (by kernel_rfl) (by kernel_rfl) (fun _ _ _ h => h) (Or.inl ⟨by rfl, ?hyt1u_1_8_15_18_23_26_27x33⟩) hHeld ?restt1u_1_8_15_18_23_26_27x33
  case hyt1u_1_8_15_18_23_26_27x33 => (intro w hSw; (try dsimp only at hSw); have hk := hSw; obtain ⟨x_0, x_1, _, _⟩ := row2_cells hk; go_simp; try with_reducible rfl)
  simp only [Act.put, List.setIfInBounds_toArray, List.set_cons_zero, List.set_cons_succ]
  refine wpAnyH_ready (rs := [31]) (by kernel_rfl) (by simp) ?_
  refine AllReadyH.cons (o := ⟨some 36, _, _, _, _, _⟩) rfl (fun K hK => ?_) AllReadyH.nil
  go_simp
  refine (all_any _ room L F _ HLv.out HG.out hl).mono ?_
  rintro e Ut1u8 ⟨v7, E, rfl, hE, hO, hD, hb⟩
  (try go_wp2_with fail)
  refine hK.out _ _ ((hb.block _ (row_lt hHeld)).trans hHeld) (fun hHeld2 => ?_)
  clear hK K hHeld
  have hHeld := hHeld2
  clear hHeld2
  (try simp only [Act.put, List.setIfInBounds_toArray, List.set_cons_zero, List.set_cons_succ])
  replace HLv : Hid (LogV F Ut1u8 v room L) := HLv.out.below hb
  replace HH : Hid (IsH Ut1u8 (.slice ay L.length cy) L) := HH.out.below hb
  replace HBw : Hid (Below w.heap.size w Ut1u8) := HBw.out.trans (hb.mono HBw.out.size)
  replace HC5 : Hid (IsI Ut1u8 (.slice a5 (clockL L).length c5) (clockL L)) := HC5.out.below hb
  replace HC6 : Hid (IsI Ut1u8 (.slice a6 (clockL L).length c6) (clockL L)) := HC6.out.below hb
  have hEl : E.length = L.length := by rw [← hE]; simp
  have h7 : IsH Ut1u8 v7 L := by rw [← hE]; exact OwnH.isH hO (by omega) (fun x hx => ⟨(hD x hx).1.isI (hD x hx).2.2, (hD x hx).2.1⟩)
  obtain ⟨a7, c7, e7⟩ := h7.form
  subst e7
  have HC7 : Hid (IsH Ut1u8 (.slice a7 L.length c7) L) := h7
  clear hE hO hD hEl h7
  clear hb
  refine wpAnyH_ready (rs := [34]) (by kernel_rfl) (by simp) ?_
  refine AllReadyH.cons (o := ⟨some 39, _, _, _, _, _⟩) rfl (fun K hK => ?_) AllReadyH.nil
  go_simp
  refine (sameAll_eq _ _ L _ HC7.out HH.out).mono ?_
  rintro e Ut1u9 ⟨rfl, hb⟩
  (try go_wp2_with fail)
  refine hK.out _ _ ((hb.block _ (row_lt hHeld)).trans hHeld) (fun hHeld2 => ?_)
  clear hK K hHeld
  have hHeld := hHeld2
  clear hHeld2
  (try simp only [Act.put, List.setIfInBounds_toArray, List.set_cons_zero, List.set_cons_succ])
  replace HLv : Hid (LogV F Ut1u9 v room L) := HLv.out.below hb
  replace HH : Hid (IsH Ut1u9 (.slice ay L.length cy) L) := HH.out.below hb
  replace HBw : Hid (Below w.heap.size w Ut1u9) := HBw.out.trans (hb.mono HBw.out.size)
  replace HC5 : Hid (IsI Ut1u9 (.slice a5 (clockL L).length c5) (clockL L)) := HC5.out.below hb
  replace HC6 : Hid (IsI Ut1u9 (.slice a6 (clockL L).length c6) (clockL L)) := HC6.out.below hb
  replace HC7 : Hid (IsH Ut1u9 (.slice a7 L.length c7) L) := HC7.out.below hb
  clear hb
  refine wpAnyH_take (i := 35) (oi := ⟨some 40, _, _, _, _, _⟩) (v := ?vt1u_1_8_15_18_23_26_27_31_34x35) rfl (by kernel_rfl) (by kernel_rfl) (by kernel_rfl) (fun _ _ _ h => h) (Or.inl ⟨by rfl, ?hyt1u_1_8_15_18_23_26_27_31_34x35⟩) hHeld ?restt1u_1_8_15_18_23_26_27_31_34x35
  case hyt1u_1_8_15_18_23_26_27_31_34x35 => (intro w _; go_simp; try with_reducible rfl)
  simp only [Act.put, List.setIfInBounds_toArray, List.set_cons_zero, List.set_cons_succ]
  refine wpAnyH_take (i := 36) (oi := ⟨some 4, _, _, _, _, _⟩) (v := ?vt1u_1_8_15_18_23_26_27_31_34x36) rfl (by kernel_rfl) (by kernel_rfl) (by kernel_rfl) (fun _ _ _ h => h) (Or.inl ⟨by rfl, ?hyt1u_1_8_15_18_23_26_27_31_34x36⟩) hHeld ?restt1u_1_8_15_18_23_26_27_31_34x36
  case hyt1u_1_8_15_18_23_26_27_31_34x36 => (intro w _; go_simp; try with_reducible rfl)
  simp only [Act.put, List.setIfInBounds_toArray, List.set_cons_zero, List.set_cons_succ]
  refine wpAnyH_done (by kernel_rfl) ?_ _
  clear hHeld
  go_wp2
  go_ret
  exact ⟨rfl, HBw.out⟩

end Go.Proofs.YtckipepodohnpaaGreat

namespace Go.Proofs.YtckipepodohnpaaGreat
open Go.RowKit
set_option linter.unusedVariables false
set_option linter.unusedSimpArgs false

def firstC : Ch := ⟨1, 0, 1, [], 1, 1, 0, 0, 0, 0, 0, ⟨#[112]⟩, ⟨#[]⟩⟩
theorem first_sized : Sized firstC := ⟨by decide, by decide⟩
theorem why_first : whyR [] 3 firstC = 0 := by decide +kernel
theorem why_first2 : whyR [firstC] 3 firstC = 5 := by decide +kernel
theorem add_first : addL [] 3 firstC = [firstC] := by unfold addL; rw [if_pos why_first]; rfl
theorem add_first2 : addL [firstC] 3 firstC = [firstC] := by unfold addL; rw [if_neg (by rw [why_first2]; decide)]

set_option maxRecDepth 100000 in
set_option maxHeartbeats 2000000 in
theorem first_any (w : World) : Calls Tryz.prog 25 #[] w fun e w' => e = .returned (chV firstC (.slice none 0 0)) ∧ Below w.heap.size w w' := by
  go_enter Tryz.func25, Tryz.ntmps25
  go_wp2
  (try simp only [Exit.inBlock, Exit.then])
  refine bodyPost_ret (v := chV firstC (.slice none 0 0)) ?res rfl ?post
  case res => exact results_cell_row rfl _ _ w.heap.size _ _ _ _ rfl ((Below.heap_alloc _ _ _ (by simp)).trans (heap_alloc_new w _)) Tryz.underlying34 rfl (by kernel_rfl)
  exact ⟨rfl, ((Below.refl _ _).alloc (Nat.le_refl _) _).alloc (by simp) _⟩

set_option maxRecDepth 100000 in
set_option maxHeartbeats 4000000 in
theorem awake_any (w : World) : Calls Tryz.prog 10 #[] w fun e w' => e = .returned (.bool true) ∧ Below w.heap.size w w' := by
  have HF : Hid (∀ W, Calls Tryz.prog 25 #[] W fun e w' => e = .returned (chV firstC (.slice none 0 0)) ∧ Below W.heap.size W w') := fun W => first_any W
  go_enter Tryz.func10, Tryz.ntmps10
  go_wp2_with fail
  refine (new_any 3 _).mono ?_
  rintro e w1 ⟨h, hb1⟩
  rcases h with ⟨h, _⟩ | ⟨_, lb, F, rfl, hL, hF⟩
  · omega
  have HL : Hid (LogOk F w1 lb 3 []) := hL
  have HB1 : Hid (Below w.heap.size w w1) := hb1
  have HFn : Hid (∀ k, F k → w.heap.size ≤ k) := hF
  clear hL hb1 hF
  go_wp2_with fail
  refine (HF.out _).mono ?_
  rintro e w2 ⟨rfl, hb2⟩
  replace HL : Hid (LogOk F w2 lb 3 []) := HL.out.below hb2
  have HB2 : Hid (Below w.heap.size w w2) := HB1.out.trans (hb2.mono HB1.out.size)
  clear hb2 HB1
  go_wp2_with fail
  refine (add_any F lb 3 [] firstC (.slice none 0 0) _ HL.out Good.none (by simp) (by omega) (IsI.non 0) first_sized).mono ?_
  rintro e w3 ⟨rfl, F3, hL3, hf1, hf2, ht⟩
  rw [why_first]
  rw [add_first] at hL3
  have HL3 : Hid (LogOk F3 w3 lb 3 [firstC]) := hL3
  have HB3 : Hid (Below w.heap.size w w3) := HB2.out.trans (ht.below HFn.out HB2.out.size)
  have HF3 : Hid (∀ k, F3 k → w.heap.size ≤ k) := fun k hk => by
    rcases hf2 k hk with h | h
    · exact HFn.out k h
    · exact Nat.le_trans HB2.out.size h
  clear hL3 hf1 hf2 ht HL HB2 HFn
  go_wp2_with fail
  refine (HF.out _).mono ?_
  rintro e w4 ⟨rfl, hb4⟩
  replace HL3 : Hid (LogOk F3 w4 lb 3 [firstC]) := HL3.out.below hb4
  have HB4 : Hid (Below w.heap.size w w4) := HB3.out.trans (hb4.mono HB3.out.size)
  clear hb4 HB3
  go_wp2_with fail
  refine (add_any F3 lb 3 [firstC] firstC (.slice none 0 0) _ HL3.out (by rw [← add_first]; exact addL_good Good.none 3 firstC) (by simp) (by omega) (IsI.non 0) first_sized).mono ?_
  rintro e w5 ⟨rfl, F5, hL5, hf1, hf2, ht⟩
  rw [why_first2]
  rw [add_first2] at hL5
  have HL5 : Hid (LogOk F5 w5 lb 3 [firstC]) := hL5
  have HB5 : Hid (Below w.heap.size w w5) := HB4.out.trans (ht.below HF3.out HB4.out.size)
  clear hL5 hf1 hf2 ht HL3 HB4 HF3
  go_wp2_with fail
  refine (len_any _ 3 [firstC] F5 _ HL5.out.v).mono ?_
  rintro e w6 ⟨rfl, hb6⟩
  have HL6 : Hid (LogOk F5 w6 lb 3 [firstC]) := HL5.out.below hb6
  have HB6 : Hid (Below w.heap.size w w6) := HB5.out.trans (hb6.mono HB5.out.size)
  clear hb6 HB5 HL5
  rw [show ((([firstC] : List Ch).length : Nat) : Int) = 1 from rfl]
  go_wp2_with fail
  refine (last_any _ 3 [firstC] F5 _ HL6.out.v (by simp)).mono ?_
  rintro e w7 ⟨rfl, hb7⟩
  have HB7 : Hid (Below w.heap.size w w7) := HB6.out.trans (hb7.mono HB6.out.size)
  clear hb7 HB6 HL6
  rw [show lastL [firstC] = 1 from rfl]
  go_wp2
  go_ret
  exact ⟨rfl, HB7.out⟩

end Go.Proofs.YtckipepodohnpaaGreat

namespace Go.Proofs.YtckipepodohnpaaGreat
open Go.RowKit
set_option linter.unusedVariables false
set_option linter.unusedSimpArgs false

set_option maxRecDepth 100000 in
set_option maxHeartbeats 8000000 in
theorem findNil_any (c r : Int) (w : World) :
    Calls Tryz.prog 16 #[.pointer none, .agg #[.int .i64 c, .int .i64 r]] w fun e w' => ∃ v', e = .returned (.tuple #[chV zeroC v', .bool false]) ∧ OwnI w.heap.size w' v' zeroC.deps ∧ Below w.heap.size w w' := by
  obtain ⟨W0, eW⟩ : ∃ X, X = (w.alloc (.cells #[.int .i64 c, .int .i64 r] 31)).alloc (.cells #[.int .i64 0, .int .i64 0, .int .i64 0, .slice none 0 0, .int .i64 0, .int .i64 0, .int .i64 0, .int .i64 0, .int .i64 0, .int .i64 0, .int .i64 0, .string ⟨#[]⟩, .string ⟨#[]⟩] 34) := ⟨_, rfl⟩
  have hb0 : Below w.heap.size w W0 := by rw [eW]; exact ((Below.refl _ _).alloc (Nat.le_refl _) _).alloc (by simp) _
  have HAb : Hid (RowA w.heap.size c r W0) := by rw [eW]; exact ⟨(Below.heap_alloc _ _ _ (by simp)).trans (heap_alloc_new w _)⟩
  have HRz : Hid (RowZ (w.heap.size + 1) W0) := by
    rw [eW]
    have h0 := heap_alloc_new (w.alloc (.cells #[.int .i64 c, .int .i64 r] 31)) (.cells #[.int .i64 0, .int .i64 0, .int .i64 0, .slice none 0 0, .int .i64 0, .int .i64 0, .int .i64 0, .int .i64 0, .int .i64 0, .int .i64 0, .int .i64 0, .string ⟨#[]⟩, .string ⟨#[]⟩] 34)
    rw [show (w.alloc (.cells #[.int .i64 c, .int .i64 r] 31)).heap.size = w.heap.size + 1 by simp] at h0
    exact h0
  have HBw : Hid (BelowH w W0) := hb0
  have HBw : Hid (BelowH w W0) := hb0
  go_enter Tryz.func16, Tryz.ntmps16
  go_upto_region 1 with fail
  rw [← eW]
  clear eW hb0
  refine wp_region_held_drew (S := fun W' => W'.heap[w.heap.size]? = some (.cells #[.int .i64 c, .int .i64 r] 31)) (by kernel_rfl) HAb.out.out (fun hHeld => ?_)
  obtain ⟨Un3u0, eW⟩ : ∃ X, X = W0.drew := ⟨_, rfl⟩
  have hb : Below W0.heap.size W0 Un3u0 := by rw [eW]; exact (Below.refl _ _).drew
  replace HRz : Hid (RowZ (w.heap.size + 1) Un3u0) := HRz.out.below hb
  replace HBw : Hid (BelowH w Un3u0) := HBw.out.below hb
  rw [← eW] at hHeld ⊢
  clear eW hb
  refine wpAnyH_take (i := 0) (oi := ⟨some 9, _, _, _, _, _⟩) (v := ?vn3ux0) rfl (by kernel_rfl) (by kernel_rfl) (by kernel_rfl) (fun _ _ _ h => h) (Or.inl ⟨by rfl, ?hyn3ux0⟩) hHeld ?restn3ux0
  case hyn3ux0 => (intro w _; go_simp; try with_reducible rfl)
  simp only [Act.put, List.setIfInBounds_toArray, List.set_cons_zero, List.set_cons_succ]
  refine wpAnyH_take (i := 5) (oi := ⟨some 14, _, _, _, _, _⟩) (v := ?vn3ux5) rfl (by kernel_rfl) (by kernel_rfl) (by kernel_rfl) (fun _ _ _ h => h) (Or.inl ⟨by rfl, ?hyn3ux5⟩) hHeld ?restn3ux5
  case hyn3ux5 => (intro w hSw; (try dsimp only at hSw); have hsb := hSw; obtain ⟨s_0, s_1, _, _⟩ := row2_cells hsb; go_simp; try with_reducible rfl)
  simp only [Act.put, List.setIfInBounds_toArray, List.set_cons_zero, List.set_cons_succ]
  refine wpAnyH_ready (rs := [1, 10]) (by kernel_rfl) (by simp) ?_
  refine AllReadyH.cons (o := ⟨some 10, _, _, _, _, _⟩) rfl (fun K hK => ?_) (AllReadyH.cons (o := ⟨some 6, _, _, _, _, _⟩) rfl (fun K hK => ?_) AllReadyH.nil)
  · go_simp
    refine (orEmpty_any (.pointer none) 0 [] (fun _ => False) _ (.inr ⟨rfl, rfl, rfl, fun _ h => h.elim⟩)).mono ?_
    rintro e Un3u1 ⟨lb, F', rfl, ⟨mb, ord, own, D, h1⟩, hb, _⟩
    (try go_wp2_with fail)
    refine hK.out _ _ ((hb.block _ (row_lt hHeld)).trans hHeld) (fun hHeld2 => ?_)
    clear hK K hHeld
    have hHeld := hHeld2
    clear hHeld2
    (try simp only [Act.put, List.setIfInBounds_toArray, List.set_cons_zero, List.set_cons_succ])
    replace HRz : Hid (RowZ (w.heap.size + 1) Un3u1) := HRz.out.below hb
    replace HBw : Hid (BelowH w Un3u1) := HBw.out.below hb
    have HLx : Hid (LogIs F' Un3u1 lb 0 [] mb ord own D) := h1
    have HD0 : Hid (getD D c r = none) := by have hD := getD_get HLx.out (by exact List.Pairwise.nil) c r; rcases hD with ⟨x, _, h9, _⟩ | ⟨h9, _⟩; (simp [getL] at h9); exact h9
    clear h1
    clear hb
    refine wpAnyH_take (i := 2) (oi := ⟨some 11, _, _, _, _, _⟩) (v := ?vn3u_1x2) rfl (by kernel_rfl) (by kernel_rfl) (by kernel_rfl) (fun _ _ _ h => h) (Or.inl ⟨by rfl, ?hyn3u_1x2⟩) hHeld ?restn3u_1x2
    case hyn3u_1x2 => (intro w hSw; (try dsimp only at hSw); have hsb := hSw; obtain ⟨s_0, s_1, _, _⟩ := row2_cells hsb; go_simp; try with_reducible rfl)
    simp only [Act.put, List.setIfInBounds_toArray, List.set_cons_zero, List.set_cons_succ]
    refine wpAnyH_take (i := 3) (oi := ⟨some 12, _, _, _, _, _⟩) (v := ?vn3u_1x3) rfl (by kernel_rfl) (by kernel_rfl) (by kernel_rfl) (fun _ _ _ h => h) (Or.inl ⟨by rfl, ?hyn3u_1x3⟩) hHeld ?restn3u_1x3
    case hyn3u_1x3 => (intro w _; go_simp; try with_reducible rfl)
    simp only [Act.put, List.setIfInBounds_toArray, List.set_cons_zero, List.set_cons_succ]
    refine wpAnyH_ready (rs := [4, 10]) (by kernel_rfl) (by simp) ?_
    refine AllReadyH.cons (o := ⟨some 13, _, _, _, _, _⟩) rfl (fun K hK => ?_) (AllReadyH.cons (o := ⟨some 6, _, _, _, _, _⟩) rfl (fun K hK => ?_) AllReadyH.nil)
    · have lc1 := HLx.out.cell1
      go_simp
      refine hK.out _ _ (hHeld) (fun hHeld2 => ?_)
      clear hK K hHeld
      have hHeld := hHeld2
      clear hHeld2
      (try simp only [Act.put, List.setIfInBounds_toArray, List.set_cons_zero, List.set_cons_succ])
      clear lc1
      refine wpAnyH_ready (rs := [6, 10]) (by kernel_rfl) (by simp) ?_
      refine AllReadyH.cons (o := ⟨some 15, _, _, _, _, _⟩) rfl (fun K hK => ?_) (AllReadyH.cons (o := ⟨some 6, _, _, _, _, _⟩) rfl (fun K hK => ?_) AllReadyH.nil)
      · have hlk : (Instr.lookup 76 (.map (some mb)) (.agg #[.int .i64 c, .int .i64 r]) true).run Tryz.prog Un3u1 = .ok (.tuple #[.agg #[.int .i64 0, .int .i64 0, .int .i64 0, .slice none 0 0, .int .i64 0, .int .i64 0, .int .i64 0, .int .i64 0, .int .i64 0, .int .i64 0, .int .i64 0, .string ⟨#[]⟩, .string ⟨#[]⟩], .bool false]) Un3u1 := by have h0 := look_st HLx.out.hmap c r; rw [HD0.out] at h0; exact h0
        go_simp
        refine hK.out _ _ (hHeld) (fun hHeld2 => ?_)
        clear hK K hHeld
        have hHeld := hHeld2
        clear hHeld2
        (try simp only [Act.put, List.setIfInBounds_toArray, List.set_cons_zero, List.set_cons_succ])
        clear hlk
        refine wpAnyH_take (i := 7) (oi := ⟨some 8, _, _, _, _, _⟩) (v := ?vn3u_1_4_6x7) rfl (by kernel_rfl) (by kernel_rfl) (by kernel_rfl) (fun _ _ _ h => h) (Or.inl ⟨by rfl, ?hyn3u_1_4_6x7⟩) hHeld ?restn3u_1_4_6x7
        case hyn3u_1_4_6x7 => (intro w _; go_simp; try with_reducible rfl)
        simp only [Act.put, List.setIfInBounds_toArray, List.set_cons_zero, List.set_cons_succ]
        refine wpAnyH_take (i := 8) (oi := ⟨some 16, _, _, _, _, _⟩) (v := ?vn3u_1_4_6x8) rfl (by kernel_rfl) (by kernel_rfl) (by kernel_rfl) (fun _ _ _ h => h) (Or.inl ⟨by rfl, ?hyn3u_1_4_6x8⟩) hHeld ?restn3u_1_4_6x8
        case hyn3u_1_4_6x8 => (intro w _; go_simp; try with_reducible rfl)
        simp only [Act.put, List.setIfInBounds_toArray, List.set_cons_zero, List.set_cons_succ]
        refine wpAnyH_take (i := 9) (oi := ⟨some 17, _, _, _, _, _⟩) (v := ?vn3u_1_4_6x9) rfl (by kernel_rfl) (by kernel_rfl) (by kernel_rfl) (fun _ _ _ h => h) (Or.inl ⟨by rfl, ?hyn3u_1_4_6x9⟩) hHeld ?restn3u_1_4_6x9
        case hyn3u_1_4_6x9 => (intro w _; go_simp; try with_reducible rfl)
        simp only [Act.put, List.setIfInBounds_toArray, List.set_cons_zero, List.set_cons_succ]
        refine wpAnyH_ready (rs := [10]) (by kernel_rfl) (by simp) ?_
        refine AllReadyH.cons (o := ⟨some 6, _, _, _, _, _⟩) rfl (fun K hK => ?_) AllReadyH.nil
        have HZ0 : Hid (w.heap.size + 1 < Un3u1.heap.size) := row_lt HRz.out
        go_simp
        refine hK.out _ _ ((Below.block ((Below.refl _ Un3u1).alloc (Nat.le_refl _) _) _ (row_lt hHeld)).trans hHeld) (fun hHeld2 => ?_)
        clear hK K hHeld
        have hHeld := hHeld2
        clear hHeld2
        (try simp only [Act.put, List.setIfInBounds_toArray, List.set_cons_zero, List.set_cons_succ])
        obtain ⟨Un3u4, eW⟩ : ∃ X, X = Un3u1.alloc (.cells #[.int .i64 0, .int .i64 0, .int .i64 0, .slice none 0 0, .int .i64 0, .int .i64 0, .int .i64 0, .int .i64 0, .int .i64 0, .int .i64 0, .int .i64 0, .string ⟨#[]⟩, .string ⟨#[]⟩] 34) := ⟨_, rfl⟩
        have hb : Below Un3u1.heap.size Un3u1 Un3u4 := by rw [eW]; exact (Below.refl _ _).alloc (Nat.le_refl _) _
        replace HRz : Hid (RowZ (w.heap.size + 1) Un3u4) := HRz.out.below hb
        replace HBw : Hid (BelowH w Un3u4) := HBw.out.below hb
        replace HLx : Hid (LogIs F' Un3u4 lb 0 [] mb ord own D) := HLx.out.below hb
        obtain ⟨zb, ezb⟩ : ∃ b, b = Un3u1.heap.size := ⟨_, rfl⟩
        rw [← eW] at hHeld ⊢
        (try rw [← ezb])
        have HZ : Hid (RowZ zb Un3u4) := by rw [ezb, eW]; exact heap_alloc_new _ _
        have HZn : Hid (w.heap.size + 1 < zb) := by rw [ezb]; exact HZ0.out
        clear eW
        clear ezb
        clear hb
        refine wpAnyH_ready (rs := [11]) (by kernel_rfl) (by simp) ?_
        refine AllReadyH.cons (o := ⟨none, _, _, _, _, _⟩) rfl (fun K hK => ?_) AllReadyH.nil
        have hzr : Un3u4.heap[zb]? = _ := HZ.out
        obtain ⟨z_0, z_1, z_2, z_3, z_4, z_5, z_6, z_7, z_8, z_9, z_10, z_11, z_12⟩ := row_cells hzr
        have fz := row_free hzr
        have hzn := HZn.out
        clear hzr
        go_simp
        refine hK.out _ _ ((far13 (by omega)).trans hHeld) (fun hHeld2 => ?_)
        clear hK K hHeld
        have hHeld := hHeld2
        clear hHeld2
        (try simp only [Act.put, List.setIfInBounds_toArray, List.set_cons_zero, List.set_cons_succ])
        have HZ9 : Hid (RowZ zb (((((((((((((Un3u4.setCell ⟨zb, 0, none⟩ (.int .i64 0)).setCell ⟨zb, 1, none⟩ (.int .i64 0)).setCell ⟨zb, 2, none⟩ (.int .i64 0)).setCell ⟨zb, 3, none⟩ (.slice none 0 0)).setCell ⟨zb, 4, none⟩ (.int .i64 0)).setCell ⟨zb, 5, none⟩ (.int .i64 0)).setCell ⟨zb, 6, none⟩ (.int .i64 0)).setCell ⟨zb, 7, none⟩ (.int .i64 0)).setCell ⟨zb, 8, none⟩ (.int .i64 0)).setCell ⟨zb, 9, none⟩ (.int .i64 0)).setCell ⟨zb, 10, none⟩ (.int .i64 0)).setCell ⟨zb, 11, none⟩ (.string ⟨#[]⟩)).setCell ⟨zb, 12, none⟩ (.string ⟨#[]⟩))) := row_set13 HZ.out
        have HR9 : Hid (RowZ (w.heap.size + 1) (((((((((((((Un3u4.setCell ⟨zb, 0, none⟩ (.int .i64 0)).setCell ⟨zb, 1, none⟩ (.int .i64 0)).setCell ⟨zb, 2, none⟩ (.int .i64 0)).setCell ⟨zb, 3, none⟩ (.slice none 0 0)).setCell ⟨zb, 4, none⟩ (.int .i64 0)).setCell ⟨zb, 5, none⟩ (.int .i64 0)).setCell ⟨zb, 6, none⟩ (.int .i64 0)).setCell ⟨zb, 7, none⟩ (.int .i64 0)).setCell ⟨zb, 8, none⟩ (.int .i64 0)).setCell ⟨zb, 9, none⟩ (.int .i64 0)).setCell ⟨zb, 10, none⟩ (.int .i64 0)).setCell ⟨zb, 11, none⟩ (.string ⟨#[]⟩)).setCell ⟨zb, 12, none⟩ (.string ⟨#[]⟩))) := (far13 (by omega)).trans HRz.out
        have HB9 : Hid (BelowH w (((((((((((((Un3u4.setCell ⟨zb, 0, none⟩ (.int .i64 0)).setCell ⟨zb, 1, none⟩ (.int .i64 0)).setCell ⟨zb, 2, none⟩ (.int .i64 0)).setCell ⟨zb, 3, none⟩ (.slice none 0 0)).setCell ⟨zb, 4, none⟩ (.int .i64 0)).setCell ⟨zb, 5, none⟩ (.int .i64 0)).setCell ⟨zb, 6, none⟩ (.int .i64 0)).setCell ⟨zb, 7, none⟩ (.int .i64 0)).setCell ⟨zb, 8, none⟩ (.int .i64 0)).setCell ⟨zb, 9, none⟩ (.int .i64 0)).setCell ⟨zb, 10, none⟩ (.int .i64 0)).setCell ⟨zb, 11, none⟩ (.string ⟨#[]⟩)).setCell ⟨zb, 12, none⟩ (.string ⟨#[]⟩))) := below13 HBw.out (by omega)
        obtain ⟨W9, eW9⟩ : ∃ X, X = (((((((((((((Un3u4.setCell ⟨zb, 0, none⟩ (.int .i64 0)).setCell ⟨zb, 1, none⟩ (.int .i64 0)).setCell ⟨zb, 2, none⟩ (.int .i64 0)).setCell ⟨zb, 3, none⟩ (.slice none 0 0)).setCell ⟨zb, 4, none⟩ (.int .i64 0)).setCell ⟨zb, 5, none⟩ (.int .i64 0)).setCell ⟨zb, 6, none⟩ (.int .i64 0)).setCell ⟨zb, 7, none⟩ (.int .i64 0)).setCell ⟨zb, 8, none⟩ (.int .i64 0)).setCell ⟨zb, 9, none⟩ (.int .i64 0)).setCell ⟨zb, 10, none⟩ (.int .i64 0)).setCell ⟨zb, 11, none⟩ (.string ⟨#[]⟩)).setCell ⟨zb, 12, none⟩ (.string ⟨#[]⟩)) := ⟨_, rfl⟩
        rw [← eW9] at HZ9 HR9 HB9 hHeld ⊢
        clear eW9 z_0 z_1 z_2 z_3 z_4 z_5 z_6 z_7 z_8 z_9 z_10 z_11 z_12 fz
        refine wpAnyH_take (i := 12) (oi := ⟨some 7, _, _, _, _, _⟩) (v := ?vn3u_1_4_6_10_11x12) rfl (by kernel_rfl) (by kernel_rfl) (by kernel_rfl) (fun _ _ _ h => h) (Or.inl ⟨by rfl, ?hyn3u_1_4_6_10_11x12⟩) hHeld ?restn3u_1_4_6_10_11x12
        case hyn3u_1_4_6_10_11x12 => (intro w _; go_simp; try with_reducible rfl)
        simp only [Act.put, List.setIfInBounds_toArray, List.set_cons_zero, List.set_cons_succ]
        refine wpAnyH_done (by kernel_rfl) ?_ _
        clear hHeld
        have hm : W9.heap[zb]? = _ := HZ9.out
        obtain ⟨m_0, m_1, m_2, m_3, m_4, m_5, m_6, m_7, m_8, m_9, m_10, m_11, m_12⟩ := row_cells hm
        clear hm
        go_wp2_with fail
        refine (copyCh_any 0 0 0 (.slice none 0 0) 0 0 0 0 0 0 0 ⟨#[]⟩ ⟨#[]⟩ [] _ (IsI.non 0)).mono ?_
        rintro e w9 ⟨v9, rfl, ho9, hb9⟩
        have HRa : Hid (RowZ (w.heap.size + 1) w9) := HR9.out.below hb9
        have HBa : Hid (BelowH w w9) := BelowH.below HB9.out hb9
        have hsz : w.heap.size + 1 < W9.heap.size := row_lt HR9.out
        obtain ⟨a9, c9, e9⟩ := ho9.form
        subst e9
        have HOa : Hid (OwnI w.heap.size w9 (.slice a9 ([] : List Int).length c9) [] ∧ ∀ k, (Value.slice a9 ([] : List Int).length c9).ownBlock = some k → w.heap.size + 1 < k) := ⟨ho9.low (by omega), fun k e => by have := ho9.block k e; omega⟩
        have hzr : w9.heap[w.heap.size + 1]? = _ := HRa.out
        obtain ⟨z_0, z_1, z_2, z_3, z_4, z_5, z_6, z_7, z_8, z_9, z_10, z_11, z_12⟩ := row_cells hzr
        have fz := row_free hzr
        clear ho9 hb9 hzr m_0 m_1 m_2 m_3 m_4 m_5 m_6 m_7 m_8 m_9 m_10 m_11 m_12
        go_wp2
        (try simp only [Exit.inBlock, Exit.then])
        refine bodyPost_ret (results_cell_row2 rfl _ _ (w.heap.size + 1) _ _ _ _ rfl (row_set13 HRa.out) Tryz.underlying34 rfl (by kernel_rfl) rfl) rfl ?_
        exact ⟨_, rfl, own13f HOa.out.1 HOa.out.2, below13 HBa.out (by omega)⟩
      · have HZ0 : Hid (w.heap.size + 1 < Un3u1.heap.size) := row_lt HRz.out
        go_simp
        refine hK.out _ _ ((Below.block ((Below.refl _ Un3u1).alloc (Nat.le_refl _) _) _ (row_lt hHeld)).trans hHeld) (fun hHeld2 => ?_)
        clear hK K hHeld
        have hHeld := hHeld2
        clear hHeld2
        (try simp only [Act.put, List.setIfInBounds_toArray, List.set_cons_zero, List.set_cons_succ])
        obtain ⟨Un3u6, eW⟩ : ∃ X, X = Un3u1.alloc (.cells #[.int .i64 0, .int .i64 0, .int .i64 0, .slice none 0 0, .int .i64 0, .int .i64 0, .int .i64 0, .int .i64 0, .int .i64 0, .int .i64 0, .int .i64 0, .string ⟨#[]⟩, .string ⟨#[]⟩] 34) := ⟨_, rfl⟩
        have hb : Below Un3u1.heap.size Un3u1 Un3u6 := by rw [eW]; exact (Below.refl _ _).alloc (Nat.le_refl _) _
        replace HRz : Hid (RowZ (w.heap.size + 1) Un3u6) := HRz.out.below hb
        replace HBw : Hid (BelowH w Un3u6) := HBw.out.below hb
        replace HLx : Hid (LogIs F' Un3u6 lb 0 [] mb ord own D) := HLx.out.below hb
        obtain ⟨zb, ezb⟩ : ∃ b, b = Un3u1.heap.size := ⟨_, rfl⟩
        rw [← eW] at hHeld ⊢
        (try rw [← ezb])
        have HZ : Hid (RowZ zb Un3u6) := by rw [ezb, eW]; exact heap_alloc_new _ _
        have HZn : Hid (w.heap.size + 1 < zb) := by rw [ezb]; exact HZ0.out
        clear eW
        clear ezb
        clear hb
        refine wpAnyH_ready (rs := [6]) (by kernel_rfl) (by simp) ?_
        refine AllReadyH.cons (o := ⟨some 15, _, _, _, _, _⟩) rfl (fun K hK => ?_) AllReadyH.nil
        have hlk : (Instr.lookup 76 (.map (some mb)) (.agg #[.int .i64 c, .int .i64 r]) true).run Tryz.prog Un3u6 = .ok (.tuple #[.agg #[.int .i64 0, .int .i64 0, .int .i64 0, .slice none 0 0, .int .i64 0, .int .i64 0, .int .i64 0, .int .i64 0, .int .i64 0, .int .i64 0, .int .i64 0, .string ⟨#[]⟩, .string ⟨#[]⟩], .bool false]) Un3u6 := by have h0 := look_st HLx.out.hmap c r; rw [HD0.out] at h0; exact h0
        go_simp
        refine hK.out _ _ (hHeld) (fun hHeld2 => ?_)
        clear hK K hHeld
        have hHeld := hHeld2
        clear hHeld2
        (try simp only [Act.put, List.setIfInBounds_toArray, List.set_cons_zero, List.set_cons_succ])
        clear hlk
        refine wpAnyH_take (i := 7) (oi := ⟨some 8, _, _, _, _, _⟩) (v := ?vn3u_1_4_10_6x7) rfl (by kernel_rfl) (by kernel_rfl) (by kernel_rfl) (fun _ _ _ h => h) (Or.inl ⟨by rfl, ?hyn3u_1_4_10_6x7⟩) hHeld ?restn3u_1_4_10_6x7
        case hyn3u_1_4_10_6x7 => (intro w _; go_simp; try with_reducible rfl)
        simp only [Act.put, List.setIfInBounds_toArray, List.set_cons_zero, List.set_cons_succ]
        refine wpAnyH_take (i := 8) (oi := ⟨some 16, _, _, _, _, _⟩) (v := ?vn3u_1_4_10_6x8) rfl (by kernel_rfl) (by kernel_rfl) (by kernel_rfl) (fun _ _ _ h => h) (Or.inl ⟨by rfl, ?hyn3u_1_4_10_6x8⟩) hHeld ?restn3u_1_4_10_6x8
        case hyn3u_1_4_10_6x8 => (intro w _; go_simp; try with_reducible rfl)
        simp only [Act.put, List.setIfInBounds_toArray, List.set_cons_zero, List.set_cons_succ]
        refine wpAnyH_take (i := 9) (oi := ⟨some 17, _, _, _, _, _⟩) (v := ?vn3u_1_4_10_6x9) rfl (by kernel_rfl) (by kernel_rfl) (by kernel_rfl) (fun _ _ _ h => h) (Or.inl ⟨by rfl, ?hyn3u_1_4_10_6x9⟩) hHeld ?restn3u_1_4_10_6x9
        case hyn3u_1_4_10_6x9 => (intro w _; go_simp; try with_reducible rfl)
        simp only [Act.put, List.setIfInBounds_toArray, List.set_cons_zero, List.set_cons_succ]
        refine wpAnyH_ready (rs := [11]) (by kernel_rfl) (by simp) ?_
        refine AllReadyH.cons (o := ⟨none, _, _, _, _, _⟩) rfl (fun K hK => ?_) AllReadyH.nil
        have hzr : Un3u6.heap[zb]? = _ := HZ.out
        obtain ⟨z_0, z_1, z_2, z_3, z_4, z_5, z_6, z_7, z_8, z_9, z_10, z_11, z_12⟩ := row_cells hzr
        have fz := row_free hzr
        have hzn := HZn.out
        clear hzr
        go_simp
        refine hK.out _ _ ((far13 (by omega)).trans hHeld) (fun hHeld2 => ?_)
        clear hK K hHeld
        have hHeld := hHeld2
        clear hHeld2
        (try simp only [Act.put, List.setIfInBounds_toArray, List.set_cons_zero, List.set_cons_succ])
        have HZ9 : Hid (RowZ zb (((((((((((((Un3u6.setCell ⟨zb, 0, none⟩ (.int .i64 0)).setCell ⟨zb, 1, none⟩ (.int .i64 0)).setCell ⟨zb, 2, none⟩ (.int .i64 0)).setCell ⟨zb, 3, none⟩ (.slice none 0 0)).setCell ⟨zb, 4, none⟩ (.int .i64 0)).setCell ⟨zb, 5, none⟩ (.int .i64 0)).setCell ⟨zb, 6, none⟩ (.int .i64 0)).setCell ⟨zb, 7, none⟩ (.int .i64 0)).setCell ⟨zb, 8, none⟩ (.int .i64 0)).setCell ⟨zb, 9, none⟩ (.int .i64 0)).setCell ⟨zb, 10, none⟩ (.int .i64 0)).setCell ⟨zb, 11, none⟩ (.string ⟨#[]⟩)).setCell ⟨zb, 12, none⟩ (.string ⟨#[]⟩))) := row_set13 HZ.out
        have HR9 : Hid (RowZ (w.heap.size + 1) (((((((((((((Un3u6.setCell ⟨zb, 0, none⟩ (.int .i64 0)).setCell ⟨zb, 1, none⟩ (.int .i64 0)).setCell ⟨zb, 2, none⟩ (.int .i64 0)).setCell ⟨zb, 3, none⟩ (.slice none 0 0)).setCell ⟨zb, 4, none⟩ (.int .i64 0)).setCell ⟨zb, 5, none⟩ (.int .i64 0)).setCell ⟨zb, 6, none⟩ (.int .i64 0)).setCell ⟨zb, 7, none⟩ (.int .i64 0)).setCell ⟨zb, 8, none⟩ (.int .i64 0)).setCell ⟨zb, 9, none⟩ (.int .i64 0)).setCell ⟨zb, 10, none⟩ (.int .i64 0)).setCell ⟨zb, 11, none⟩ (.string ⟨#[]⟩)).setCell ⟨zb, 12, none⟩ (.string ⟨#[]⟩))) := (far13 (by omega)).trans HRz.out
        have HB9 : Hid (BelowH w (((((((((((((Un3u6.setCell ⟨zb, 0, none⟩ (.int .i64 0)).setCell ⟨zb, 1, none⟩ (.int .i64 0)).setCell ⟨zb, 2, none⟩ (.int .i64 0)).setCell ⟨zb, 3, none⟩ (.slice none 0 0)).setCell ⟨zb, 4, none⟩ (.int .i64 0)).setCell ⟨zb, 5, none⟩ (.int .i64 0)).setCell ⟨zb, 6, none⟩ (.int .i64 0)).setCell ⟨zb, 7, none⟩ (.int .i64 0)).setCell ⟨zb, 8, none⟩ (.int .i64 0)).setCell ⟨zb, 9, none⟩ (.int .i64 0)).setCell ⟨zb, 10, none⟩ (.int .i64 0)).setCell ⟨zb, 11, none⟩ (.string ⟨#[]⟩)).setCell ⟨zb, 12, none⟩ (.string ⟨#[]⟩))) := below13 HBw.out (by omega)
        obtain ⟨W9, eW9⟩ : ∃ X, X = (((((((((((((Un3u6.setCell ⟨zb, 0, none⟩ (.int .i64 0)).setCell ⟨zb, 1, none⟩ (.int .i64 0)).setCell ⟨zb, 2, none⟩ (.int .i64 0)).setCell ⟨zb, 3, none⟩ (.slice none 0 0)).setCell ⟨zb, 4, none⟩ (.int .i64 0)).setCell ⟨zb, 5, none⟩ (.int .i64 0)).setCell ⟨zb, 6, none⟩ (.int .i64 0)).setCell ⟨zb, 7, none⟩ (.int .i64 0)).setCell ⟨zb, 8, none⟩ (.int .i64 0)).setCell ⟨zb, 9, none⟩ (.int .i64 0)).setCell ⟨zb, 10, none⟩ (.int .i64 0)).setCell ⟨zb, 11, none⟩ (.string ⟨#[]⟩)).setCell ⟨zb, 12, none⟩ (.string ⟨#[]⟩)) := ⟨_, rfl⟩
        rw [← eW9] at HZ9 HR9 HB9 hHeld ⊢
        clear eW9 z_0 z_1 z_2 z_3 z_4 z_5 z_6 z_7 z_8 z_9 z_10 z_11 z_12 fz
        refine wpAnyH_take (i := 12) (oi := ⟨some 7, _, _, _, _, _⟩) (v := ?vn3u_1_4_10_6_11x12) rfl (by kernel_rfl) (by kernel_rfl) (by kernel_rfl) (fun _ _ _ h => h) (Or.inl ⟨by rfl, ?hyn3u_1_4_10_6_11x12⟩) hHeld ?restn3u_1_4_10_6_11x12
        case hyn3u_1_4_10_6_11x12 => (intro w _; go_simp; try with_reducible rfl)
        simp only [Act.put, List.setIfInBounds_toArray, List.set_cons_zero, List.set_cons_succ]
        refine wpAnyH_done (by kernel_rfl) ?_ _
        clear hHeld
        have hm : W9.heap[zb]? = _ := HZ9.out
        obtain ⟨m_0, m_1, m_2, m_3, m_4, m_5, m_6, m_7, m_8, m_9, m_10, m_11, m_12⟩ := row_cells hm
        clear hm
        go_wp2_with fail
        refine (copyCh_any 0 0 0 (.slice none 0 0) 0 0 0 0 0 0 0 ⟨#[]⟩ ⟨#[]⟩ [] _ (IsI.non 0)).mono ?_
        rintro e w9 ⟨v9, rfl, ho9, hb9⟩
        have HRa : Hid (RowZ (w.heap.size + 1) w9) := HR9.out.below hb9
        have HBa : Hid (BelowH w w9) := BelowH.below HB9.out hb9
        have hsz : w.heap.size + 1 < W9.heap.size := row_lt HR9.out
        obtain ⟨a9, c9, e9⟩ := ho9.form
        subst e9
        have HOa : Hid (OwnI w.heap.size w9 (.slice a9 ([] : List Int).length c9) [] ∧ ∀ k, (Value.slice a9 ([] : List Int).length c9).ownBlock = some k → w.heap.size + 1 < k) := ⟨ho9.low (by omega), fun k e => by have := ho9.block k e; omega⟩
        have hzr : w9.heap[w.heap.size + 1]? = _ := HRa.out
        obtain ⟨z_0, z_1, z_2, z_3, z_4, z_5, z_6, z_7, z_8, z_9, z_10, z_11, z_12⟩ := row_cells hzr
        have fz := row_free hzr
        clear ho9 hb9 hzr m_0 m_1 m_2 m_3 m_4 m_5 m_6 m_7 m_8 m_9 m_10 m_11 m_12
        go_wp2
        (try simp only [Exit.inBlock, Exit.then])
        refine bodyPost_ret (results_cell_row2 rfl _ _ (w.heap.size + 1) _ _ _ _ rfl (row_set13 HRa.out) Tryz.underlying34 rfl (by kernel_rfl) rfl) rfl ?_
        exact ⟨_, rfl, own13f HOa.out.1 HOa.out.2, below13 HBa.out (by omega)⟩
    · have HZ0 : Hid (w.heap.size + 1 < Un3u1.heap.size) := row_lt HRz.out
      go_simp
      refine hK.out _ _ ((Below.block ((Below.refl _ Un3u1).alloc (Nat.le_refl _) _) _ (row_lt hHeld)).trans hHeld) (fun hHeld2 => ?_)
      clear hK K hHeld
      have hHeld := hHeld2
      clear hHeld2
      (try simp only [Act.put, List.setIfInBounds_toArray, List.set_cons_zero, List.set_cons_succ])
      obtain ⟨Un3u9, eW⟩ : ∃ X, X = Un3u1.alloc (.cells #[.int .i64 0, .int .i64 0, .int .i64 0, .slice none 0 0, .int .i64 0, .int .i64 0, .int .i64 0, .int .i64 0, .int .i64 0, .int .i64 0, .int .i64 0, .string ⟨#[]⟩, .string ⟨#[]⟩] 34) := ⟨_, rfl⟩
      have hb : Below Un3u1.heap.size Un3u1 Un3u9 := by rw [eW]; exact (Below.refl _ _).alloc (Nat.le_refl _) _
      replace HRz : Hid (RowZ (w.heap.size + 1) Un3u9) := HRz.out.below hb
      replace HBw : Hid (BelowH w Un3u9) := HBw.out.below hb
      replace HLx : Hid (LogIs F' Un3u9 lb 0 [] mb ord own D) := HLx.out.below hb
      obtain ⟨zb, ezb⟩ : ∃ b, b = Un3u1.heap.size := ⟨_, rfl⟩
      rw [← eW] at hHeld ⊢
      (try rw [← ezb])
      have HZ : Hid (RowZ zb Un3u9) := by rw [ezb, eW]; exact heap_alloc_new _ _
      have HZn : Hid (w.heap.size + 1 < zb) := by rw [ezb]; exact HZ0.out
      clear eW
      clear ezb
      clear hb
      refine wpAnyH_ready (rs := [4]) (by kernel_rfl) (by simp) ?_
      refine AllReadyH.cons (o := ⟨some 13, _, _, _, _, _⟩) rfl (fun K hK => ?_) AllReadyH.nil
      have lc1 := HLx.out.cell1
      go_simp
      refine hK.out _ _ (hHeld) (fun hHeld2 => ?_)
      clear hK K hHeld
      have hHeld := hHeld2
      clear hHeld2
      (try simp only [Act.put, List.setIfInBounds_toArray, List.set_cons_zero, List.set_cons_succ])
      clear lc1
      refine wpAnyH_ready (rs := [6]) (by kernel_rfl) (by simp) ?_
      refine AllReadyH.cons (o := ⟨some 15, _, _, _, _, _⟩) rfl (fun K hK => ?_) AllReadyH.nil
      have hlk : (Instr.lookup 76 (.map (some mb)) (.agg #[.int .i64 c, .int .i64 r]) true).run Tryz.prog Un3u9 = .ok (.tuple #[.agg #[.int .i64 0, .int .i64 0, .int .i64 0, .slice none 0 0, .int .i64 0, .int .i64 0, .int .i64 0, .int .i64 0, .int .i64 0, .int .i64 0, .int .i64 0, .string ⟨#[]⟩, .string ⟨#[]⟩], .bool false]) Un3u9 := by have h0 := look_st HLx.out.hmap c r; rw [HD0.out] at h0; exact h0
      go_simp
      refine hK.out _ _ (hHeld) (fun hHeld2 => ?_)
      clear hK K hHeld
      have hHeld := hHeld2
      clear hHeld2
      (try simp only [Act.put, List.setIfInBounds_toArray, List.set_cons_zero, List.set_cons_succ])
      clear hlk
      refine wpAnyH_take (i := 7) (oi := ⟨some 8, _, _, _, _, _⟩) (v := ?vn3u_1_10_4_6x7) rfl (by kernel_rfl) (by kernel_rfl) (by kernel_rfl) (fun _ _ _ h => h) (Or.inl ⟨by rfl, ?hyn3u_1_10_4_6x7⟩) hHeld ?restn3u_1_10_4_6x7
      case hyn3u_1_10_4_6x7 => (intro w _; go_simp; try with_reducible rfl)
      simp only [Act.put, List.setIfInBounds_toArray, List.set_cons_zero, List.set_cons_succ]
      refine wpAnyH_take (i := 8) (oi := ⟨some 16, _, _, _, _, _⟩) (v := ?vn3u_1_10_4_6x8) rfl (by kernel_rfl) (by kernel_rfl) (by kernel_rfl) (fun _ _ _ h => h) (Or.inl ⟨by rfl, ?hyn3u_1_10_4_6x8⟩) hHeld ?restn3u_1_10_4_6x8
      case hyn3u_1_10_4_6x8 => (intro w _; go_simp; try with_reducible rfl)
      simp only [Act.put, List.setIfInBounds_toArray, List.set_cons_zero, List.set_cons_succ]
      refine wpAnyH_take (i := 9) (oi := ⟨some 17, _, _, _, _, _⟩) (v := ?vn3u_1_10_4_6x9) rfl (by kernel_rfl) (by kernel_rfl) (by kernel_rfl) (fun _ _ _ h => h) (Or.inl ⟨by rfl, ?hyn3u_1_10_4_6x9⟩) hHeld ?restn3u_1_10_4_6x9
      case hyn3u_1_10_4_6x9 => (intro w _; go_simp; try with_reducible rfl)
      simp only [Act.put, List.setIfInBounds_toArray, List.set_cons_zero, List.set_cons_succ]
      refine wpAnyH_ready (rs := [11]) (by kernel_rfl) (by simp) ?_
      refine AllReadyH.cons (o := ⟨none, _, _, _, _, _⟩) rfl (fun K hK => ?_) AllReadyH.nil
      have hzr : Un3u9.heap[zb]? = _ := HZ.out
      obtain ⟨z_0, z_1, z_2, z_3, z_4, z_5, z_6, z_7, z_8, z_9, z_10, z_11, z_12⟩ := row_cells hzr
      have fz := row_free hzr
      have hzn := HZn.out
      clear hzr
      go_simp
      refine hK.out _ _ ((far13 (by omega)).trans hHeld) (fun hHeld2 => ?_)
      clear hK K hHeld
      have hHeld := hHeld2
      clear hHeld2
      (try simp only [Act.put, List.setIfInBounds_toArray, List.set_cons_zero, List.set_cons_succ])
      have HZ9 : Hid (RowZ zb (((((((((((((Un3u9.setCell ⟨zb, 0, none⟩ (.int .i64 0)).setCell ⟨zb, 1, none⟩ (.int .i64 0)).setCell ⟨zb, 2, none⟩ (.int .i64 0)).setCell ⟨zb, 3, none⟩ (.slice none 0 0)).setCell ⟨zb, 4, none⟩ (.int .i64 0)).setCell ⟨zb, 5, none⟩ (.int .i64 0)).setCell ⟨zb, 6, none⟩ (.int .i64 0)).setCell ⟨zb, 7, none⟩ (.int .i64 0)).setCell ⟨zb, 8, none⟩ (.int .i64 0)).setCell ⟨zb, 9, none⟩ (.int .i64 0)).setCell ⟨zb, 10, none⟩ (.int .i64 0)).setCell ⟨zb, 11, none⟩ (.string ⟨#[]⟩)).setCell ⟨zb, 12, none⟩ (.string ⟨#[]⟩))) := row_set13 HZ.out
      have HR9 : Hid (RowZ (w.heap.size + 1) (((((((((((((Un3u9.setCell ⟨zb, 0, none⟩ (.int .i64 0)).setCell ⟨zb, 1, none⟩ (.int .i64 0)).setCell ⟨zb, 2, none⟩ (.int .i64 0)).setCell ⟨zb, 3, none⟩ (.slice none 0 0)).setCell ⟨zb, 4, none⟩ (.int .i64 0)).setCell ⟨zb, 5, none⟩ (.int .i64 0)).setCell ⟨zb, 6, none⟩ (.int .i64 0)).setCell ⟨zb, 7, none⟩ (.int .i64 0)).setCell ⟨zb, 8, none⟩ (.int .i64 0)).setCell ⟨zb, 9, none⟩ (.int .i64 0)).setCell ⟨zb, 10, none⟩ (.int .i64 0)).setCell ⟨zb, 11, none⟩ (.string ⟨#[]⟩)).setCell ⟨zb, 12, none⟩ (.string ⟨#[]⟩))) := (far13 (by omega)).trans HRz.out
      have HB9 : Hid (BelowH w (((((((((((((Un3u9.setCell ⟨zb, 0, none⟩ (.int .i64 0)).setCell ⟨zb, 1, none⟩ (.int .i64 0)).setCell ⟨zb, 2, none⟩ (.int .i64 0)).setCell ⟨zb, 3, none⟩ (.slice none 0 0)).setCell ⟨zb, 4, none⟩ (.int .i64 0)).setCell ⟨zb, 5, none⟩ (.int .i64 0)).setCell ⟨zb, 6, none⟩ (.int .i64 0)).setCell ⟨zb, 7, none⟩ (.int .i64 0)).setCell ⟨zb, 8, none⟩ (.int .i64 0)).setCell ⟨zb, 9, none⟩ (.int .i64 0)).setCell ⟨zb, 10, none⟩ (.int .i64 0)).setCell ⟨zb, 11, none⟩ (.string ⟨#[]⟩)).setCell ⟨zb, 12, none⟩ (.string ⟨#[]⟩))) := below13 HBw.out (by omega)
      obtain ⟨W9, eW9⟩ : ∃ X, X = (((((((((((((Un3u9.setCell ⟨zb, 0, none⟩ (.int .i64 0)).setCell ⟨zb, 1, none⟩ (.int .i64 0)).setCell ⟨zb, 2, none⟩ (.int .i64 0)).setCell ⟨zb, 3, none⟩ (.slice none 0 0)).setCell ⟨zb, 4, none⟩ (.int .i64 0)).setCell ⟨zb, 5, none⟩ (.int .i64 0)).setCell ⟨zb, 6, none⟩ (.int .i64 0)).setCell ⟨zb, 7, none⟩ (.int .i64 0)).setCell ⟨zb, 8, none⟩ (.int .i64 0)).setCell ⟨zb, 9, none⟩ (.int .i64 0)).setCell ⟨zb, 10, none⟩ (.int .i64 0)).setCell ⟨zb, 11, none⟩ (.string ⟨#[]⟩)).setCell ⟨zb, 12, none⟩ (.string ⟨#[]⟩)) := ⟨_, rfl⟩
      rw [← eW9] at HZ9 HR9 HB9 hHeld ⊢
      clear eW9 z_0 z_1 z_2 z_3 z_4 z_5 z_6 z_7 z_8 z_9 z_10 z_11 z_12 fz
      refine wpAnyH_take (i := 12) (oi := ⟨some 7, _, _, _, _, _⟩) (v := ?vn3u_1_10_4_6_11x12) rfl (by kernel_rfl) (by kernel_rfl) (by kernel_rfl) (fun _ _ _ h => h) (Or.inl ⟨by rfl, ?hyn3u_1_10_4_6_11x12⟩) hHeld ?restn3u_1_10_4_6_11x12
      case hyn3u_1_10_4_6_11x12 => (intro w _; go_simp; try with_reducible rfl)
      simp only [Act.put, List.setIfInBounds_toArray, List.set_cons_zero, List.set_cons_succ]
      refine wpAnyH_done (by kernel_rfl) ?_ _
      clear hHeld
      have hm : W9.heap[zb]? = _ := HZ9.out
      obtain ⟨m_0, m_1, m_2, m_3, m_4, m_5, m_6, m_7, m_8, m_9, m_10, m_11, m_12⟩ := row_cells hm
      clear hm
      go_wp2_with fail
      refine (copyCh_any 0 0 0 (.slice none 0 0) 0 0 0 0 0 0 0 ⟨#[]⟩ ⟨#[]⟩ [] _ (IsI.non 0)).mono ?_
      rintro e w9 ⟨v9, rfl, ho9, hb9⟩
      have HRa : Hid (RowZ (w.heap.size + 1) w9) := HR9.out.below hb9
      have HBa : Hid (BelowH w w9) := BelowH.below HB9.out hb9
      have hsz : w.heap.size + 1 < W9.heap.size := row_lt HR9.out
      obtain ⟨a9, c9, e9⟩ := ho9.form
      subst e9
      have HOa : Hid (OwnI w.heap.size w9 (.slice a9 ([] : List Int).length c9) [] ∧ ∀ k, (Value.slice a9 ([] : List Int).length c9).ownBlock = some k → w.heap.size + 1 < k) := ⟨ho9.low (by omega), fun k e => by have := ho9.block k e; omega⟩
      have hzr : w9.heap[w.heap.size + 1]? = _ := HRa.out
      obtain ⟨z_0, z_1, z_2, z_3, z_4, z_5, z_6, z_7, z_8, z_9, z_10, z_11, z_12⟩ := row_cells hzr
      have fz := row_free hzr
      clear ho9 hb9 hzr m_0 m_1 m_2 m_3 m_4 m_5 m_6 m_7 m_8 m_9 m_10 m_11 m_12
      go_wp2
      (try simp only [Exit.inBlock, Exit.then])
      refine bodyPost_ret (results_cell_row2 rfl _ _ (w.heap.size + 1) _ _ _ _ rfl (row_set13 HRa.out) Tryz.underlying34 rfl (by kernel_rfl) rfl) rfl ?_
      exact ⟨_, rfl, own13f HOa.out.1 HOa.out.2, below13 HBa.out (by omega)⟩
  · have HZ0 : Hid (w.heap.size + 1 < Un3u0.heap.size) := row_lt HRz.out
    go_simp
    refine hK.out _ _ ((Below.block ((Below.refl _ Un3u0).alloc (Nat.le_refl _) _) _ (row_lt hHeld)).trans hHeld) (fun hHeld2 => ?_)
    clear hK K hHeld
    have hHeld := hHeld2
    clear hHeld2
    (try simp only [Act.put, List.setIfInBounds_toArray, List.set_cons_zero, List.set_cons_succ])
    obtain ⟨Un3u13, eW⟩ : ∃ X, X = Un3u0.alloc (.cells #[.int .i64 0, .int .i64 0, .int .i64 0, .slice none 0 0, .int .i64 0, .int .i64 0, .int .i64 0, .int .i64 0, .int .i64 0, .int .i64 0, .int .i64 0, .string ⟨#[]⟩, .string ⟨#[]⟩] 34) := ⟨_, rfl⟩
    have hb : Below Un3u0.heap.size Un3u0 Un3u13 := by rw [eW]; exact (Below.refl _ _).alloc (Nat.le_refl _) _
    replace HRz : Hid (RowZ (w.heap.size + 1) Un3u13) := HRz.out.below hb
    replace HBw : Hid (BelowH w Un3u13) := HBw.out.below hb
    obtain ⟨zb, ezb⟩ : ∃ b, b = Un3u0.heap.size := ⟨_, rfl⟩
    rw [← eW] at hHeld ⊢
    (try rw [← ezb])
    have HZ : Hid (RowZ zb Un3u13) := by rw [ezb, eW]; exact heap_alloc_new _ _
    have HZn : Hid (w.heap.size + 1 < zb) := by rw [ezb]; exact HZ0.out
    clear eW
    clear ezb
    clear hb
    refine wpAnyH_ready (rs := [1]) (by kernel_rfl) (by simp) ?_
    refine AllReadyH.cons (o := ⟨some 10, _, _, _, _, _⟩) rfl (fun K hK => ?_) AllReadyH.nil
    go_simp
    refine (orEmpty_any (.pointer none) 0 [] (fun _ => False) _ (.inr ⟨rfl, rfl, rfl, fun _ h => h.elim⟩)).mono ?_
    rintro e Un3u14 ⟨lb, F', rfl, ⟨mb, ord, own, D, h1⟩, hb, _⟩
    (try go_wp2_with fail)
    refine hK.out _ _ ((hb.block _ (row_lt hHeld)).trans hHeld) (fun hHeld2 => ?_)
    clear hK K hHeld
    have hHeld := hHeld2
    clear hHeld2
    (try simp only [Act.put, List.setIfInBounds_toArray, List.set_cons_zero, List.set_cons_succ])
    replace HRz : Hid (RowZ (w.heap.size + 1) Un3u14) := HRz.out.below hb
    replace HBw : Hid (BelowH w Un3u14) := HBw.out.below hb
    replace HZ : Hid (RowZ zb Un3u14) := HZ.out.below hb
    have HLx : Hid (LogIs F' Un3u14 lb 0 [] mb ord own D) := h1
    have HD0 : Hid (getD D c r = none) := by have hD := getD_get HLx.out (by exact List.Pairwise.nil) c r; rcases hD with ⟨x, _, h9, _⟩ | ⟨h9, _⟩; (simp [getL] at h9); exact h9
    clear h1
    clear hb
    refine wpAnyH_take (i := 2) (oi := ⟨some 11, _, _, _, _, _⟩) (v := ?vn3u_10_1x2) rfl (by kernel_rfl) (by kernel_rfl) (by kernel_rfl) (fun _ _ _ h => h) (Or.inl ⟨by rfl, ?hyn3u_10_1x2⟩) hHeld ?restn3u_10_1x2
    case hyn3u_10_1x2 => (intro w hSw; (try dsimp only at hSw); have hsb := hSw; obtain ⟨s_0, s_1, _, _⟩ := row2_cells hsb; go_simp; try with_reducible rfl)
    simp only [Act.put, List.setIfInBounds_toArray, List.set_cons_zero, List.set_cons_succ]
    refine wpAnyH_take (i := 3) (oi := ⟨some 12, _, _, _, _, _⟩) (v := ?vn3u_10_1x3) rfl (by kernel_rfl) (by kernel_rfl) (by kernel_rfl) (fun _ _ _ h => h) (Or.inl ⟨by rfl, ?hyn3u_10_1x3⟩) hHeld ?restn3u_10_1x3
    case hyn3u_10_1x3 => (intro w _; go_simp; try with_reducible rfl)
    simp only [Act.put, List.setIfInBounds_toArray, List.set_cons_zero, List.set_cons_succ]
    refine wpAnyH_ready (rs := [4]) (by kernel_rfl) (by simp) ?_
    refine AllReadyH.cons (o := ⟨some 13, _, _, _, _, _⟩) rfl (fun K hK => ?_) AllReadyH.nil
    have lc1 := HLx.out.cell1
    go_simp
    refine hK.out _ _ (hHeld) (fun hHeld2 => ?_)
    clear hK K hHeld
    have hHeld := hHeld2
    clear hHeld2
    (try simp only [Act.put, List.setIfInBounds_toArray, List.set_cons_zero, List.set_cons_succ])
    clear lc1
    refine wpAnyH_ready (rs := [6]) (by kernel_rfl) (by simp) ?_
    refine AllReadyH.cons (o := ⟨some 15, _, _, _, _, _⟩) rfl (fun K hK => ?_) AllReadyH.nil
    have hlk : (Instr.lookup 76 (.map (some mb)) (.agg #[.int .i64 c, .int .i64 r]) true).run Tryz.prog Un3u14 = .ok (.tuple #[.agg #[.int .i64 0, .int .i64 0, .int .i64 0, .slice none 0 0, .int .i64 0, .int .i64 0, .int .i64 0, .int .i64 0, .int .i64 0, .int .i64 0, .int .i64 0, .string ⟨#[]⟩, .string ⟨#[]⟩], .bool false]) Un3u14 := by have h0 := look_st HLx.out.hmap c r; rw [HD0.out] at h0; exact h0
    go_simp
    refine hK.out _ _ (hHeld) (fun hHeld2 => ?_)
    clear hK K hHeld
    have hHeld := hHeld2
    clear hHeld2
    (try simp only [Act.put, List.setIfInBounds_toArray, List.set_cons_zero, List.set_cons_succ])
    clear hlk
    refine wpAnyH_take (i := 7) (oi := ⟨some 8, _, _, _, _, _⟩) (v := ?vn3u_10_1_4_6x7) rfl (by kernel_rfl) (by kernel_rfl) (by kernel_rfl) (fun _ _ _ h => h) (Or.inl ⟨by rfl, ?hyn3u_10_1_4_6x7⟩) hHeld ?restn3u_10_1_4_6x7
    case hyn3u_10_1_4_6x7 => (intro w _; go_simp; try with_reducible rfl)
    simp only [Act.put, List.setIfInBounds_toArray, List.set_cons_zero, List.set_cons_succ]
    refine wpAnyH_take (i := 8) (oi := ⟨some 16, _, _, _, _, _⟩) (v := ?vn3u_10_1_4_6x8) rfl (by kernel_rfl) (by kernel_rfl) (by kernel_rfl) (fun _ _ _ h => h) (Or.inl ⟨by rfl, ?hyn3u_10_1_4_6x8⟩) hHeld ?restn3u_10_1_4_6x8
    case hyn3u_10_1_4_6x8 => (intro w _; go_simp; try with_reducible rfl)
    simp only [Act.put, List.setIfInBounds_toArray, List.set_cons_zero, List.set_cons_succ]
    refine wpAnyH_take (i := 9) (oi := ⟨some 17, _, _, _, _, _⟩) (v := ?vn3u_10_1_4_6x9) rfl (by kernel_rfl) (by kernel_rfl) (by kernel_rfl) (fun _ _ _ h => h) (Or.inl ⟨by rfl, ?hyn3u_10_1_4_6x9⟩) hHeld ?restn3u_10_1_4_6x9
    case hyn3u_10_1_4_6x9 => (intro w _; go_simp; try with_reducible rfl)
    simp only [Act.put, List.setIfInBounds_toArray, List.set_cons_zero, List.set_cons_succ]
    refine wpAnyH_ready (rs := [11]) (by kernel_rfl) (by simp) ?_
    refine AllReadyH.cons (o := ⟨none, _, _, _, _, _⟩) rfl (fun K hK => ?_) AllReadyH.nil
    have hzr : Un3u14.heap[zb]? = _ := HZ.out
    obtain ⟨z_0, z_1, z_2, z_3, z_4, z_5, z_6, z_7, z_8, z_9, z_10, z_11, z_12⟩ := row_cells hzr
    have fz := row_free hzr
    have hzn := HZn.out
    clear hzr
    go_simp
    refine hK.out _ _ ((far13 (by omega)).trans hHeld) (fun hHeld2 => ?_)
    clear hK K hHeld
    have hHeld := hHeld2
    clear hHeld2
    (try simp only [Act.put, List.setIfInBounds_toArray, List.set_cons_zero, List.set_cons_succ])
    have HZ9 : Hid (RowZ zb (((((((((((((Un3u14.setCell ⟨zb, 0, none⟩ (.int .i64 0)).setCell ⟨zb, 1, none⟩ (.int .i64 0)).setCell ⟨zb, 2, none⟩ (.int .i64 0)).setCell ⟨zb, 3, none⟩ (.slice none 0 0)).setCell ⟨zb, 4, none⟩ (.int .i64 0)).setCell ⟨zb, 5, none⟩ (.int .i64 0)).setCell ⟨zb, 6, none⟩ (.int .i64 0)).setCell ⟨zb, 7, none⟩ (.int .i64 0)).setCell ⟨zb, 8, none⟩ (.int .i64 0)).setCell ⟨zb, 9, none⟩ (.int .i64 0)).setCell ⟨zb, 10, none⟩ (.int .i64 0)).setCell ⟨zb, 11, none⟩ (.string ⟨#[]⟩)).setCell ⟨zb, 12, none⟩ (.string ⟨#[]⟩))) := row_set13 HZ.out
    have HR9 : Hid (RowZ (w.heap.size + 1) (((((((((((((Un3u14.setCell ⟨zb, 0, none⟩ (.int .i64 0)).setCell ⟨zb, 1, none⟩ (.int .i64 0)).setCell ⟨zb, 2, none⟩ (.int .i64 0)).setCell ⟨zb, 3, none⟩ (.slice none 0 0)).setCell ⟨zb, 4, none⟩ (.int .i64 0)).setCell ⟨zb, 5, none⟩ (.int .i64 0)).setCell ⟨zb, 6, none⟩ (.int .i64 0)).setCell ⟨zb, 7, none⟩ (.int .i64 0)).setCell ⟨zb, 8, none⟩ (.int .i64 0)).setCell ⟨zb, 9, none⟩ (.int .i64 0)).setCell ⟨zb, 10, none⟩ (.int .i64 0)).setCell ⟨zb, 11, none⟩ (.string ⟨#[]⟩)).setCell ⟨zb, 12, none⟩ (.string ⟨#[]⟩))) := (far13 (by omega)).trans HRz.out
    have HB9 : Hid (BelowH w (((((((((((((Un3u14.setCell ⟨zb, 0, none⟩ (.int .i64 0)).setCell ⟨zb, 1, none⟩ (.int .i64 0)).setCell ⟨zb, 2, none⟩ (.int .i64 0)).setCell ⟨zb, 3, none⟩ (.slice none 0 0)).setCell ⟨zb, 4, none⟩ (.int .i64 0)).setCell ⟨zb, 5, none⟩ (.int .i64 0)).setCell ⟨zb, 6, none⟩ (.int .i64 0)).setCell ⟨zb, 7, none⟩ (.int .i64 0)).setCell ⟨zb, 8, none⟩ (.int .i64 0)).setCell ⟨zb, 9, none⟩ (.int .i64 0)).setCell ⟨zb, 10, none⟩ (.int .i64 0)).setCell ⟨zb, 11, none⟩ (.string ⟨#[]⟩)).setCell ⟨zb, 12, none⟩ (.string ⟨#[]⟩))) := below13 HBw.out (by omega)
    obtain ⟨W9, eW9⟩ : ∃ X, X = (((((((((((((Un3u14.setCell ⟨zb, 0, none⟩ (.int .i64 0)).setCell ⟨zb, 1, none⟩ (.int .i64 0)).setCell ⟨zb, 2, none⟩ (.int .i64 0)).setCell ⟨zb, 3, none⟩ (.slice none 0 0)).setCell ⟨zb, 4, none⟩ (.int .i64 0)).setCell ⟨zb, 5, none⟩ (.int .i64 0)).setCell ⟨zb, 6, none⟩ (.int .i64 0)).setCell ⟨zb, 7, none⟩ (.int .i64 0)).setCell ⟨zb, 8, none⟩ (.int .i64 0)).setCell ⟨zb, 9, none⟩ (.int .i64 0)).setCell ⟨zb, 10, none⟩ (.int .i64 0)).setCell ⟨zb, 11, none⟩ (.string ⟨#[]⟩)).setCell ⟨zb, 12, none⟩ (.string ⟨#[]⟩)) := ⟨_, rfl⟩
    rw [← eW9] at HZ9 HR9 HB9 hHeld ⊢
    clear eW9 z_0 z_1 z_2 z_3 z_4 z_5 z_6 z_7 z_8 z_9 z_10 z_11 z_12 fz
    refine wpAnyH_take (i := 12) (oi := ⟨some 7, _, _, _, _, _⟩) (v := ?vn3u_10_1_4_6_11x12) rfl (by kernel_rfl) (by kernel_rfl) (by kernel_rfl) (fun _ _ _ h => h) (Or.inl ⟨by rfl, ?hyn3u_10_1_4_6_11x12⟩) hHeld ?restn3u_10_1_4_6_11x12
    case hyn3u_10_1_4_6_11x12 => (intro w _; go_simp; try with_reducible rfl)
    simp only [Act.put, List.setIfInBounds_toArray, List.set_cons_zero, List.set_cons_succ]
    refine wpAnyH_done (by kernel_rfl) ?_ _
    clear hHeld
    have hm : W9.heap[zb]? = _ := HZ9.out
    obtain ⟨m_0, m_1, m_2, m_3, m_4, m_5, m_6, m_7, m_8, m_9, m_10, m_11, m_12⟩ := row_cells hm
    clear hm
    go_wp2_with fail
    refine (copyCh_any 0 0 0 (.slice none 0 0) 0 0 0 0 0 0 0 ⟨#[]⟩ ⟨#[]⟩ [] _ (IsI.non 0)).mono ?_
    rintro e w9 ⟨v9, rfl, ho9, hb9⟩
    have HRa : Hid (RowZ (w.heap.size + 1) w9) := HR9.out.below hb9
    have HBa : Hid (BelowH w w9) := BelowH.below HB9.out hb9
    have hsz : w.heap.size + 1 < W9.heap.size := row_lt HR9.out
    obtain ⟨a9, c9, e9⟩ := ho9.form
    subst e9
    have HOa : Hid (OwnI w.heap.size w9 (.slice a9 ([] : List Int).length c9) [] ∧ ∀ k, (Value.slice a9 ([] : List Int).length c9).ownBlock = some k → w.heap.size + 1 < k) := ⟨ho9.low (by omega), fun k e => by have := ho9.block k e; omega⟩
    have hzr : w9.heap[w.heap.size + 1]? = _ := HRa.out
    obtain ⟨z_0, z_1, z_2, z_3, z_4, z_5, z_6, z_7, z_8, z_9, z_10, z_11, z_12⟩ := row_cells hzr
    have fz := row_free hzr
    clear ho9 hb9 hzr m_0 m_1 m_2 m_3 m_4 m_5 m_6 m_7 m_8 m_9 m_10 m_11 m_12
    go_wp2
    (try simp only [Exit.inBlock, Exit.then])
    refine bodyPost_ret (results_cell_row2 rfl _ _ (w.heap.size + 1) _ _ _ _ rfl (row_set13 HRa.out) Tryz.underlying34 rfl (by kernel_rfl) rfl) rfl ?_
    exact ⟨_, rfl, own13f HOa.out.1 HOa.out.2, below13 HBa.out (by omega)⟩

theorem whyR_no (c : Ch) : whyR [] 0 c ≠ 0 := fun h => by
  have h1 := addL_room (Z := []) (room := 0) (c := c) (by simp)
  unfold addL at h1
  rw [if_pos h] at h1
  simp [putC] at h1

set_option maxRecDepth 100000 in
set_option maxHeartbeats 8000000 in
theorem addNil_any (ac ar sq : Int) (dv : Value) (kd nc nr pc pr fc fr : Int) (nm vl : ByteArray) (ds : List Int) (w : World) (hd : IsI w dv ds) (hsz : Sized (⟨ac, ar, sq, ds, kd, nc, nr, pc, pr, fc, fr, nm, vl⟩ : Ch)) :
    Calls Tryz.prog 13 #[.pointer none, .agg #[.int .i64 ac, .int .i64 ar, .int .i64 sq, dv, .int .i64 kd, .int .i64 nc, .int .i64 nr, .int .i64 pc, .int .i64 pr, .int .i64 fc, .int .i64 fr, .string nm, .string vl]] w fun e w' => e = .returned (.int .i64 (whyR [] 0 (⟨ac, ar, sq, ds, kd, nc, nr, pc, pr, fc, fr, nm, vl⟩ : Ch))) ∧ Below w.heap.size w w' := by
  obtain ⟨a0, c0, e0⟩ := hd.form
  subst e0
  obtain ⟨W0, eW⟩ : ∃ X, X = w.alloc (.cells #[.int .i64 ac, .int .i64 ar, .int .i64 sq, .slice a0 ds.length c0, .int .i64 kd, .int .i64 nc, .int .i64 nr, .int .i64 pc, .int .i64 pr, .int .i64 fc, .int .i64 fr, .string nm, .string vl] 34) := ⟨_, rfl⟩
  have hb0 : Below w.heap.size w W0 := by rw [eW]; exact (Below.refl _ _).alloc (Nat.le_refl _) _
  have HK : Hid (W0.heap[w.heap.size]? = some (.cells #[.int .i64 ac, .int .i64 ar, .int .i64 sq, .slice a0 ds.length c0, .int .i64 kd, .int .i64 nc, .int .i64 nr, .int .i64 pc, .int .i64 pr, .int .i64 fc, .int .i64 fr, .string nm, .string vl] 34)) := by rw [eW]; exact heap_alloc_new _ _
  have HI : Hid (IsI W0 (.slice a0 ds.length c0) ds) := hd.below hb0
  have HBw : Hid (BelowH w W0) := hb0
  have HSz : Hid (Sized (⟨ac, ar, sq, ds, kd, nc, nr, pc, pr, fc, fr, nm, vl⟩ : Ch)) := hsz
  have HW : Hid (whyR [] 0 (⟨ac, ar, sq, ds, kd, nc, nr, pc, pr, fc, fr, nm, vl⟩ : Ch) ≠ 0) := whyR_no _
  clear hd hb0
  go_enter Tryz.func13, Tryz.ntmps13
  go_upto_region 1 with fail
  rw [← eW]
  clear eW
  refine wp_region_held_drew (S := fun W' => W'.heap[w.heap.size]? = some (.cells #[.int .i64 ac, .int .i64 ar, .int .i64 sq, .slice a0 ds.length c0, .int .i64 kd, .int .i64 nc, .int .i64 nr, .int .i64 pc, .int .i64 pr, .int .i64 fc, .int .i64 fr, .string nm, .string vl] 34)) (by kernel_rfl) HK.out (fun hHeld => ?_)
  obtain ⟨Ua4u0, eW⟩ : ∃ X, X = W0.drew := ⟨_, rfl⟩
  have hb : Below W0.heap.size W0 Ua4u0 := by rw [eW]; exact (Below.refl _ _).drew
  replace HI : Hid (IsI Ua4u0 (.slice a0 ds.length c0) ds) := HI.out.below hb
  replace HBw : Hid (BelowH w Ua4u0) := HBw.out.below hb
  rw [← eW] at hHeld ⊢
  clear eW hb
  refine wpAnyH_take (i := 0) (oi := ⟨some 6, _, _, _, _, _⟩) (v := ?va4ux0) rfl (by kernel_rfl) (by kernel_rfl) (by kernel_rfl) (fun _ _ _ h => h) (Or.inl ⟨by rfl, ?hya4ux0⟩) hHeld ?resta4ux0
  case hya4ux0 => (intro w _; go_simp; try with_reducible rfl)
  simp only [Act.put, List.setIfInBounds_toArray, List.set_cons_zero, List.set_cons_succ]
  refine wpAnyH_take (i := 2) (oi := ⟨some 8, _, _, _, _, _⟩) (v := ?va4ux2) rfl (by kernel_rfl) (by kernel_rfl) (by kernel_rfl) (fun _ _ _ h => h) (Or.inl ⟨by rfl, ?hya4ux2⟩) hHeld ?resta4ux2
  case hya4ux2 => (intro w hSw; (try dsimp only at hSw); have hk := hSw; obtain ⟨k_0, k_1, k_2, k_3, k_4, k_5, k_6, k_7, k_8, k_9, k_10, k_11, k_12⟩ := row_cells hk; go_simp; try with_reducible rfl)
  simp only [Act.put, List.setIfInBounds_toArray, List.set_cons_zero, List.set_cons_succ]
  refine wpAnyH_ready (rs := [1]) (by kernel_rfl) (by simp) ?_
  refine AllReadyH.cons (o := ⟨some 7, _, _, _, _, _⟩) rfl (fun K hK => ?_) AllReadyH.nil
  go_simp
  refine (orEmpty_any (.pointer none) 0 [] (fun _ => False) _ (.inr ⟨rfl, rfl, rfl, fun _ h => h.elim⟩)).mono ?_
  rintro e Ua4u1 ⟨lb, F', rfl, h1, hb, _⟩
  (try go_wp2_with fail)
  refine hK.out _ _ ((hb.block _ (row_lt hHeld)).trans hHeld) (fun hHeld2 => ?_)
  clear hK K hHeld
  have hHeld := hHeld2
  clear hHeld2
  (try simp only [Act.put, List.setIfInBounds_toArray, List.set_cons_zero, List.set_cons_succ])
  replace HI : Hid (IsI Ua4u1 (.slice a0 ds.length c0) ds) := HI.out.below hb
  replace HBw : Hid (BelowH w Ua4u1) := HBw.out.below hb
  have HLo : Hid (LogOk F' Ua4u1 lb 0 []) := h1
  clear h1
  clear hb
  refine wpAnyH_ready (rs := [3]) (by kernel_rfl) (by simp) ?_
  refine AllReadyH.cons (o := ⟨some 9, _, _, _, _, _⟩) rfl (fun K hK => ?_) AllReadyH.nil
  go_simp
  refine (logCheck_any F' lb 0 [] ac ar sq (.slice a0 ds.length c0) kd nc nr pc pr fc fr nm vl ds _ HLo.out Good.none (by simp) HI.out HSz.out.1).mono ?_
  rintro e Ua4u2 ⟨rfl, hb⟩
  (try go_wp2_with fail)
  refine hK.out _ _ ((hb.block _ (row_lt hHeld)).trans hHeld) (fun hHeld2 => ?_)
  clear hK K hHeld
  have hHeld := hHeld2
  clear hHeld2
  (try simp only [Act.put, List.setIfInBounds_toArray, List.set_cons_zero, List.set_cons_succ])
  replace HI : Hid (IsI Ua4u2 (.slice a0 ds.length c0) ds) := HI.out.below hb
  replace HBw : Hid (BelowH w Ua4u2) := HBw.out.below hb
  replace HLo : Hid (LogOk F' Ua4u2 lb 0 []) := HLo.out.below hb
  clear hb
  refine wpAnyH_take (i := 4) (oi := ⟨some 5, _, _, _, _, _⟩) (v := ?va4u_1_3x4) rfl (by kernel_rfl) (by kernel_rfl) (by kernel_rfl) (fun _ _ _ h => h) (Or.inl ⟨by rfl, ?hya4u_1_3x4⟩) hHeld ?resta4u_1_3x4
  case hya4u_1_3x4 => (intro w _; go_simp; try with_reducible rfl)
  simp only [Act.put, List.setIfInBounds_toArray, List.set_cons_zero, List.set_cons_succ]
  refine wpAnyH_done (by kernel_rfl) ?_ _
  clear hHeld
  obtain ⟨we, hwe⟩ : ∃ x, x = whyR [] 0 (⟨ac, ar, sq, ds, kd, nc, nr, pc, pr, fc, fr, nm, vl⟩ : Ch) := ⟨_, rfl⟩
  have hq := HW.out
  rw [← hwe] at hq
  (try rw [← hwe])
  have HWE : Hid (we = whyR [] 0 (⟨ac, ar, sq, ds, kd, nc, nr, pc, pr, fc, fr, nm, vl⟩ : Ch)) := hwe
  have hq2 : (we == 0) = false := by simpa using hq
  clear hq hwe
  go_wp2
  go_ret
  exact ⟨by rw [← HWE.out]; rfl, HBw.out⟩

set_option maxHeartbeats 1000000 in
theorem cloneNil_any (w : World) : Calls Tryz.prog 28 #[.pointer none] w fun e w' => e = .returned (.pointer none) ∧ Below w.heap.size w w' := by
  go_enter Tryz.func28, Tryz.ntmps28
  go_wp2
  go_ret
  exact ⟨rfl, Below.refl _ _⟩

end Go.Proofs.YtckipepodohnpaaGreat

namespace Go.Proofs.YtckipepodohnpaaGreat
open Go.RowKit
set_option linter.unusedVariables false
set_option linter.unusedSimpArgs false

/-- A block's cells. -/
structure RowX (b : Nat) (cs : Array Value) (t : TypeId) (W : World) : Prop where
  out : W.heap[b]? = some (.cells cs t)
theorem RowX.below {b : Nat} {cs : Array Value} {t : TypeId} {W W' : World} (h : RowX b cs t W) (hb : Below W.heap.size W W') : RowX b cs t W' := ⟨(hb.block _ (row_lt h.out)).trans h.out⟩
theorem sinceR_none (kn : List Int) : sinceR [] kn 1 = ([], false, checkL kn) := by
  unfold sinceR
  by_cases h : checkL kn = 0
  · rw [if_neg (Decidable.not_not.2 h), if_neg (by omega), h]; rfl
  · rw [if_pos h]

set_option maxRecDepth 100000 in
set_option maxHeartbeats 16000000 in
theorem nilLaw_any (ac ar sq : Int) (dv : Value) (kd nc nr pc pr fc fr : Int) (nm vl : ByteArray) (ds : List Int) (kv : Value) (kn : List Int) (w : World) (h : IsI w dv ds) (hn : nm.size ≤ 281474976710656) (hv : vl.size ≤ 281474976710656) (hk : IsI w kv kn) :
    Calls Tryz.prog 8 #[.agg #[.int .i64 ac, .int .i64 ar, .int .i64 sq, dv, .int .i64 kd, .int .i64 nc, .int .i64 nr, .int .i64 pc, .int .i64 pr, .int .i64 fc, .int .i64 fr, .string nm, .string vl], kv] w fun e w' => e = .returned (.bool true) ∧ Below w.heap.size w w' := by
  obtain ⟨a0, c0, e0⟩ := h.form
  subst e0
  obtain ⟨ak, ck, ek⟩ := hk.form
  subst ek
  have HSz : Hid (Sized (⟨ac, ar, sq, ds, kd, nc, nr, pc, pr, fc, fr, nm, vl⟩ : Ch)) := ⟨hn, hv⟩
  obtain ⟨W0, eW⟩ : ∃ X, X = w.alloc (.cells #[.int .i64 ac, .int .i64 ar, .int .i64 sq, .slice a0 ds.length c0, .int .i64 kd, .int .i64 nc, .int .i64 nr, .int .i64 pc, .int .i64 pr, .int .i64 fc, .int .i64 fr, .string nm, .string vl] 34) := ⟨_, rfl⟩
  obtain ⟨cb, ecb⟩ : ∃ b, b = w.heap.size := ⟨_, rfl⟩
  have hb0 : Below w.heap.size w W0 := by rw [eW]; exact (Below.refl _ _).alloc (Nat.le_refl _) _
  have HC0 : Hid (RowX cb #[.int .i64 ac, .int .i64 ar, .int .i64 sq, .slice a0 ds.length c0, .int .i64 kd, .int .i64 nc, .int .i64 nr, .int .i64 pc, .int .i64 pr, .int .i64 fc, .int .i64 fr, .string nm, .string vl] 34 W0) := ⟨by rw [eW, ecb]; exact heap_alloc_new _ _⟩
  have HI0 : Hid (IsI W0 (.slice a0 ds.length c0) ds) := h.below hb0
  have HK0 : Hid (IsI W0 (.slice ak kn.length ck) kn) := hk.below hb0
  clear h hk hn hv
  go_enter Tryz.func8, Tryz.ntmps8
  go_wp2_with fail
  rw [← eW, ← ecb]
  clear eW ecb
  refine (callsIn_wide.1 (since_in 5 (Nat.le_refl _) (.pointer none) 0 [] (fun _ => False) _ kn 1 _ (.inr ⟨rfl, rfl, rfl, fun _ h => h.elim⟩) List.Pairwise.nil (by simp) HK0.out)).mono ?_
  rintro e w1 ⟨v1, E, rfl, hE, hO1, _, hb1⟩
  rw [sinceR_none] at hE ⊢
  have hE0 : E = [] := by simpa using hE
  subst hE0
  obtain ⟨a1, c1, e1⟩ := hO1.form
  simp only [List.length_nil] at e1
  subst e1
  simp only
  have HC1 : Hid (RowX cb #[.int .i64 ac, .int .i64 ar, .int .i64 sq, .slice a0 ds.length c0, .int .i64 kd, .int .i64 nc, .int .i64 nr, .int .i64 pc, .int .i64 pr, .int .i64 fc, .int .i64 fr, .string nm, .string vl] 34 w1) := HC0.out.below hb1
  have HI1 : Hid (IsI w1 (.slice a0 ds.length c0) ds) := HI0.out.below hb1
  have HK1 : Hid (IsI w1 (.slice ak kn.length ck) kn) := HK0.out.below hb1
  have HB1 : Hid (Below w.heap.size w w1) := hb0.trans (hb1.mono hb0.size)
  obtain ⟨c_0, c_1, c_2, c_3, c_4, c_5, c_6, c_7, c_8, c_9, c_10, c_11, c_12⟩ := row_cells HC1.out.out
  clear hE hO1 hb1 HC0 HI0 HK0 hb0
  go_wp2_with fail
  refine (findNil_any ac ar _).mono ?_
  rintro e w2 ⟨v3, rfl, ho3, hb2⟩
  simp only [zeroC] at ho3
  simp only [chV, chCells, zeroC]
  obtain ⟨a3, c3, e3⟩ := ho3.form
  simp only [List.length_nil] at e3
  subst e3
  obtain ⟨W3, eW3⟩ : ∃ X, X = w2.alloc (.cells #[.int .i64 0, .int .i64 0, .int .i64 0, .slice a3 0 c3, .int .i64 0, .int .i64 0, .int .i64 0, .int .i64 0, .int .i64 0, .int .i64 0, .int .i64 0, .string ⟨#[]⟩, .string ⟨#[]⟩] 34) := ⟨_, rfl⟩
  obtain ⟨db, edb⟩ : ∃ b, b = w2.heap.size := ⟨_, rfl⟩
  have hb3 : Below w2.heap.size w2 W3 := by rw [eW3]; exact (Below.refl _ _).alloc (Nat.le_refl _) _
  have hb13 : Below w1.heap.size w1 W3 := hb2.trans (hb3.mono hb2.size)
  have HD3 : Hid (RowX db #[.int .i64 0, .int .i64 0, .int .i64 0, .slice a3 0 c3, .int .i64 0, .int .i64 0, .int .i64 0, .int .i64 0, .int .i64 0, .int .i64 0, .int .i64 0, .string ⟨#[]⟩, .string ⟨#[]⟩] 34 W3) := ⟨by rw [edb, eW3]; exact heap_alloc_new _ _⟩
  have HC3 : Hid (RowX cb #[.int .i64 ac, .int .i64 ar, .int .i64 sq, .slice a0 ds.length c0, .int .i64 kd, .int .i64 nc, .int .i64 nr, .int .i64 pc, .int .i64 pr, .int .i64 fc, .int .i64 fr, .string nm, .string vl] 34 W3) := HC1.out.below hb13
  have HI3 : Hid (IsI W3 (.slice a0 ds.length c0) ds) := HI1.out.below hb13
  have HK3 : Hid (IsI W3 (.slice ak kn.length ck) kn) := HK1.out.below hb13
  have HV3 : Hid (IsI W3 (.slice a3 0 c3) []) := (ho3.isI (by simp)).below hb3
  have HB3 : Hid (Below w.heap.size w W3) := HB1.out.trans (hb13.mono HB1.out.size)
  clear ho3 hb2 hb3 hb13 HC1 HI1 HK1 HB1 c_0 c_1 c_2 c_3 c_4 c_5 c_6 c_7 c_8 c_9 c_10 c_11 c_12
  go_wp2_with fail
  rw [← eW3]
  refine (ownNil_any _).mono ?_
  rintro e w4 ⟨v4, rfl, ho4, hb4⟩
  (try rw [← edb])
  clear eW3 edb
  simp only [zeroC] at ho4
  simp only [chV, chCells, zeroC]
  obtain ⟨a4, c4, e4⟩ := ho4.form
  simp only [List.length_nil] at e4
  subst e4
  obtain ⟨W5, eW5⟩ : ∃ X, X = w4.alloc (.cells #[.int .i64 0, .int .i64 0, .int .i64 0, .slice a4 0 c4, .int .i64 0, .int .i64 0, .int .i64 0, .int .i64 0, .int .i64 0, .int .i64 0, .int .i64 0, .string ⟨#[]⟩, .string ⟨#[]⟩] 34) := ⟨_, rfl⟩
  have hb5 : Below w4.heap.size w4 W5 := by rw [eW5]; exact (Below.refl _ _).alloc (Nat.le_refl _) _
  have hb35 : Below W3.heap.size W3 W5 := hb4.trans (hb5.mono hb4.size)
  have HDr : Hid (RowX db #[.int .i64 0, .int .i64 0, .int .i64 0, .slice a3 0 c3, .int .i64 0, .int .i64 0, .int .i64 0, .int .i64 0, .int .i64 0, .int .i64 0, .int .i64 0, .string ⟨#[]⟩, .string ⟨#[]⟩] 34 W5) := HD3.out.below hb35
  have HCr : Hid (RowX cb #[.int .i64 ac, .int .i64 ar, .int .i64 sq, .slice a0 ds.length c0, .int .i64 kd, .int .i64 nc, .int .i64 nr, .int .i64 pc, .int .i64 pr, .int .i64 fc, .int .i64 fr, .string nm, .string vl] 34 W5) := HC3.out.below hb35
  have HIc : Hid (IsI W5 (.slice a0 ds.length c0) ds) := HI3.out.below hb35
  have HKn : Hid (IsI W5 (.slice ak kn.length ck) kn) := HK3.out.below hb35
  have HId : Hid (IsI W5 (.slice a3 0 c3) []) := HV3.out.below hb35
  have HB5 : Hid (Below w.heap.size w W5) := HB3.out.trans (hb35.mono HB3.out.size)
  clear ho4 hb4 hb5 hb35 HD3 HC3 HI3 HK3 HV3 HB3
  go_wp2_with fail
  rw [← eW5]
  refine (refCheck_any _ _ _ HKn.out).mono ?_
  rintro e w' ⟨rfl, hw⟩
  replace hw := hw.symm
  subst hw
  clear eW5
  generalize checkL kn = ck at *
  go_upto_region 6 with fail
  refine wp_region_held_drew (S := fun W' => BelowH W5 W') (by kernel_rfl) ((Below.refl _ _).drew) (fun hHeld => ?_)
  obtain ⟨Un3u0, eW⟩ : ∃ X, X = W5.drew := ⟨_, rfl⟩
  have hb : Below W5.heap.size W5 Un3u0 := by rw [eW]; exact (Below.refl _ _).drew
  rw [← eW] at hHeld ⊢
  clear eW hb
  refine wpAnyH_take (i := 0) (oi := ⟨some 35, _, _, _, _, _⟩) (v := ?vn3ux0) rfl (by kernel_rfl) (by kernel_rfl) (by kernel_rfl) (fun _ _ _ h => h) (Or.inl ⟨by rfl, ?hyn3ux0⟩) hHeld ?restn3ux0
  case hyn3ux0 => (intro w _; go_simp; try with_reducible rfl)
  simp only [Act.put, List.setIfInBounds_toArray, List.set_cons_zero, List.set_cons_succ]
  refine wpAnyH_take (i := 1) (oi := ⟨some 36, _, _, _, _, _⟩) (v := ?vn3ux1) rfl (by kernel_rfl) (by kernel_rfl) (by kernel_rfl) (fun _ _ _ h => h) (Or.inl ⟨by rfl, ?hyn3ux1⟩) hHeld ?restn3ux1
  case hyn3ux1 => (intro w hSw; (try dsimp only at hSw); have hk := hSw; have cr := (HCr.out.below hSw).out; obtain ⟨c_0, c_1, c_2, c_3, c_4, c_5, c_6, c_7, c_8, c_9, c_10, c_11, c_12⟩ := row_cells cr; have dr := (HDr.out.below hSw).out; obtain ⟨d_0, d_1, d_2, d_3, d_4, d_5, d_6, d_7, d_8, d_9, d_10, d_11, d_12⟩ := row_cells dr; go_simp; try with_reducible rfl)
  simp only [Act.put, List.setIfInBounds_toArray, List.set_cons_zero, List.set_cons_succ]
  refine wpAnyH_take (i := 3) (oi := ⟨some 38, _, _, _, _, _⟩) (v := ?vn3ux3) rfl (by kernel_rfl) (by kernel_rfl) (by kernel_rfl) (fun _ _ _ h => h) (Or.inl ⟨by rfl, ?hyn3ux3⟩) hHeld ?restn3ux3
  case hyn3ux3 => (intro w hSw; (try dsimp only at hSw); have hk := hSw; have cr := (HCr.out.below hSw).out; obtain ⟨c_0, c_1, c_2, c_3, c_4, c_5, c_6, c_7, c_8, c_9, c_10, c_11, c_12⟩ := row_cells cr; have dr := (HDr.out.below hSw).out; obtain ⟨d_0, d_1, d_2, d_3, d_4, d_5, d_6, d_7, d_8, d_9, d_10, d_11, d_12⟩ := row_cells dr; go_simp; try with_reducible rfl)
  simp only [Act.put, List.setIfInBounds_toArray, List.set_cons_zero, List.set_cons_succ]
  refine wpAnyH_ready (rs := [2]) (by kernel_rfl) (by simp) ?_
  refine AllReadyH.cons (o := ⟨some 37, _, _, _, _, _⟩) rfl (fun K hK => ?_) AllReadyH.nil
  go_simp
  refine (addNil_any ac ar sq (.slice a0 ds.length c0) kd nc nr pc pr fc fr nm vl ds _ (IsI.below HIc.out hHeld) HSz.out).mono ?_
  rintro e Un3u1 ⟨rfl, hb⟩
  (try go_wp2_with fail)
  refine hK.out _ _ (BelowH.below hHeld hb) (fun hHeld2 => ?_)
  clear hK K hHeld
  have hHeld := hHeld2
  clear hHeld2
  (try simp only [Act.put, List.setIfInBounds_toArray, List.set_cons_zero, List.set_cons_succ])
  clear hb
  refine wpAnyH_ready (rs := [4]) (by kernel_rfl) (by simp) ?_
  refine AllReadyH.cons (o := ⟨some 39, _, _, _, _, _⟩) rfl (fun K hK => ?_) AllReadyH.nil
  go_simp
  refine (refWhy_any (.slice none 0 0) [] 0 ac ar sq (.slice a0 ds.length c0) kd nc nr pc pr fc fr nm vl ds _ (IsH.non 0) (IsI.below HIc.out hHeld) HSz.out).mono ?_
  rintro e Un3u2 ⟨rfl, hb⟩
  (try go_wp2_with fail)
  refine hK.out _ _ (BelowH.below hHeld hb) (fun hHeld2 => ?_)
  clear hK K hHeld
  have hHeld := hHeld2
  clear hHeld2
  (try simp only [Act.put, List.setIfInBounds_toArray, List.set_cons_zero, List.set_cons_succ])
  clear hb
  refine wpAnyH_take (i := 5) (oi := ⟨some 40, _, _, _, _, _⟩) (v := ?vn3u_2_4x5) rfl (by kernel_rfl) (by kernel_rfl) (by kernel_rfl) (fun _ _ _ h => h) (Or.inl ⟨by rfl, ?hyn3u_2_4x5⟩) hHeld ?restn3u_2_4x5
  case hyn3u_2_4x5 => (intro w hSw; (try dsimp only at hSw); have hk := hSw; have cr := (HCr.out.below hSw).out; obtain ⟨c_0, c_1, c_2, c_3, c_4, c_5, c_6, c_7, c_8, c_9, c_10, c_11, c_12⟩ := row_cells cr; have dr := (HDr.out.below hSw).out; obtain ⟨d_0, d_1, d_2, d_3, d_4, d_5, d_6, d_7, d_8, d_9, d_10, d_11, d_12⟩ := row_cells dr; go_simp; try with_reducible rfl)
  simp only [Act.put, List.setIfInBounds_toArray, List.set_cons_zero, List.set_cons_succ]
  refine wpAnyH_take (i := 6) (oi := ⟨some 41, _, _, _, _, _⟩) (v := ?vn3u_2_4x6) rfl (by kernel_rfl) (by kernel_rfl) (by kernel_rfl) (fun _ _ _ h => h) (Or.inl ⟨by rfl, ?hyn3u_2_4x6⟩) hHeld ?restn3u_2_4x6
  case hyn3u_2_4x6 => (intro w _; go_simp; try with_reducible rfl)
  simp only [Act.put, List.setIfInBounds_toArray, List.set_cons_zero, List.set_cons_succ]
  refine wpAnyH_take (i := 7) (oi := ⟨some 42, _, _, _, _, _⟩) (v := ?vn3u_2_4x7) rfl (by kernel_rfl) (by kernel_rfl) (by kernel_rfl) (fun _ _ _ h => h) (Or.inl ⟨by rfl, ?hyn3u_2_4x7⟩) hHeld ?restn3u_2_4x7
  case hyn3u_2_4x7 => (intro w _; go_simp; try with_reducible rfl)
  simp only [Act.put, List.setIfInBounds_toArray, List.set_cons_zero, List.set_cons_succ]
  refine wpAnyH_take (i := 8) (oi := ⟨some 43, _, _, _, _, _⟩) (v := ?vn3u_2_4x8) rfl (by kernel_rfl) (by kernel_rfl) (by kernel_rfl) (fun _ _ _ h => h) (Or.inl ⟨by rfl, ?hyn3u_2_4x8⟩) hHeld ?restn3u_2_4x8
  case hyn3u_2_4x8 => (intro w hSw; (try dsimp only at hSw); have hk := hSw; have cr := (HCr.out.below hSw).out; obtain ⟨c_0, c_1, c_2, c_3, c_4, c_5, c_6, c_7, c_8, c_9, c_10, c_11, c_12⟩ := row_cells cr; have dr := (HDr.out.below hSw).out; obtain ⟨d_0, d_1, d_2, d_3, d_4, d_5, d_6, d_7, d_8, d_9, d_10, d_11, d_12⟩ := row_cells dr; go_simp; try with_reducible rfl)
  simp only [Act.put, List.setIfInBounds_toArray, List.set_cons_zero, List.set_cons_succ]
  refine wpAnyH_ready (rs := [9]) (by kernel_rfl) (by simp) ?_
  refine AllReadyH.cons (o := ⟨some 44, _, _, _, _, _⟩) rfl (fun K hK => ?_) AllReadyH.nil
  go_simp
  refine (told_any (fun _ => False) (.pointer none) 0 [] (.slice none 0 0) _ (.inr ⟨rfl, rfl, rfl, fun _ h => h.elim⟩) (IsH.non 0) Good.none (by simp)).mono ?_
  rintro e Un3u3 ⟨rfl, hb⟩
  (try go_wp2_with fail)
  refine hK.out _ _ (BelowH.below hHeld hb) (fun hHeld2 => ?_)
  clear hK K hHeld
  have hHeld := hHeld2
  clear hHeld2
  (try simp only [Act.put, List.setIfInBounds_toArray, List.set_cons_zero, List.set_cons_succ])
  clear hb
  refine wpAnyH_take (i := 10) (oi := ⟨some 45, _, _, _, _, _⟩) (v := ?vn3u_2_4_9x10) rfl (by kernel_rfl) (by kernel_rfl) (by kernel_rfl) (fun _ _ _ h => h) (Or.inl ⟨by rfl, ?hyn3u_2_4_9x10⟩) hHeld ?restn3u_2_4_9x10
  case hyn3u_2_4_9x10 => (intro w _; go_simp; try with_reducible rfl)
  simp only [Act.put, List.setIfInBounds_toArray, List.set_cons_zero, List.set_cons_succ]
  refine wpAnyH_take (i := 11) (oi := ⟨some 46, _, _, _, _, _⟩) (v := ?vn3u_2_4_9x11) rfl (by kernel_rfl) (by kernel_rfl) (by kernel_rfl) (fun _ _ _ h => h) (Or.inl ⟨by rfl, ?hyn3u_2_4_9x11⟩) hHeld ?restn3u_2_4_9x11
  case hyn3u_2_4_9x11 => (intro w _; go_simp; try with_reducible rfl)
  simp only [Act.put, List.setIfInBounds_toArray, List.set_cons_zero, List.set_cons_succ]
  refine wpAnyH_take (i := 12) (oi := ⟨some 47, _, _, _, _, _⟩) (v := ?vn3u_2_4_9x12) rfl (by kernel_rfl) (by kernel_rfl) (by kernel_rfl) (fun _ _ _ h => h) (Or.inl ⟨by rfl, ?hyn3u_2_4_9x12⟩) hHeld ?restn3u_2_4_9x12
  case hyn3u_2_4_9x12 => (intro w _; go_simp; try with_reducible rfl)
  simp only [Act.put, List.setIfInBounds_toArray, List.set_cons_zero, List.set_cons_succ]
  refine wpAnyH_take (i := 13) (oi := ⟨some 48, _, _, _, _, _⟩) (v := ?vn3u_2_4_9x13) rfl (by kernel_rfl) (by kernel_rfl) (by kernel_rfl) (fun _ _ _ h => h) (Or.inl ⟨by rfl, ?hyn3u_2_4_9x13⟩) hHeld ?restn3u_2_4_9x13
  case hyn3u_2_4_9x13 => (intro w hSw; (try dsimp only at hSw); have hk := hSw; have cr := (HCr.out.below hSw).out; obtain ⟨c_0, c_1, c_2, c_3, c_4, c_5, c_6, c_7, c_8, c_9, c_10, c_11, c_12⟩ := row_cells cr; have dr := (HDr.out.below hSw).out; obtain ⟨d_0, d_1, d_2, d_3, d_4, d_5, d_6, d_7, d_8, d_9, d_10, d_11, d_12⟩ := row_cells dr; go_simp; try with_reducible rfl)
  simp only [Act.put, List.setIfInBounds_toArray, List.set_cons_zero, List.set_cons_succ]
  refine wpAnyH_take (i := 14) (oi := ⟨some 49, _, _, _, _, _⟩) (v := ?vn3u_2_4_9x14) rfl (by kernel_rfl) (by kernel_rfl) (by kernel_rfl) (fun _ _ _ h => h) (Or.inl ⟨by rfl, ?hyn3u_2_4_9x14⟩) hHeld ?restn3u_2_4_9x14
  case hyn3u_2_4_9x14 => (intro w hSw; (try dsimp only at hSw); have hk := hSw; have cr := (HCr.out.below hSw).out; obtain ⟨c_0, c_1, c_2, c_3, c_4, c_5, c_6, c_7, c_8, c_9, c_10, c_11, c_12⟩ := row_cells cr; have dr := (HDr.out.below hSw).out; obtain ⟨d_0, d_1, d_2, d_3, d_4, d_5, d_6, d_7, d_8, d_9, d_10, d_11, d_12⟩ := row_cells dr; go_simp; try with_reducible rfl)
  simp only [Act.put, List.setIfInBounds_toArray, List.set_cons_zero, List.set_cons_succ]
  refine wpAnyH_take (i := 15) (oi := ⟨some 50, _, _, _, _, _⟩) (v := ?vn3u_2_4_9x15) rfl (by kernel_rfl) (by kernel_rfl) (by kernel_rfl) (fun _ _ _ h => h) (Or.inl ⟨by rfl, ?hyn3u_2_4_9x15⟩) hHeld ?restn3u_2_4_9x15
  case hyn3u_2_4_9x15 => (intro w _; go_simp; try with_reducible rfl)
  simp only [Act.put, List.setIfInBounds_toArray, List.set_cons_zero, List.set_cons_succ]
  refine wpAnyH_take (i := 16) (oi := ⟨some 51, _, _, _, _, _⟩) (v := ?vn3u_2_4_9x16) rfl (by kernel_rfl) (by kernel_rfl) (by kernel_rfl) (fun _ _ _ h => h) (Or.inl ⟨by rfl, ?hyn3u_2_4_9x16⟩) hHeld ?restn3u_2_4_9x16
  case hyn3u_2_4_9x16 => (intro w _; go_simp; try with_reducible rfl)
  simp only [Act.put, List.setIfInBounds_toArray, List.set_cons_zero, List.set_cons_succ]
  refine wpAnyH_take (i := 17) (oi := ⟨some 52, _, _, _, _, _⟩) (v := ?vn3u_2_4_9x17) rfl (by kernel_rfl) (by kernel_rfl) (by kernel_rfl) (fun _ _ _ h => h) (Or.inl ⟨by rfl, ?hyn3u_2_4_9x17⟩) hHeld ?restn3u_2_4_9x17
  case hyn3u_2_4_9x17 => (intro w _; go_simp; try with_reducible rfl)
  simp only [Act.put, List.setIfInBounds_toArray, List.set_cons_zero, List.set_cons_succ]
  refine wpAnyH_take (i := 18) (oi := ⟨some 53, _, _, _, _, _⟩) (v := ?vn3u_2_4_9x18) rfl (by kernel_rfl) (by kernel_rfl) (by kernel_rfl) (fun _ _ _ h => h) (Or.inl ⟨by rfl, ?hyn3u_2_4_9x18⟩) hHeld ?restn3u_2_4_9x18
  case hyn3u_2_4_9x18 => (intro w _; go_simp; try with_reducible rfl)
  simp only [Act.put, List.setIfInBounds_toArray, List.set_cons_zero, List.set_cons_succ]
  refine wpAnyH_take (i := 19) (oi := ⟨some 54, _, _, _, _, _⟩) (v := ?vn3u_2_4_9x19) rfl (by kernel_rfl) (by kernel_rfl) (by kernel_rfl) (fun _ _ _ h => h) (Or.inl ⟨by rfl, ?hyn3u_2_4_9x19⟩) hHeld ?restn3u_2_4_9x19
  case hyn3u_2_4_9x19 => (intro w _; go_simp; try with_reducible rfl)
  simp only [Act.put, List.setIfInBounds_toArray, List.set_cons_zero, List.set_cons_succ]
  refine wpAnyH_take (i := 20) (oi := ⟨some 55, _, _, _, _, _⟩) (v := ?vn3u_2_4_9x20) rfl (by kernel_rfl) (by kernel_rfl) (by kernel_rfl) (fun _ _ _ h => h) (Or.inl ⟨by rfl, ?hyn3u_2_4_9x20⟩) hHeld ?restn3u_2_4_9x20
  case hyn3u_2_4_9x20 => (intro w _; go_simp; try with_reducible rfl)
  simp only [Act.put, List.setIfInBounds_toArray, List.set_cons_zero, List.set_cons_succ]
  refine wpAnyH_take (i := 21) (oi := ⟨some 56, _, _, _, _, _⟩) (v := ?vn3u_2_4_9x21) rfl (by kernel_rfl) (by kernel_rfl) (by kernel_rfl) (fun _ _ _ h => h) (Or.inl ⟨by rfl, ?hyn3u_2_4_9x21⟩) hHeld ?restn3u_2_4_9x21
  case hyn3u_2_4_9x21 => (intro w _; go_simp; try with_reducible rfl)
  simp only [Act.put, List.setIfInBounds_toArray, List.set_cons_zero, List.set_cons_succ]
  refine wpAnyH_take (i := 22) (oi := ⟨some 57, _, _, _, _, _⟩) (v := ?vn3u_2_4_9x22) rfl (by kernel_rfl) (by kernel_rfl) (by kernel_rfl) (fun _ _ _ h => h) (Or.inl ⟨by rfl, ?hyn3u_2_4_9x22⟩) hHeld ?restn3u_2_4_9x22
  case hyn3u_2_4_9x22 => (intro w _; go_simp; try with_reducible rfl)
  simp only [Act.put, List.setIfInBounds_toArray, List.set_cons_zero, List.set_cons_succ]
  refine wpAnyH_take (i := 23) (oi := ⟨some 58, _, _, _, _, _⟩) (v := ?vn3u_2_4_9x23) rfl (by kernel_rfl) (by kernel_rfl) (by kernel_rfl) (fun _ _ _ h => h) (Or.inl ⟨by rfl, ?hyn3u_2_4_9x23⟩) hHeld ?restn3u_2_4_9x23
  case hyn3u_2_4_9x23 => (intro w hSw; (try dsimp only at hSw); have hk := hSw; have cr := (HCr.out.below hSw).out; obtain ⟨c_0, c_1, c_2, c_3, c_4, c_5, c_6, c_7, c_8, c_9, c_10, c_11, c_12⟩ := row_cells cr; have dr := (HDr.out.below hSw).out; obtain ⟨d_0, d_1, d_2, d_3, d_4, d_5, d_6, d_7, d_8, d_9, d_10, d_11, d_12⟩ := row_cells dr; go_simp; try with_reducible rfl)
  simp only [Act.put, List.setIfInBounds_toArray, List.set_cons_zero, List.set_cons_succ]
  refine wpAnyH_take (i := 24) (oi := ⟨some 59, _, _, _, _, _⟩) (v := ?vn3u_2_4_9x24) rfl (by kernel_rfl) (by kernel_rfl) (by kernel_rfl) (fun _ _ _ h => h) (Or.inl ⟨by rfl, ?hyn3u_2_4_9x24⟩) hHeld ?restn3u_2_4_9x24
  case hyn3u_2_4_9x24 => (intro w _; go_simp; try with_reducible rfl)
  simp only [Act.put, List.setIfInBounds_toArray, List.set_cons_zero, List.set_cons_succ]
  refine wpAnyH_take (i := 25) (oi := ⟨some 60, _, _, _, _, _⟩) (v := ?vn3u_2_4_9x25) rfl (by kernel_rfl) (by kernel_rfl) (by kernel_rfl) (fun _ _ _ h => h) (Or.inl ⟨by rfl, ?hyn3u_2_4_9x25⟩) hHeld ?restn3u_2_4_9x25
  case hyn3u_2_4_9x25 => (intro w _; go_simp; try with_reducible rfl)
  simp only [Act.put, List.setIfInBounds_toArray, List.set_cons_zero, List.set_cons_succ]
  refine wpAnyH_take (i := 26) (oi := ⟨some 61, _, _, _, _, _⟩) (v := ?vn3u_2_4_9x26) rfl (by kernel_rfl) (by kernel_rfl) (by kernel_rfl) (fun _ _ _ h => h) (Or.inl ⟨by rfl, ?hyn3u_2_4_9x26⟩) hHeld ?restn3u_2_4_9x26
  case hyn3u_2_4_9x26 => (intro w hSw; (try dsimp only at hSw); have hk := hSw; have cr := (HCr.out.below hSw).out; obtain ⟨c_0, c_1, c_2, c_3, c_4, c_5, c_6, c_7, c_8, c_9, c_10, c_11, c_12⟩ := row_cells cr; have dr := (HDr.out.below hSw).out; obtain ⟨d_0, d_1, d_2, d_3, d_4, d_5, d_6, d_7, d_8, d_9, d_10, d_11, d_12⟩ := row_cells dr; go_simp; try with_reducible rfl)
  simp only [Act.put, List.setIfInBounds_toArray, List.set_cons_zero, List.set_cons_succ]
  refine wpAnyH_take (i := 27) (oi := ⟨some 62, _, _, _, _, _⟩) (v := ?vn3u_2_4_9x27) rfl (by kernel_rfl) (by kernel_rfl) (by kernel_rfl) (fun _ _ _ h => h) (Or.inl ⟨by rfl, ?hyn3u_2_4_9x27⟩) hHeld ?restn3u_2_4_9x27
  case hyn3u_2_4_9x27 => (intro w hSw; (try dsimp only at hSw); have hk := hSw; have cr := (HCr.out.below hSw).out; obtain ⟨c_0, c_1, c_2, c_3, c_4, c_5, c_6, c_7, c_8, c_9, c_10, c_11, c_12⟩ := row_cells cr; have dr := (HDr.out.below hSw).out; obtain ⟨d_0, d_1, d_2, d_3, d_4, d_5, d_6, d_7, d_8, d_9, d_10, d_11, d_12⟩ := row_cells dr; go_simp; try with_reducible rfl)
  simp only [Act.put, List.setIfInBounds_toArray, List.set_cons_zero, List.set_cons_succ]
  refine wpAnyH_ready (rs := [28]) (by kernel_rfl) (by simp) ?_
  refine AllReadyH.cons (o := ⟨some 63, _, _, _, _, _⟩) rfl (fun K hK => ?_) AllReadyH.nil
  go_simp
  refine (refSameCh_eq 0 0 0 _ _ 0 0 0 0 0 0 0 ⟨#[]⟩ ⟨#[]⟩ [] _ (IsI.below HId.out hHeld) (IsI.non 0)).mono ?_
  rintro e Un3u4 ⟨rfl, hb⟩
  (try go_wp2_with fail)
  refine hK.out _ _ (BelowH.below hHeld hb) (fun hHeld2 => ?_)
  clear hK K hHeld
  have hHeld := hHeld2
  clear hHeld2
  (try simp only [Act.put, List.setIfInBounds_toArray, List.set_cons_zero, List.set_cons_succ])
  clear hb
  refine wpAnyH_take (i := 29) (oi := ⟨some 64, _, _, _, _, _⟩) (v := ?vn3u_2_4_9_28x29) rfl (by kernel_rfl) (by kernel_rfl) (by kernel_rfl) (fun _ _ _ h => h) (Or.inl ⟨by rfl, ?hyn3u_2_4_9_28x29⟩) hHeld ?restn3u_2_4_9_28x29
  case hyn3u_2_4_9_28x29 => (intro w _; go_simp; try with_reducible rfl)
  simp only [Act.put, List.setIfInBounds_toArray, List.set_cons_zero, List.set_cons_succ]
  refine wpAnyH_take (i := 30) (oi := ⟨some 65, _, _, _, _, _⟩) (v := ?vn3u_2_4_9_28x30) rfl (by kernel_rfl) (by kernel_rfl) (by kernel_rfl) (fun _ _ _ h => h) (Or.inl ⟨by rfl, ?hyn3u_2_4_9_28x30⟩) hHeld ?restn3u_2_4_9_28x30
  case hyn3u_2_4_9_28x30 => (intro w _; go_simp; try with_reducible rfl)
  simp only [Act.put, List.setIfInBounds_toArray, List.set_cons_zero, List.set_cons_succ]
  refine wpAnyH_take (i := 31) (oi := ⟨some 66, _, _, _, _, _⟩) (v := ?vn3u_2_4_9_28x31) rfl (by kernel_rfl) (by kernel_rfl) (by kernel_rfl) (fun _ _ _ h => h) (Or.inl ⟨by rfl, ?hyn3u_2_4_9_28x31⟩) hHeld ?restn3u_2_4_9_28x31
  case hyn3u_2_4_9_28x31 => (intro w _; go_simp; try with_reducible rfl)
  simp only [Act.put, List.setIfInBounds_toArray, List.set_cons_zero, List.set_cons_succ]
  refine wpAnyH_take (i := 32) (oi := ⟨some 67, _, _, _, _, _⟩) (v := ?vn3u_2_4_9_28x32) rfl (by kernel_rfl) (by kernel_rfl) (by kernel_rfl) (fun _ _ _ h => h) (Or.inl ⟨by rfl, ?hyn3u_2_4_9_28x32⟩) hHeld ?restn3u_2_4_9_28x32
  case hyn3u_2_4_9_28x32 => (intro w _; go_simp; try with_reducible rfl)
  simp only [Act.put, List.setIfInBounds_toArray, List.set_cons_zero, List.set_cons_succ]
  refine wpAnyH_take (i := 33) (oi := ⟨some 68, _, _, _, _, _⟩) (v := ?vn3u_2_4_9_28x33) rfl (by kernel_rfl) (by kernel_rfl) (by kernel_rfl) (fun _ _ _ h => h) (Or.inl ⟨by rfl, ?hyn3u_2_4_9_28x33⟩) hHeld ?restn3u_2_4_9_28x33
  case hyn3u_2_4_9_28x33 => (intro w _; go_simp; try with_reducible rfl)
  simp only [Act.put, List.setIfInBounds_toArray, List.set_cons_zero, List.set_cons_succ]
  refine wpAnyH_take (i := 34) (oi := ⟨some 69, _, _, _, _, _⟩) (v := ?vn3u_2_4_9_28x34) rfl (by kernel_rfl) (by kernel_rfl) (by kernel_rfl) (fun _ _ _ h => h) (Or.inl ⟨by rfl, ?hyn3u_2_4_9_28x34⟩) hHeld ?restn3u_2_4_9_28x34
  case hyn3u_2_4_9_28x34 => (intro w _; go_simp; try with_reducible rfl)
  simp only [Act.put, List.setIfInBounds_toArray, List.set_cons_zero, List.set_cons_succ]
  refine wpAnyH_take (i := 35) (oi := ⟨some 70, _, _, _, _, _⟩) (v := ?vn3u_2_4_9_28x35) rfl (by kernel_rfl) (by kernel_rfl) (by kernel_rfl) (fun _ _ _ h => h) (Or.inl ⟨by rfl, ?hyn3u_2_4_9_28x35⟩) hHeld ?restn3u_2_4_9_28x35
  case hyn3u_2_4_9_28x35 => (intro w _; go_simp; try with_reducible rfl)
  simp only [Act.put, List.setIfInBounds_toArray, List.set_cons_zero, List.set_cons_succ]
  refine wpAnyH_take (i := 36) (oi := ⟨some 71, _, _, _, _, _⟩) (v := ?vn3u_2_4_9_28x36) rfl (by kernel_rfl) (by kernel_rfl) (by kernel_rfl) (fun _ _ _ h => h) (Or.inl ⟨by rfl, ?hyn3u_2_4_9_28x36⟩) hHeld ?restn3u_2_4_9_28x36
  case hyn3u_2_4_9_28x36 => (intro w hSw; (try dsimp only at hSw); have hk := hSw; have cr := (HCr.out.below hSw).out; obtain ⟨c_0, c_1, c_2, c_3, c_4, c_5, c_6, c_7, c_8, c_9, c_10, c_11, c_12⟩ := row_cells cr; have dr := (HDr.out.below hSw).out; obtain ⟨d_0, d_1, d_2, d_3, d_4, d_5, d_6, d_7, d_8, d_9, d_10, d_11, d_12⟩ := row_cells dr; go_simp; try with_reducible rfl)
  simp only [Act.put, List.setIfInBounds_toArray, List.set_cons_zero, List.set_cons_succ]
  refine wpAnyH_take (i := 37) (oi := ⟨some 72, _, _, _, _, _⟩) (v := ?vn3u_2_4_9_28x37) rfl (by kernel_rfl) (by kernel_rfl) (by kernel_rfl) (fun _ _ _ h => h) (Or.inl ⟨by rfl, ?hyn3u_2_4_9_28x37⟩) hHeld ?restn3u_2_4_9_28x37
  case hyn3u_2_4_9_28x37 => (intro w _; go_simp; try with_reducible rfl)
  simp only [Act.put, List.setIfInBounds_toArray, List.set_cons_zero, List.set_cons_succ]
  refine wpAnyH_take (i := 38) (oi := ⟨some 73, _, _, _, _, _⟩) (v := ?vn3u_2_4_9_28x38) rfl (by kernel_rfl) (by kernel_rfl) (by kernel_rfl) (fun _ _ _ h => h) (Or.inl ⟨by rfl, ?hyn3u_2_4_9_28x38⟩) hHeld ?restn3u_2_4_9_28x38
  case hyn3u_2_4_9_28x38 => (intro w _; go_simp; try with_reducible rfl)
  simp only [Act.put, List.setIfInBounds_toArray, List.set_cons_zero, List.set_cons_succ]
  refine wpAnyH_take (i := 39) (oi := ⟨some 74, _, _, _, _, _⟩) (v := ?vn3u_2_4_9_28x39) rfl (by kernel_rfl) (by kernel_rfl) (by kernel_rfl) (fun _ _ _ h => h) (Or.inl ⟨by rfl, ?hyn3u_2_4_9_28x39⟩) hHeld ?restn3u_2_4_9_28x39
  case hyn3u_2_4_9_28x39 => (intro w _; go_simp; try with_reducible rfl)
  simp only [Act.put, List.setIfInBounds_toArray, List.set_cons_zero, List.set_cons_succ]
  refine wpAnyH_ready (rs := [40]) (by kernel_rfl) (by simp) ?_
  refine AllReadyH.cons (o := ⟨some 75, _, _, _, _, _⟩) rfl (fun K hK => ?_) AllReadyH.nil
  go_simp
  refine (cloneNil_any _).mono ?_
  rintro e Un3u5 ⟨rfl, hb⟩
  (try go_wp2_with fail)
  refine hK.out _ _ (BelowH.below hHeld hb) (fun hHeld2 => ?_)
  clear hK K hHeld
  have hHeld := hHeld2
  clear hHeld2
  (try simp only [Act.put, List.setIfInBounds_toArray, List.set_cons_zero, List.set_cons_succ])
  clear hb
  refine wpAnyH_take (i := 41) (oi := ⟨some 76, _, _, _, _, _⟩) (v := ?vn3u_2_4_9_28_40x41) rfl (by kernel_rfl) (by kernel_rfl) (by kernel_rfl) (fun _ _ _ h => h) (Or.inl ⟨by rfl, ?hyn3u_2_4_9_28_40x41⟩) hHeld ?restn3u_2_4_9_28_40x41
  case hyn3u_2_4_9_28_40x41 => (intro w hSw; (try dsimp only at hSw); have hk := hSw; have cr := (HCr.out.below hSw).out; obtain ⟨c_0, c_1, c_2, c_3, c_4, c_5, c_6, c_7, c_8, c_9, c_10, c_11, c_12⟩ := row_cells cr; have dr := (HDr.out.below hSw).out; obtain ⟨d_0, d_1, d_2, d_3, d_4, d_5, d_6, d_7, d_8, d_9, d_10, d_11, d_12⟩ := row_cells dr; go_simp; try with_reducible rfl)
  simp only [Act.put, List.setIfInBounds_toArray, List.set_cons_zero, List.set_cons_succ]
  refine wpAnyH_take (i := 42) (oi := ⟨some 77, _, _, _, _, _⟩) (v := ?vn3u_2_4_9_28_40x42) rfl (by kernel_rfl) (by kernel_rfl) (by kernel_rfl) (fun _ _ _ h => h) (Or.inl ⟨by rfl, ?hyn3u_2_4_9_28_40x42⟩) hHeld ?restn3u_2_4_9_28_40x42
  case hyn3u_2_4_9_28_40x42 => (intro w _; go_simp; try with_reducible rfl)
  simp only [Act.put, List.setIfInBounds_toArray, List.set_cons_zero, List.set_cons_succ]
  refine wpAnyH_take (i := 43) (oi := ⟨some 78, _, _, _, _, _⟩) (v := ?vn3u_2_4_9_28_40x43) rfl (by kernel_rfl) (by kernel_rfl) (by kernel_rfl) (fun _ _ _ h => h) (Or.inl ⟨by rfl, ?hyn3u_2_4_9_28_40x43⟩) hHeld ?restn3u_2_4_9_28_40x43
  case hyn3u_2_4_9_28_40x43 => (intro w _; go_simp; try with_reducible rfl)
  simp only [Act.put, List.setIfInBounds_toArray, List.set_cons_zero, List.set_cons_succ]
  refine wpAnyH_ready (rs := [44]) (by kernel_rfl) (by simp) ?_
  refine AllReadyH.cons (o := ⟨some 79, _, _, _, _, _⟩) rfl (fun K hK => ?_) AllReadyH.nil
  go_simp
  refine (awake_any _).mono ?_
  rintro e Un3u6 ⟨rfl, hb⟩
  (try go_wp2_with fail)
  refine hK.out _ _ (BelowH.below hHeld hb) (fun hHeld2 => ?_)
  clear hK K hHeld
  have hHeld := hHeld2
  clear hHeld2
  (try simp only [Act.put, List.setIfInBounds_toArray, List.set_cons_zero, List.set_cons_succ])
  clear hb
  refine wpAnyH_take (i := 45) (oi := ⟨some 80, _, _, _, _, _⟩) (v := ?vn3u_2_4_9_28_40_44x45) rfl (by kernel_rfl) (by kernel_rfl) (by kernel_rfl) (fun _ _ _ h => h) (Or.inl ⟨by rfl, ?hyn3u_2_4_9_28_40_44x45⟩) hHeld ?restn3u_2_4_9_28_40_44x45
  case hyn3u_2_4_9_28_40_44x45 => (intro w _; go_simp; try with_reducible rfl)
  simp only [Act.put, List.setIfInBounds_toArray, List.set_cons_zero, List.set_cons_succ]
  refine wpAnyH_take (i := 46) (oi := ⟨some 4, _, _, _, _, _⟩) (v := ?vn3u_2_4_9_28_40_44x46) rfl (by kernel_rfl) (by kernel_rfl) (by kernel_rfl) (fun _ _ _ h => h) (Or.inl ⟨by rfl, ?hyn3u_2_4_9_28_40_44x46⟩) hHeld ?restn3u_2_4_9_28_40_44x46
  case hyn3u_2_4_9_28_40_44x46 => (intro w _; go_simp; try with_reducible rfl)
  simp only [Act.put, List.setIfInBounds_toArray, List.set_cons_zero, List.set_cons_succ]
  refine wpAnyH_done (by kernel_rfl) ?_ _
  have HBe : Hid (Below w.heap.size w Un3u6) := HB5.out.trans (Below.mono hHeld HB5.out.size)
  clear hHeld
  go_wp2
  go_ret
  exact ⟨rfl, HBe.out⟩

end Go.Proofs.YtckipepodohnpaaGreat

namespace Go.Proofs.YtckipepodohnpaaGreat
open Go.ChangeShapes Go.WideShapes Go.ChangeAt Go.RowKit
open Go.ChangeMaps (open_string shut_string)
set_option linter.unusedVariables false

set_option maxRecDepth 100000 in
theorem oplogNil_lifted (os : Os) (started : os.Started) (H : Type) (enc : TypeId × Value → H) :
    ReturnsInHanded {} Tryz.checked os 8 .any (Rows.oplogNilSpec.pre6 enc Tryz.prog Tryz.f8 Rows.oplogNilRow.domain false) (Rows.oplogNilSpec.post enc Tryz.prog Tryz.f8 false true false false) := by
  refine returnsInHanded_of_change_sized (C := Tryz.checked) ownI started (by kernel_rfl) Tryz.func8
    (ChangeSpec.witness6 (enc := enc) (C := Tryz.checked) false ⟨#[], #[.agg #[.int .i64 0, .int .i64 0, .int .i64 0, .slice none 0 0, .int .i64 0, .int .i64 0, .int .i64 0, .int .i64 0, .int .i64 0, .int .i64 0, .int .i64 0, .string ByteArray.empty, .string ByteArray.empty], .slice none 0 0], []⟩ 8 (by kernel_rfl) (by kernel_rfl) (by kernel_rfl) (by kernel_rfl)) ?_
  intro W base args ds gs before hval0 hW _ hsz0 _
  have hval : ∀ (j : Nat) t v, Tryz.f8.params[j]? = some t → args[j]? = some v → Value.okWide Tryz.prog W .any base t v := hval0
  have hW' := hW
  obtain ⟨p, q, hA0, hV, rfl, hfz, hnd⟩ := hW
  have hA : DataW.TrodAll enc Tryz.prog W 0 (fun _ => true) true Tryz.f8.params.toList args.toList ds p := hA0
  rw [Tryz.params8] at hA hval
  obtain ⟨v0, v1, d0, d1, p0, p1, rfl, rfl, rfl, h0, h1⟩ := trodAll_two hA
  obtain ⟨rfl, rfl⟩ := trodVars_none hV
  have hk0 := h0
  obtain ⟨ac0, ar0, sq0, dv0, ds0, kd0, nc0, nr0, pc0, pr0, fc0, fr0, nm0, vl0, ev0, hf0, ⟨y00, y01, y02, y03, y04, y05, y06, ey0, hd0⟩, wf0⟩ := open_change (hval 0 34 v0 rfl rfl) h0
  subst ev0 ey0
  have hk1 := h1
  obtain ⟨D1, hf1, hd1⟩ := open_intsV (hval 1 32 v1 rfl rfl) h1
  have hsz : (DataW.weightsEach Tryz.prog (Tryz.f8.params.toList ++ Rows.oplogNilSpec.plain.varTypes Tryz.prog) (_ ++ _)).all (· ≤ reachBytes) = true := hsz0
  rw [Tryz.params8] at hsz
  have hst0 := sized_struct hsz (j := 0) (t := 34) rfl rfl Tryz.underlying34
  have len0 : ds0.length ≤ 17592186044416 := by
    rcases hd0 with ⟨_, rfl⟩ | ⟨els, sp, e, he⟩
    · simp
    · subst e
      have h1 := sized_slice hst0 (j := 2) (t := 32) rfl rfl Tryz.underlying32
      have h2 : reachBytes ≤ 140737488355328 := by decide
      rw [bytesInt] at h1
      omega
  have bn0 : nm0.size ≤ 281474976710656 := by
    have h1 := sized_string hst0 (j := 7) (t := 9) rfl rfl
    have h2 : reachBytes ≤ 140737488355328 := by decide
    have h3 : nm0.size = nm0.data.size := rfl
    rw [Array.length_toList] at h1
    omega
  have bv0 : vl0.size ≤ 281474976710656 := by
    have h1 := sized_string hst0 (j := 8) (t := 9) rfl rfl
    have h2 : reachBytes ≤ 140737488355328 := by decide
    have h3 : vl0.size = vl0.data.size := rfl
    rw [Array.length_toList] at h1
    omega
  have is0 : IsI W dv0 ds0 := by obtain ⟨a, cap, e, h1, h2⟩ := hf0; exact ⟨a, cap, e, h1, len0, h2⟩
  have hlt0 : ∀ x ∈ p0, x.block < W.heap.size := fun x hx => by simpa using hW'.lt x (by simp [hx])
  have len1 : D1.length ≤ 17592186044416 := by
    rcases hd1 with ⟨_, rfl⟩ | ⟨els, sp, e, he⟩
    · simp
    · subst e
      have h1 := sized_slice hsz (j := 1) (t := 32) rfl rfl Tryz.underlying32
      have h2 : reachBytes ≤ 140737488355328 := by decide
      rw [bytesInt] at h1
      omega
  have is1 : IsI W v1 D1 := by obtain ⟨a, cap, e, h1, h2⟩ := hf1; exact ⟨a, cap, e, h1, len1, h2⟩
  have hlt1 : ∀ x ∈ p1, x.block < W.heap.size := fun x hx => by simpa using hW'.lt x (by simp [hx])
  clear hA0 hval0
  refine (nilLaw_any ac0 ar0 sq0 dv0 kd0 nc0 nr0 pc0 pr0 fc0 fr0 nm0 vl0 ds0 v1 D1 W is0 bn0 bv0 is1).mono fun e W' ⟨he, bel⟩ => ?_
  subst he
  exact ⟨_, rfl, _, _, _, [], _, [], hW', trodAll_mk1 (shut_bool Tryz.underlying4 _), trodAll_mk2 (Below.trod laidOutI (by kernel_rfl) (of_decide_eq_true (by kernel_rfl)) hk0 bel hlt0) (Below.trod laidOutI (by kernel_rfl) (of_decide_eq_true (by kernel_rfl)) hk1 bel hlt1), rfl, bel.frame _, fun h => by cases h⟩

theorem oplogNil_holds : Rows.OplogNilSaid :=
  OpenClaim.holds_of_wide 8 Tryz.f8 rfl rfl rfl rfl rfl rfl rfl ⟨rfl, rfl, rfl, rfl, rfl⟩ rfl rfl rfl rfl rfl (by kernel_rfl) Tryz.func8 (by kernel_rfl)
    (of_decide_eq_true (by kernel_rfl)) (by unfold Func.isWrapper; first | (rw [if_pos (by decide +kernel)]; kernel_rfl) | (rw [if_neg (by decide +kernel)]; exact ⟨rfl, rfl⟩))
    (fun os started H enc _ => oplogNil_lifted os started H enc)
#print axioms oplogNil_holds
end Go.Proofs.YtckipepodohnpaaGreat
