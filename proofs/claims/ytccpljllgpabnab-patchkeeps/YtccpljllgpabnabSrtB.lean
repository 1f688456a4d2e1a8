/- What slices.SortFunc does at a row of stamps of the call's own, by ident.Compare: the row holds them sorted (the shelf's contract). -/
import Derived.Test.YtccpljllgpabnabSrtA
import Derived.Test.YtccpljllgpabnabWalksD
import Derived.Test.YtccpljllgpabnabLaysS
import Derived.Shelf.SlSortCmp.NoneTotal
import Derived.Lib.OwnBridge
import Derived.Lib.AppendIntMem
import Derived.Lib.SliceRun
import Derived.RangeFuncNested
import Derived.RangeFuncBound
import Derived.RangeFuncCalls
import Derived.RangeFuncLeaves
import Derived.Shelf.Abstract
import Derived.Shelf.RegionOpen
import Derived.WalkKit
import Derived.OwnWalkIn
import Derived.TacticsInMore
import Derived.LoopNIn
import Derived.LoopIn
import Derived.Maps.AppendAt
namespace Go.Proofs.Ytccpljllgpabnab.S
open Go.RowKit Go.Sort
set_option linter.unusedVariables false

def encS (x : Int × Int) : List Value := [.int .i64 x.1, .int .i64 x.2]
def cmpP (x y : Int × Int) : Int := cmpS x.1 x.2 y.1 y.2
theorem ltOf_cmpP (x y : Int × Int) : ltOf cmpP x y = lessS x.1 x.2 y.1 y.2 := lessS_cmp x.1 x.2 y.1 y.2
def ltP (x y : Int × Int) : Prop := x.1 < y.1 ∨ x.1 = y.1 ∧ x.2 < y.2
theorem lessS_ltP (x y : Int × Int) : lessS x.1 x.2 y.1 y.2 = true ↔ ltP x y := by simp [lessS, ltP]
theorem lessS_nltP (x y : Int × Int) : lessS x.1 x.2 y.1 y.2 = false ↔ ¬ ltP x y := by simp [lessS, ltP]

theorem swoP : SWO (ltOf cmpP) where
  irrefl x := by rw [ltOf_cmpP, lessS_nltP]; unfold ltP; omega
  trans x y z h1 h2 := by rw [ltOf_cmpP, lessS_ltP] at *; unfold ltP at *; omega
  ntrans x y z h1 h2 := by rw [ltOf_cmpP, lessS_nltP] at *; unfold ltP at *; omega
theorem totP (x y : Int × Int) (h1 : ltOf cmpP x y = false) (h2 : ltOf cmpP y x = false) : x = y := by
  rw [ltOf_cmpP, lessS_nltP] at h1 h2
  unfold ltP at h1 h2
  exact Prod.ext (by omega) (by omega)
/-- The stamps in their order. -/
def msort (d : List (Int × Int)) : List (Int × Int) := d.mergeSort fun x y => !(ltOf cmpP) y x
theorem msort_length (d : List (Int × Int)) : (msort d).length = d.length := by simp [msort]

set_option maxHeartbeats 400000 in
theorem compare_ex (c r c2 r2 : Int) (w : World) :
    Calls Try.prog 58 #[.agg #[.int .i64 c, .int .i64 r], .agg #[.int .i64 c2, .int .i64 r2]] w fun e w' => e = .returned (.int .i64 (cmpS c r c2 r2)) ∧ w' = (w.alloc (.cells #[.int .i64 c, .int .i64 r] 23)).alloc (.cells #[.int .i64 c2, .int .i64 r2] 23) := by
  by_cases h0 : c < c2
  · have e0 : cmpI c c2 = -1 := cmpI_lt h0
    go_enter Try.func58, Try.ntmps58
    go_wp2_with (go_at_call 74; refine (cmp_any _ _ _).mono ?_; rintro e w' ⟨rfl, rfl⟩)
    go_ret
    exact ⟨ret_int (by simp [cmpS, h0]), rfl⟩
  · by_cases h1 : c2 < c
    · have e0 : cmpI c c2 = 1 := cmpI_gt h1
      go_enter Try.func58, Try.ntmps58
      go_wp2_with (go_at_call 74; refine (cmp_any _ _ _).mono ?_; rintro e w' ⟨rfl, rfl⟩)
      go_ret
      exact ⟨ret_int (by unfold cmpS; rw [if_neg (by omega), if_pos h1]), rfl⟩
    · obtain rfl : c = c2 := by omega
      have e0 : cmpI c c = 0 := cmpI_eq c
      go_enter Try.func58, Try.ntmps58
      go_wp2_with (go_at_call 74; refine (cmp_any _ _ _).mono ?_; rintro e w' ⟨rfl, rfl⟩)
      go_ret
      exact ⟨ret_int (by simp [cmpS, cmpI]), rfl⟩

theorem cmpLaysP (blk off size : Nat) (w : World) : CmpLays Try.prog 58 #[] encS 2 cmpP blk off size w :=
  fun _ _ _ _ x y => (compare_ex x.1 x.2 y.1 y.2 _).mono fun e w' ⟨he, hw⟩ => ⟨he, 0, #[.cells #[.int .i64 x.1, .int .i64 x.2] 23] ++ #[.cells #[.int .i64 y.1, .int .i64 y.2] 23], by rw [hw, alloc_eq_grow, alloc_eq_grow, grow_grow]; rfl⟩

theorem flatK_get (d : List (Int × Int)) (j : Nat) (h : j < d.length * 2) : (flat d)[j]? = some ((flatK encS 2 d.toArray)[j]!) := by
  rw [get_flatK encS 2 d.toArray j (by simpa using h)]
  have hf := flat_get d (j / 2) (by omega)
  have e : d.toArray[j / 2]! = d[j / 2] := by rw [getElem!_pos _ _ (by simp; omega)]; simp
  rw [e]
  by_cases he : j % 2 = 0
  · have e2 : j = j / 2 * 2 := by omega
    rw [he]
    conv => lhs; rw [e2]
    rw [hf.1]; rfl
  · have e2 : j = j / 2 * 2 + 1 := by omega
    rw [show j % 2 = 1 by omega]
    conv => lhs; rw [e2]
    rw [hf.2]; rfl
theorem holdsK_own {B : Nat} {w : World} {g cap : Nat} {D : List (Int × Int)} (h : OwnS B w (.slice (some ⟨g, 0, none⟩) D.length cap) D) : HoldsK encS 2 w g 0 D.toArray := by
  intro j hj
  have hj2 : j < D.length * 2 := by simpa using hj
  rw [show 0 + j = j by omega]
  exact ⟨(World.ownsRow.cellAt h j hj2).trans (flatK_get D j hj2), World.ownsRow.frozenAt h j⟩
theorem rowF_holdsK {w : World} {g : Nat} {d : List (Int × Int)} (h : HoldsK encS 2 w g 0 d.toArray) : RowF w g d := by
  intro i hi
  have g0 := h (i * 2) (by simp; omega)
  have g1 := h (i * 2 + 1) (by simp; omega)
  have f := flat_get d i hi
  have k0 := flatK_get d (i * 2) (by omega)
  have k1 := flatK_get d (i * 2 + 1) (by omega)
  rw [show 0 + i * 2 = i * 2 by omega] at g0
  rw [show 0 + (i * 2 + 1) = i * 2 + 1 by omega] at g1
  rw [f.1] at k0
  rw [f.2] at k1
  exact ⟨⟨g0.1.trans k0.symm, g1.1.trans k1.symm⟩, g0.2, g1.2⟩

theorem sortFunc_some (B g cap : Nat) (D : List (Int × Int)) (w : World) (h : OwnS B w (.slice (some ⟨g, 0, none⟩) D.length cap) D) (hg : g < w.heap.size) (hB : B ≤ g) (hl : D.length ≤ 8796093022208) :
    Calls Try.prog 71 #[.slice (some ⟨g, 0, none⟩) D.length cap, .func (.func 58) #[] #[]] w fun e w' => e = .returned (.tuple #[]) ∧ RowF w' g (msort D) ∧ g < w'.heap.size ∧ Below B w w' := by
  have eg : ∀ args w, (callFunc 58 args).run Try.prog w = .ok (.enter 58 args) w := enters_of Try.func58 (by kernel_rfl) rfl
  have hH := holdsK_own h
  have hcon := AnyQ.slices_SortFunc_total Try.sortS 2 Try.isAgg23 Try.sizeOf23 encS (fun _ => rfl) (fun x v hv => by simp [encS] at hv; rcases hv with rfl | rfl <;> rfl) cmpP swoP 58 #[] g 0 cap D.toArray w eg (cmpLaysP g 0 _ w) hH hg (by simp; omega) totP
  refine Calls.mono (show Calls Try.prog 71 #[.slice (some ⟨g, 0, none⟩) D.length cap, .func (.func 58) #[] #[]] w _ from hcon) fun e w' ⟨he, n, os, hw⟩ => ⟨he, ?_, ?_, ?_⟩
  · rw [hw]
    exact rowF_holdsK (holdsK_sortWorldK encS 2 w g 0 n D.toArray (msort D).toArray os hg hH (by simp [msort]))
  · rw [hw]
    simp [sortWorldK, grow, size_putRowK, Sort.ahead]
    omega
  · rw [hw]
    have b1 : Below B w (putRowK encS 2 (Sort.ahead w n) g 0 (msort D).toArray) := Lib.below_putRow (Below.refl _ _) hB
    exact b1.trans (Lib.below_grow B _ (by rw [size_putRowK]; show B ≤ w.heap.size; omega) 0 os)
theorem sortFunc_none (a : Option Addr) (cap : Nat) (w : World) :
    Calls Try.prog 71 #[.slice a 0 cap, .func (.func 58) #[] #[]] w fun e w' => e = .returned (.tuple #[]) ∧ w' = w :=
  AnyF.slices_SortFunc_none Try.sortS a cap _ w

end Go.Proofs.Ytccpljllgpabnab.S

namespace Go.Proofs.Ytccpljllgpabnab.S
open Go.RowKit
set_option linter.unusedVariables false

/-- What a region of CompactFunc reads, and all that was there. -/
def KeptC (w0 : World) (g a b P : Nat) (x y x2 y2 : Int) (w : World) : Prop :=
  (w.cell? ⟨g, a, none⟩ = some (.int .i64 x) ∧ w.cell? ⟨g, a + 1, none⟩ = some (.int .i64 y) ∧ w.cell? ⟨g, b, none⟩ = some (.int .i64 x2) ∧ w.cell? ⟨g, b + 1, none⟩ = some (.int .i64 y2) ∧ w.cell? ⟨P, 0, none⟩ = some (.func (.func 58) #[] #[])) ∧ Below w0.heap.size w0 w
theorem KeptC.step {w0 : World} {g a b P : Nat} {x y x2 y2 : Int} {W w' : World} (hg : g < w0.heap.size) (hP : P < w0.heap.size) (h : KeptC w0 g a b P x y x2 y2 W) (hb : Below W.heap.size W w') : KeptC w0 g a b P x y x2 y2 w' := by
  obtain ⟨⟨h1, h2, h3, h4, h5⟩, hw⟩ := h
  have hs := hw.size
  have hg2 : g < W.heap.size := by omega
  exact ⟨⟨(hb.cell (p := ⟨g, a, none⟩) hg2).trans h1, (hb.cell (p := ⟨g, a + 1, none⟩) hg2).trans h2, (hb.cell (p := ⟨g, b, none⟩) hg2).trans h3, (hb.cell (p := ⟨g, b + 1, none⟩) hg2).trans h4, (hb.cell (p := ⟨P, 0, none⟩) (by show P < _; omega)).trans h5⟩, hw.trans (hb.mono hs)⟩

theorem belowSets {B g : Nat} {a : World} (hb : B ≤ g) : ∀ (vs : List Value) (o : Nat) (w : World), Below B a w → Below B a (w.setCells g o vs)
  | [], _, _, h => h
  | v :: r, o, w, h => belowSets hb r (o + 1) (w.setCell ⟨g, o, none⟩ v) (h.setCell hb v)
def zeros2 (n : Nat) : List Value := (Builtin.zeroCells #[.int .i64 0, .int .i64 0] n).toList
theorem zeros2_length (n : Nat) : (zeros2 n).length = n * 2 := by simp [zeros2, Builtin.zeroCells]
theorem zeros2_mem (n : Nat) (v : Value) (h : v ∈ zeros2 n) : v.oneCell' = true := by
  simp only [zeros2, Builtin.zeroCells, Array.toList_map, List.mem_map] at h
  obtain ⟨i, _, rfl⟩ := h
  have : i % 2 = 0 ∨ i % 2 = 1 := by omega
  rcases this with e | e <;> simp [e, Value.oneCell']
theorem clear_two (w : World) (g o n c : Nat) (hn : 0 < n) (hc : ∀ j, j < n * 2 → (w.cell? ⟨g, o + j, none⟩).isSome = true) (hf : ∀ j, j < n * 2 → w.frozen? ⟨g, o + j, none⟩ = false) (ty : TypeId) :
    (Builtin.clear_ #[34] ty #[.slice (some ⟨g, o, none⟩) n c]).run Try.prog w = .ok (.tuple #[]) (w.setCells g o (zeros2 n)) := by
  have ht : Try.prog.underlying 34 = some (.slice 23) := by kernel_rfl
  have hv : ∀ w, (zeroValue 23).run Try.prog w = .ok (.agg #[.int .i64 0, .int .i64 0]) w := fun w => by kernel_rfl
  have hst := run_storeCells_cells (P := Try.prog) g o (zeros2 n) 0 w (by simpa [zeros2_length] using hc) (by simpa [zeros2_length] using hf) (zeros2_mem n)
  simp only [Nat.add_zero] at hst
  have hz : (Value.agg #[.int .i64 0, .int .i64 0]).cells = #[.int .i64 0, .int .i64 0] := by kernel_rfl
  obtain ⟨m, rfl⟩ : ∃ m, n = m + 1 := ⟨n - 1, by omega⟩
  unfold zeros2 at *
  simp [Builtin.clear_, run_underlying ht, hv, hz, hst]
theorem RowF.some {w : World} {g : Nat} {d : List (Int × Int)} (h : RowF w g d) (k j : Nat) (hj : k * 2 + j < d.length * 2) : (w.cell? ⟨g, k * 2 + j, none⟩).isSome = true ∧ w.frozen? ⟨g, k * 2 + j, none⟩ = false := by
  obtain ⟨m, e⟩ : ∃ m, k * 2 + j = m * 2 ∨ k * 2 + j = m * 2 + 1 := ⟨(k * 2 + j) / 2, by omega⟩
  obtain ⟨⟨h1, h2⟩, h3, h4⟩ := h m (by omega)
  rcases e with e | e <;> rw [e] <;> simp [*]
theorem RowF.cleared {w : World} {g k : Nat} {d e : List (Int × Int)} (h : RowF w g d) (he : d.take k = e) (hk : k ≤ d.length) (vs : List Value) : RowAt (w.setCells g (k * 2) vs) g 0 e := by
  subst he
  intro i hi
  have hi2 : i < k := by simp at hi; omega
  rw [show 0 + i * 2 = i * 2 by omega]
  rw [World.cell?_setCells_out g vs (k * 2) w ⟨g, i * 2, none⟩ (fun _ _ => Or.inl (by show i * 2 < k * 2; omega)), World.cell?_setCells_out g vs (k * 2) w ⟨g, i * 2 + 1, none⟩ (fun _ _ => Or.inl (by show i * 2 + 1 < k * 2; omega))]
  simp only [List.getElem_take]
  exact (h i (by omega)).1

theorem drop_succ {E d : List (Int × Int)} {a : Nat} (h : E.drop a = d.drop a) : E.drop (a + 1) = d.drop (a + 1) := by
  have e1 : E.drop (a + 1) = (E.drop a).drop 1 := by rw [List.drop_drop]
  have e2 : d.drop (a + 1) = (d.drop a).drop 1 := by rw [List.drop_drop]
  rw [e1, e2, h]
theorem drop_get {E d : List (Int × Int)} {a i : Nat} (h : E.drop a = d.drop a) (ha : a ≤ i) (h1 : i < E.length) (h2 : i < d.length) : E[i] = d[i] := by
  have e1 : (E.drop a)[i - a]? = E[i]? := by rw [List.getElem?_drop]; congr 1; omega
  have e2 : (d.drop a)[i - a]? = d[i]? := by rw [List.getElem?_drop]; congr 1; omega
  have e3 : E[i]? = d[i]? := by rw [← e1, h, e2]
  rw [List.getElem?_eq_getElem h1, List.getElem?_eq_getElem h2] at e3
  exact Option.some.inj e3
theorem compL_one (d : List (Int × Int)) (h : 0 < d.length) : compL (d.take 1) = d.take 1 := by
  have h1 := compL_next d 0 h
  have h2 : d.take 1 = [d[0]] := by rw [List.take_succ_eq_append_getElem h]; simp
  rw [h1, h2]
  simp [compL, cstep]

set_option maxHeartbeats 4000000 in
set_option maxRecDepth 100000 in
theorem compact_walk (B g cap P : Nat) (d : List (Int × Int)) (w : World) (hd : 2 ≤ d.length) (hl : d.length ≤ 8796093022208) (hcap : d.length ≤ cap) (hr : RowF w g d) (hP : w.cell? ⟨P, 0, none⟩ = some (.func (.func 58) #[] #[])) (hPg : P ≠ g) (hPl : P < w.heap.size) (hB : B ≤ g) :
    Calls Try.prog 72 #[.slice (some ⟨g, 0, none⟩) d.length cap, .func (.func 73) #[] #[.pointer (some ⟨P, 0, none⟩)]] w fun e w' => ∃ n, e = .returned (.slice (some ⟨g, 0, none⟩) n cap) ∧ n = (compL d).length ∧ RowAt w' g 0 (compL d) ∧ Below B w w' := by
  have hg := hr.lt (by omega)
  have hd1 : decide ((d.length : Int) < 2) = false := by simp only [decide_eq_false_iff_not]; omega
  go_enter Try.func72, Try.ntmps72
  go_wp2
  go_loopw [5] (fun kv wr => ∃ j : Nat, j + 1 ≤ d.length ∧ kv = .int .i64 ((j : Int) + 1) ∧ compL (d.take (j + 1)) = d.take (j + 1) ∧ Below w.heap.size w wr) (fun kv _ => d.length - (intOf kv).toNat)
  case atStart => exact ⟨0, by omega, rfl, compL_one d (by omega), Below.refl _ _⟩
  case round =>
    obtain ⟨j, hk, rfl, hc, hb⟩ := hrel
    have HC : Hid (compL (d.take (j + 1)) = d.take (j + 1)) := hc
    clear hc
    have hr2 := hr.below hb
    have hz := hb.size
    have hP2 : wr.cell? ⟨P, 0, none⟩ = some (.func (.func 58) #[] #[]) := (hb.cell (p := ⟨P, 0, none⟩) hPl).trans hP
    by_cases hlt : j + 1 < d.length
    · obtain ⟨⟨x1, x2⟩, f1, f2⟩ := hr2 (j + 1) hlt
      obtain ⟨⟨y1, y2⟩, f3, f4⟩ := hr2 j (by omega)
      have k1 : (j : Int) + 1 < (d.length : Int) := by omega
      have k0 : (0 : Int) ≤ (j : Int) + 1 := by omega
      have k4 : ((j : Int) + 1).toNat = j + 1 := by omega
      have k2 : (0 : Int) ≤ (j : Int) := by omega
      have k5 : IntKind.i64.wrap ((j : Int) + 1 - 1) = (j : Int) := by rw [IntWalk.i64_in _ (by omega)]; omega
      have k6 : IntKind.i64.wrap (j : Int) = (j : Int) := IntWalk.i64_in _ (by omega)
      have k3 : (j : Int) < (d.length : Int) := by omega
      cases hs : sameB (d[j + 1].1, d[j + 1].2) (d[j].1, d[j].2)
      · go_wp2
        go_region_held3 (fun w' => (w'.cell? ⟨g, (j + 1) * 2, none⟩ = some (.int .i64 d[j + 1].1) ∧ w'.cell? ⟨g, (j + 1) * 2 + 1, none⟩ = some (.int .i64 d[j + 1].2) ∧ w'.cell? ⟨g, j * 2, none⟩ = some (.int .i64 d[j].1) ∧ w'.cell? ⟨g, j * 2 + 1, none⟩ = some (.int .i64 d[j].2) ∧ w'.cell? ⟨P, 0, none⟩ = some (.func (.func 58) #[] #[])) ∧ Below wr.heap.size wr w')
          (first | exact ⟨⟨x1, x2, y1, y2, hP2⟩, (Below.refl _ _).drew⟩ | exact KeptC.step (by omega) (by omega) (by assumption) hb9)
          (first
            | (go_at_call 73; refine (eq_any P _ _ _ _ _ (by exact (show KeptC wr g ((j + 1) * 2) (j * 2) P d[j + 1].1 d[j + 1].2 d[j].1 d[j].2 _ by assumption).1.2.2.2.2)).mono ?_; rintro e w' ⟨rfl, hb9⟩))
        obtain ⟨⟨s1, s2, s3, s4, s5⟩, sb⟩ : KeptC wr g ((j + 1) * 2) (j * 2) P d[j + 1].1 d[j + 1].2 d[j].1 d[j].2 _ := by assumption
        clear hb9
        go_wp2
        go_roundw
        case rel =>
          refine ⟨j + 1, by omega, by go_num, ?_, hb.trans (sb.mono hz)⟩
          rw [compL_other d j hlt (fun e => by unfold sameB at hs; simp [e] at hs), HC.out, List.take_succ_eq_append_getElem hlt]
        case measure => simp [intOf]; omega
      · go_wp2
        go_region_held3 (fun w' => (w'.cell? ⟨g, (j + 1) * 2, none⟩ = some (.int .i64 d[j + 1].1) ∧ w'.cell? ⟨g, (j + 1) * 2 + 1, none⟩ = some (.int .i64 d[j + 1].2) ∧ w'.cell? ⟨g, j * 2, none⟩ = some (.int .i64 d[j].1) ∧ w'.cell? ⟨g, j * 2 + 1, none⟩ = some (.int .i64 d[j].2) ∧ w'.cell? ⟨P, 0, none⟩ = some (.func (.func 58) #[] #[])) ∧ Below wr.heap.size wr w')
          (first | exact ⟨⟨x1, x2, y1, y2, hP2⟩, (Below.refl _ _).drew⟩ | exact KeptC.step (by omega) (by omega) (by assumption) hb9)
          (first
            | (go_at_call 73; refine (eq_any P _ _ _ _ _ (by exact (show KeptC wr g ((j + 1) * 2) (j * 2) P d[j + 1].1 d[j + 1].2 d[j].1 d[j].2 _ by assumption).1.2.2.2.2)).mono ?_; rintro e w' ⟨rfl, hb9⟩))
        obtain ⟨⟨s1, s2, s3, s4, s5⟩, sb⟩ : KeptC wr g ((j + 1) * 2) (j * 2) P d[j + 1].1 d[j + 1].2 d[j].1 d[j].2 _ := by assumption
        clear hb9
        go_wp2
        have hsd : d[j + 1] = d[j] := by have h9 := hs; unfold sameB at h9; simp at h9; exact Prod.ext h9.1 h9.2
        have hc2 : compL (d.take (j + 1 + 1)) = d.take (j + 1) := by rw [compL_same d j hlt hsd]; exact HC.out
        have HC2 : Hid (compL (d.take (j + 1 + 1)) = d.take (j + 1)) := hc2
        have hr3 := hr2.below sb
        have sz := sb.size
        have belB : Below B w w' := (hb.mono (by omega)).trans (sb.mono (by omega))
        clear hc2 hsd s1 s2 s3 s4 x1 x2 y1 y2 f1 f2 f3 f4 hs
        obtain ⟨R, hR⟩ : ∃ R, d.length - (j + 1) = R := ⟨_, rfl⟩
        have HR : Hid (j + 1 + R = d.length) := by show _ = _; omega
        rw [hR]
        clear hR
        go_loopw [5, 7] (fun kv qv wr2 => ∃ (q : Nat) (E : List (Int × Int)), q + 1 ≤ R ∧ qv = .int .i64 ((q : Int) + 1) ∧ kv = .int .i64 ((compL (d.take (j + 1 + q + 1))).length : Int) ∧ (compL (d.take (j + 1 + q + 1))).length ≤ j + 1 + q ∧ E.length = d.length ∧ RowF wr2 g E ∧ E.take (compL (d.take (j + 1 + q + 1))).length = compL (d.take (j + 1 + q + 1)) ∧ E.drop (j + 1 + q) = d.drop (j + 1 + q) ∧ wr2.cell? ⟨P, 0, none⟩ = some (.func (.func 58) #[] #[]) ∧ w.heap.size ≤ wr2.heap.size ∧ Below B w wr2) (fun _ qv _ => R - (intOf qv).toNat)
        case atStart =>
          refine ⟨0, d, by have := HR.out; omega, rfl, ?_, ?_, rfl, hr3, ?_, by simp, s5, by omega, belB⟩
          · rw [show j + 1 + 0 + 1 = j + 1 + 1 by omega, HC2.out, List.length_take, Nat.min_eq_left (by omega)]; go_num
          · rw [show j + 1 + 0 + 1 = j + 1 + 1 by omega, HC2.out, List.length_take, Nat.min_eq_left (by omega)]; omega
          · rw [show j + 1 + 0 + 1 = j + 1 + 1 by omega, HC2.out, List.length_take, Nat.min_eq_left (by omega)]
        case round =>
          obtain ⟨q, E, hq, rfl, rfl, hkk, hE, hrE, hEt, hEd, hP3, hz3, hbB⟩ := hrel
          have hgE : g < wr.heap.size := hrE.lt (by omega)
          have HE1 : Hid (E.take (compL (d.take (j + 1 + q + 1))).length = compL (d.take (j + 1 + q + 1))) := hEt
          have HE2 : Hid (E.drop (j + 1 + q) = d.drop (j + 1 + q)) := hEd
          clear hEt hEd
          by_cases hlt2 : q + 1 < R
          · have hm : j + 1 + q + 1 < d.length := by have := HR.out; omega
            have hmE : j + 1 + q + 1 < E.length := by omega
            obtain ⟨⟨x1, x2⟩, f1, f2⟩ := hrE (j + 1 + q + 1) hmE
            obtain ⟨⟨y1, y2⟩, f3, f4⟩ := hrE (j + 1 + q) (by omega)
            have eA : E[j + 1 + q + 1] = d[j + 1 + q + 1] := drop_get HE2.out (by omega) hmE hm
            have eB : E[j + 1 + q]'(by omega) = d[j + 1 + q] := drop_get HE2.out (by omega) (by omega) (by omega)
            rw [eA] at x1 x2
            rw [eB] at y1 y2
            rw [show (j + 1 + q + 1) * 2 = (j + 1) * 2 + (q + 1) * 2 by omega] at x1 x2 f1 f2
            rw [show (j + 1 + q) * 2 = (j + 1) * 2 + q * 2 by omega] at y1 y2 f3 f4
            have k1 : (q : Int) + 1 < (R : Int) := by omega
            have k0 : (0 : Int) ≤ (q : Int) + 1 := by omega
            have k4 : ((q : Int) + 1).toNat = q + 1 := by omega
            have k2 : (0 : Int) ≤ (q : Int) := by omega
            have k5 : IntKind.i64.wrap ((q : Int) + 1 - 1) = (q : Int) := by rw [IntWalk.i64_in _ (by have := HR.out; omega)]; omega
            have k6 : IntKind.i64.wrap (q : Int) = (q : Int) := IntWalk.i64_in _ (by have := HR.out; omega)
            have k3 : (q : Int) < (R : Int) := by omega
            clear eA eB
            obtain ⟨kk, hkk0⟩ : ∃ kk, (compL (d.take (j + 1 + q + 1))).length = kk := ⟨_, rfl⟩
            rw [hkk0] at hkk
            have HK : Hid ((compL (d.take (j + 1 + q + 1))).length = kk) := hkk0
            rw [hkk0]
            clear hkk0
            cases hs : sameB (d[j + 1 + q + 1].1, d[j + 1 + q + 1].2) (d[j + 1 + q].1, d[j + 1 + q].2)
            · go_wp2
              go_region_held3 (fun w' => (w'.cell? ⟨g, (j + 1) * 2 + (q + 1) * 2, none⟩ = some (.int .i64 d[j + 1 + q + 1].1) ∧ w'.cell? ⟨g, (j + 1) * 2 + (q + 1) * 2 + 1, none⟩ = some (.int .i64 d[j + 1 + q + 1].2) ∧ w'.cell? ⟨g, (j + 1) * 2 + q * 2, none⟩ = some (.int .i64 d[j + 1 + q].1) ∧ w'.cell? ⟨g, (j + 1) * 2 + q * 2 + 1, none⟩ = some (.int .i64 d[j + 1 + q].2) ∧ w'.cell? ⟨P, 0, none⟩ = some (.func (.func 58) #[] #[])) ∧ Below wr.heap.size wr w')
                (first | exact ⟨⟨x1, x2, y1, y2, hP3⟩, (Below.refl _ _).drew⟩ | exact KeptC.step (by omega) (by omega) (by assumption) hb9)
                (first
                  | (go_at_call 73; refine (eq_any P _ _ _ _ _ (by exact (show KeptC wr g ((j + 1) * 2 + (q + 1) * 2) ((j + 1) * 2 + q * 2) P d[j + 1 + q + 1].1 d[j + 1 + q + 1].2 d[j + 1 + q].1 d[j + 1 + q].2 _ by assumption).1.2.2.2.2)).mono ?_; rintro e w4 ⟨rfl, hb9⟩))
              obtain ⟨⟨s1, s2, s3, s4, s6⟩, sb2⟩ : KeptC wr g ((j + 1) * 2 + (q + 1) * 2) ((j + 1) * 2 + q * 2) P d[j + 1 + q + 1].1 d[j + 1 + q + 1].2 d[j + 1 + q].1 d[j + 1 + q].2 _ := by assumption
              clear hb9
              have hrE4 := hrE.below sb2
              have sz2 := sb2.size
              obtain ⟨⟨g1, g2⟩, g3, g4⟩ := hrE4 kk (by omega)
              have v1 : (kk : Int) < (d.length : Int) := by omega
              have v2 : (0 : Int) ≤ (kk : Int) := by omega
              have v3 : kk < d.length := by omega
              have HrE : Hid (RowF w4 g E) := hrE4
              clear hrE4 hrE
              go_wp2
              go_roundw
              case rel =>
                have hne : d[j + 1 + q + 1] ≠ d[j + 1 + q] := fun e => by unfold sameB at hs; simp [e] at hs
                have hnew := compL_other d (j + 1 + q) (by omega) hne
                have hlen : (compL (d.take (j + 1 + (q + 1) + 1))).length = kk + 1 := by
                  rw [show j + 1 + (q + 1) + 1 = j + 1 + q + 1 + 1 by omega, hnew, List.length_append, HK.out]; rfl
                refine ⟨q + 1, E.set kk (d[j + 1 + q + 1].1, d[j + 1 + q + 1].2), by omega, by go_num, by rw [hlen]; go_num, by rw [hlen]; omega, by simp [hE], HrE.out.set (by omega) _ _, ?_, ?_, ?_, ?_, ?_⟩
                · rw [hlen, show j + 1 + (q + 1) + 1 = j + 1 + q + 1 + 1 by omega, hnew, List.take_succ_eq_append_getElem (by simp; omega), List.take_set_of_le (Nat.le_refl _), List.getElem_set_self, ← HE1.out, HK.out]
                · rw [List.drop_set_of_lt (by omega), show j + 1 + (q + 1) = (j + 1 + q) + 1 by omega]; exact drop_succ HE2.out
                · rw [World.cell?_setCell_other _ _ _ _ (by simp), World.cell?_setCell_other _ _ _ _ (by simp)]; exact s6
                · simp <;> omega
                · exact ((hbB.trans (sb2.mono (by omega))).setCell (by show B ≤ g; omega) _).setCell (by show B ≤ g; omega) _
              case measure => simp [intOf]; omega
            · go_wp2
              go_region_held3 (fun w' => (w'.cell? ⟨g, (j + 1) * 2 + (q + 1) * 2, none⟩ = some (.int .i64 d[j + 1 + q + 1].1) ∧ w'.cell? ⟨g, (j + 1) * 2 + (q + 1) * 2 + 1, none⟩ = some (.int .i64 d[j + 1 + q + 1].2) ∧ w'.cell? ⟨g, (j + 1) * 2 + q * 2, none⟩ = some (.int .i64 d[j + 1 + q].1) ∧ w'.cell? ⟨g, (j + 1) * 2 + q * 2 + 1, none⟩ = some (.int .i64 d[j + 1 + q].2) ∧ w'.cell? ⟨P, 0, none⟩ = some (.func (.func 58) #[] #[])) ∧ Below wr.heap.size wr w')
                (first | exact ⟨⟨x1, x2, y1, y2, hP3⟩, (Below.refl _ _).drew⟩ | exact KeptC.step (by omega) (by omega) (by assumption) hb9)
                (first
                  | (go_at_call 73; refine (eq_any P _ _ _ _ _ (by exact (show KeptC wr g ((j + 1) * 2 + (q + 1) * 2) ((j + 1) * 2 + q * 2) P d[j + 1 + q + 1].1 d[j + 1 + q + 1].2 d[j + 1 + q].1 d[j + 1 + q].2 _ by assumption).1.2.2.2.2)).mono ?_; rintro e w4 ⟨rfl, hb9⟩))
              obtain ⟨⟨s1, s2, s3, s4, s6⟩, sb2⟩ : KeptC wr g ((j + 1) * 2 + (q + 1) * 2) ((j + 1) * 2 + q * 2) P d[j + 1 + q + 1].1 d[j + 1 + q + 1].2 d[j + 1 + q].1 d[j + 1 + q].2 _ := by assumption
              clear hb9
              have hrE4 := hrE.below sb2
              have sz2 := sb2.size
              have HrE : Hid (RowF w4 g E) := hrE4
              clear hrE4 hrE
              go_wp2
              go_roundw
              case rel =>
                have hsd : d[j + 1 + q + 1] = d[j + 1 + q] := by have h9 := hs; unfold sameB at h9; simp at h9; exact Prod.ext h9.1 h9.2
                have hnew := compL_same d (j + 1 + q) (by omega) hsd
                have hlen : (compL (d.take (j + 1 + (q + 1) + 1))).length = kk := by
                  rw [show j + 1 + (q + 1) + 1 = j + 1 + q + 1 + 1 by omega, hnew, HK.out]
                refine ⟨q + 1, E, by omega, by go_num, by rw [hlen], by rw [hlen]; omega, hE, HrE.out, ?_, ?_, s6, by omega, hbB.trans (sb2.mono (by omega))⟩
                · rw [hlen, show j + 1 + (q + 1) + 1 = j + 1 + q + 1 + 1 by omega, hnew, ← HE1.out, HK.out]
                · rw [show j + 1 + (q + 1) = (j + 1 + q) + 1 by omega]; exact drop_succ HE2.out
              case measure => simp [intOf]; omega
          · have hend : j + 1 + q + 1 = d.length := by have := HR.out; omega
            have hfull : d.take (j + 1 + q + 1) = d := List.take_of_length_le (by omega)
            rw [hfull] at hkk HE1
            rw [hfull]
            obtain ⟨kk, hkk0⟩ : ∃ kk, (compL d).length = kk := ⟨_, rfl⟩
            rw [hkk0] at hkk HE1
            have HK : Hid ((compL d).length = kk) := hkk0
            rw [hkk0]
            clear hkk0 hfull
            have hcl := clear_two wr g (kk * 2) (d.length - kk) (cap - kk) (by omega) (fun j hj => (hrE.some kk j (by omega)).1) (fun j hj => (hrE.some kk j (by omega)).2)
            have HrE : Hid (RowF wr g E) := hrE
            clear hrE
            have k1 : ¬ ((q : Int) + 1 < (R : Int)) := by omega
            have v1 : (kk : Int) ≤ (d.length : Int) := by omega
            have v2 : (0 : Int) ≤ (kk : Int) := by omega
            have v3 : kk ≤ d.length := by omega
            have v4 : kk ≤ cap := by omega
            go_wp2_with (simp only [hcl])
            go_ret
            exact ⟨_, rfl, HK.out.symm, HrE.out.cleared HE1.out (by omega) _, belowSets (by omega) _ _ _ hbB⟩
    · have e : Hid (d.take (j + 1) = d) := List.take_of_length_le (by omega)
      go_wp2
      go_ret
      have hcd : compL d = d := by have h := HC.out; rw [e.out] at h; exact h
      refine ⟨_, rfl, by rw [hcd], by rw [hcd]; exact hr2.rowAt, hb.mono (by omega)⟩

end Go.Proofs.Ytccpljllgpabnab.S

namespace Go.Proofs.Ytccpljllgpabnab.S
open Go.RowKit
set_option linter.unusedVariables false

theorem compL_len (d : List (Int × Int)) : ∀ k, k ≤ d.length → (compL (d.take k)).length ≤ k := by
  intro k
  induction k with
  | zero => intro _; simp [compL]
  | succ k ih =>
    intro h
    rw [compL_next d k (by omega)]
    have := ih (by omega)
    unfold cstep
    split
    · omega
    · simp; omega
theorem compL_length (d : List (Int × Int)) : (compL d).length ≤ d.length := by
  have h := compL_len d d.length (Nat.le_refl _)
  rwa [List.take_length] at h
theorem compL_short (d : List (Int × Int)) (h : d.length < 2) : compL d = d := by
  match d with
  | [] => rfl
  | [x] => simp [compL, cstep]
  | x :: y :: r => simp at h; omega

set_option maxHeartbeats 400000 in
theorem compact_short (a : Option Addr) (n cap : Nat) (f : Value) (w : World) (hn : n < 2) :
    Calls Try.prog 72 #[.slice a n cap, f] w fun e w' => e = .returned (.slice a n cap) ∧ w' = w := by
  have hd1 : decide ((n : Int) < 2) = true := by simp only [decide_eq_true_eq]; omega
  go_enter Try.func72, Try.ntmps72
  go_wp2
  go_ret
  exact ⟨rfl, rfl⟩

theorem OwnS.blockLt {B : Nat} {w : World} {g n cap : Nat} {D : List (Int × Int)} (h : OwnS B w (.slice (some ⟨g, 0, none⟩) n cap) D) : g < w.heap.size := (World.ownsRow.lt h g rfl).2
theorem OwnS.cases {B : Nat} {w : World} {v : Value} {D : List (Int × Int)} (h : OwnS B w v D) : (v = .slice none 0 0 ∧ D = []) ∨ ∃ g cap, v = .slice (some ⟨g, 0, none⟩) D.length cap ∧ B ≤ g ∧ D.length ≤ cap := by
  rcases h.2 with ⟨rfl, hn⟩ | ⟨g, cap, cur, rfl, hg, hc, hcap, _⟩
  · exact .inl ⟨rfl, List.eq_nil_of_length_eq_zero hn⟩
  · exact .inr ⟨g, cap, rfl, hg, hcap⟩

/-- CompactFunc at a row that lies there, of whatever length. -/
theorem compact_any (B g cap P : Nat) (d : List (Int × Int)) (w : World) (hl : d.length ≤ 8796093022208) (hcap : d.length ≤ cap) (hr : RowF w g d) (hP : w.cell? ⟨P, 0, none⟩ = some (.func (.func 58) #[] #[])) (hPg : P ≠ g) (hPl : P < w.heap.size) (hB : B ≤ g) :
    Calls Try.prog 72 #[.slice (some ⟨g, 0, none⟩) d.length cap, .func (.func 73) #[] #[.pointer (some ⟨P, 0, none⟩)]] w fun e w' => e = .returned (.slice (some ⟨g, 0, none⟩) (compL d).length cap) ∧ IsS w' (.slice (some ⟨g, 0, none⟩) (compL d).length cap) (compL d) ∧ Below B w w' := by
  have hlen := compL_length d
  by_cases hd : d.length < 2
  · refine (compact_short _ _ _ _ _ hd).mono fun e w' ⟨he, hw⟩ => ?_
    rw [compL_short d hd, hw]
    exact ⟨he, ⟨_, cap, rfl, hcap, hl, .inr ⟨g, 0, rfl, hr.rowAt⟩⟩, Below.refl _ _⟩
  · refine (compact_walk B g cap P d w (by omega) hl hcap hr hP hPg hPl hB).mono fun e w' ⟨n, he, hn, hrow, hb⟩ => ?_
    subst hn
    exact ⟨he, ⟨_, cap, rfl, by omega, by omega, .inr ⟨g, 0, rfl, hrow⟩⟩, hb⟩

set_option maxHeartbeats 1000000 in
set_option maxRecDepth 100000 in
theorem ordered_any (v : Value) (d : List (Int × Int)) (w : World) (h : IsS w v d) :
    Calls Try.prog 57 #[v, .func (.func 58) #[] #[]] w fun e w' => ∃ a cap, e = .returned (.slice a (compL (msort d)).length cap) ∧ IsS w' (.slice a (compL (msort d)).length cap) (compL (msort d)) ∧ (compL (msort d) = [] ∨ ∃ g, a = some ⟨g, 0, none⟩ ∧ w.heap.size ≤ g) ∧ Below w.heap.size w w' := by
  have hl : d.length ≤ 8796093022208 := by obtain ⟨_, _, _, _, hl, _⟩ := h; exact hl
  have hb0 : Below w.heap.size w (w.alloc (.cells #[.func (.func 58) #[] #[]] 93)) := (Below.refl _ _).alloc (Nat.le_refl _) _
  have h1 := h.below hb0
  have HV : Hid (IsS (w.alloc (.cells #[.func (.func 58) #[] #[]] 93)) v d) := h1
  clear h1 h
  go_enter Try.func57, Try.ntmps57
  go_wp2_with fail
  refine (clone_any v d _ HV.out).mono ?_
  rintro e w2 ⟨v2, rfl, hown, hb2⟩
  have z2 : w.heap.size + 1 ≤ w2.heap.size := by have := hb2.size; simpa using this
  have hP2 : w2.cell? ⟨w.heap.size, 0, none⟩ = some (.func (.func 58) #[] #[]) := (hb2.cell (p := ⟨w.heap.size, 0, none⟩) (by simp)).trans (by simp)
  have hB2 : Below w.heap.size w w2 := hb0.trans (hb2.mono (by simp))
  rcases hown.cases with ⟨rfl, rfl⟩ | ⟨g, cap, rfl, hg, hcap⟩
  · clear hown HV hb2
    go_wp2_with fail
    refine (sortFunc_none none 0 _).mono ?_
    rintro e w3 ⟨rfl, rfl⟩
    go_wp2_with fail
    refine (compact_short none 0 0 _ _ (by omega)).mono ?_
    rintro e w4 ⟨rfl, rfl⟩
    go_wp2
    go_ret
    have e0 : compL (msort []) = [] := by simp [msort, compL]
    rw [e0]
    exact ⟨none, 0, rfl, isS_empty _ _, .inl rfl, hB2⟩
  · have hgl := hown.blockLt
    have hg2 : w.heap.size + 1 ≤ g := by simpa using hg
    have HO : Hid (OwnS (w.heap.size + 1) w2 (.slice (some ⟨g, 0, none⟩) d.length cap) d) := by show OwnS _ _ _ _; simpa using hown
    clear hown HV hb2 hg
    go_wp2_with fail
    refine (sortFunc_some (w.heap.size + 1) g cap d _ HO.out hgl hg2 hl).mono ?_
    rintro e w3 ⟨rfl, hrow, hgl3, hb3⟩
    have HR : Hid (RowF w3 g (msort d)) := hrow
    have hP3 : w3.cell? ⟨w.heap.size, 0, none⟩ = some (.func (.func 58) #[] #[]) := (hb3.cell (p := ⟨w.heap.size, 0, none⟩) (by simp)).trans hP2
    clear hrow HO
    go_wp2_with fail
    rw [show d.length = (msort d).length from (msort_length d).symm]
    refine (compact_any (w.heap.size + 1) g cap w.heap.size (msort d) _ (by rw [msort_length]; exact hl) (by rw [msort_length]; exact hcap) HR.out hP3 (by omega) (by omega) hg2).mono ?_
    rintro e w4 ⟨rfl, hs, hb4⟩
    have HS : Hid (IsS w4 (.slice (some ⟨g, 0, none⟩) (compL (msort d)).length cap) (compL (msort d))) := hs
    clear hs
    go_wp2
    go_ret
    exact ⟨_, cap, rfl, HS.out, .inr ⟨g, rfl, by omega⟩, hB2.trans ((hb3.mono (by omega)).trans (hb4.mono (by omega)))⟩

end Go.Proofs.Ytccpljllgpabnab.S

namespace Go.Proofs.Ytccpljllgpabnab.S
open Go.RowKit Go.Sort
set_option linter.unusedVariables false

theorem ltP_irr (x : Int × Int) : ¬ ltP x x := by unfold ltP; omega
theorem ltP_tr {x y z : Int × Int} (h1 : ltP x y) (h2 : ltP y z) : ltP x z := by unfold ltP at *; omega
theorem ltP_tot {x y : Int × Int} (h1 : ¬ ltP x y) (h2 : x ≠ y) : ltP y x := by
  unfold ltP at *
  have : ¬ (x.1 = y.1 ∧ x.2 = y.2) := fun h => h2 (Prod.ext h.1 h.2)
  omega
/-- Each ahead of the next ones. -/
def Ups (d : List (Int × Int)) : Prop := d.Pairwise ltP

theorem ups_same : ∀ (a b : List (Int × Int)), Ups a → Ups b → (∀ x, x ∈ a ↔ x ∈ b) → a = b
  | [], [], _, _, _ => rfl
  | [], y :: b, _, _, h => absurd ((h y).2 (by simp)) (by simp)
  | x :: a, [], _, _, h => absurd ((h x).1 (by simp)) (by simp)
  | x :: a, y :: b, ha, hb, h => by
    unfold Ups at ha hb
    rw [List.pairwise_cons] at ha hb
    have hxy : x = y := by
      apply Classical.byContradiction
      intro hne
      have h1 : x ∈ b := by
        have := (h x).1 (by simp)
        simp [hne] at this
        exact this
      have h2 : y ∈ a := by
        have := (h y).2 (by simp)
        simp [Ne.symm hne] at this
        exact this
      exact ltP_irr x (ltP_tr (ha.1 y h2) (hb.1 x h1))
    subst hxy
    rw [ups_same a b ha.2 hb.2 fun z => ?_]
    constructor
    · intro hz
      have := (h z).1 (by simp [hz])
      simp at this
      rcases this with e | e
      · exact absurd (ha.1 z hz) (by rw [e]; exact ltP_irr x)
      · exact e
    · intro hz
      have := (h z).2 (by simp [hz])
      simp at this
      rcases this with e | e
      · exact absurd (hb.1 z hz) (by rw [e]; exact ltP_irr x)
      · exact e

/-- compL's members are the row's, and of a row that never falls it makes one that rises. -/
theorem compL_ups (d : List (Int × Int)) (hd : d.Pairwise fun x y => ¬ ltP y x) : ∀ k, k ≤ d.length → Ups (compL (d.take k)) ∧ (∀ x, x ∈ compL (d.take k) ↔ x ∈ d.take k) := by
  intro k
  induction k with
  | zero => intro _; simp [compL, Ups]
  | succ k ih =>
    intro h
    obtain ⟨h1, h2⟩ := ih (by omega)
    have hnf : ∀ x, x ∈ d.take k → ¬ ltP d[k] x := by
      intro x hx
      obtain ⟨i, hi, rfl⟩ := List.mem_take_iff_getElem.1 hx
      exact List.pairwise_iff_getElem.1 hd i k (by omega) (by omega) (by omega)
    rw [compL_next d k (by omega), List.take_succ_eq_append_getElem (by omega : k < d.length)]
    unfold cstep
    split
    · rename_i hl
      refine ⟨h1, fun x => ?_⟩
      rw [h2, List.mem_append]
      constructor
      · exact .inl
      · rintro (e | e)
        · exact e
        · simp at e
          rw [e]
          exact (h2 _).1 (List.mem_of_getLast? hl)
    · rename_i hl
      refine ⟨?_, fun x => by rw [List.mem_append, List.mem_append, h2]⟩
      unfold Ups at h1 ⊢
      rw [List.pairwise_append]
      refine ⟨h1, by simp, fun x hx y hy => ?_⟩
      simp at hy
      subst hy
      have hk : ∀ z, z ∈ compL (d.take k) → ¬ ltP d[k] z := fun z hz => hnf z ((h2 z).1 hz)
      by_cases hxe : x = d[k]
      · exfalso
        -- x is the last one: none behind it may be ahead of d[k]
        apply hl
        obtain ⟨L, l, e⟩ : ∃ L l, compL (d.take k) = L ++ [l] := by
          rcases List.eq_nil_or_concat (compL (d.take k)) with e | ⟨L, l, e⟩
          · rw [e] at hx; simp at hx
          · exact ⟨L, l, by rw [e, List.concat_eq_append]⟩
        rw [e] at hx h1 hk ⊢
        simp at hx
        rcases hx with hx | hx
        · exfalso
          rw [List.pairwise_append] at h1
          have := h1.2.2 x hx l (by simp)
          rw [hxe] at this
          exact hk l (by simp) this
        · rw [List.getLast?_concat, ← hx, hxe]
      · exact ltP_tot (hk x hx) (Ne.symm hxe)

theorem putTo_char (s : Int × Int) (d : List (Int × Int)) (hd : Ups d) (hs : s ∉ d) : ∀ k, k ≤ d.length →
    ((putTo s (d.take k)).2 = false ∧ (putTo s (d.take k)).1 = d.take k ∧ ∀ x ∈ d.take k, ltP x s) ∨
    ((putTo s (d.take k)).2 = true ∧ Ups (putTo s (d.take k)).1 ∧ (∀ x, x ∈ (putTo s (d.take k)).1 ↔ x ∈ d.take k ∨ x = s) ∧ ∃ y ∈ d.take k, ltP s y) := by
  intro k
  induction k with
  | zero => intro _; left; simp [putTo]
  | succ k ih =>
    intro h
    have hm : d[k] ∈ d := List.getElem_mem _
    have hsk : s ≠ d[k] := fun e => hs (by rw [e]; exact hm)
    have hup : ∀ x, x ∈ d.take k → ltP x d[k] := by
      intro x hx
      obtain ⟨i, hi, rfl⟩ := List.mem_take_iff_getElem.1 hx
      exact List.pairwise_iff_getElem.1 hd i k (by omega) (by omega) (by omega)
    have hups : Ups (d.take k) := List.Pairwise.sublist (List.take_sublist _ _) hd
    rw [putTo_next s d k (by omega), List.take_succ_eq_append_getElem (by omega : k < d.length)]
    rcases ih (by omega) with ⟨e1, e2, e3⟩ | ⟨e1, e2, e3, y0, hy0, hy1⟩
    · by_cases hl : lessS s.1 s.2 d[k].1 d[k].2 = true
      · right
        have hlt := (lessS_ltP s d[k]).1 hl
        unfold putStep
        rw [if_pos ⟨e1, hl⟩, e2]
        refine ⟨rfl, ?_, fun x => by simp only [List.mem_append, List.mem_singleton]; exact or_right_comm, d[k], List.mem_append_right _ (List.mem_singleton.2 rfl), hlt⟩
        unfold Ups at hups ⊢
        simp only [List.append_assoc]
        rw [List.pairwise_append]
        refine ⟨hups, by simp [hlt], fun x hx y hy => ?_⟩
        simp at hy
        rcases hy with rfl | rfl
        · exact e3 x hx
        · exact hup x hx
      · left
        unfold putStep
        rw [if_neg (fun hc => hl hc.2)]
        refine ⟨e1, by rw [e2], fun x hx => ?_⟩
        rw [List.mem_append] at hx
        rcases hx with hx | hx
        · exact e3 x hx
        · simp at hx
          subst hx
          exact ltP_tot (fun hc => hl ((lessS_ltP s _).2 hc)) hsk
    · right
      unfold putStep
      rw [if_neg (fun hc => by rw [e1] at hc; cases hc.1)]
      refine ⟨e1, ?_, fun x => by rw [List.mem_append, List.mem_append, e3]; exact or_right_comm, y0, List.mem_append_left _ hy0, hy1⟩
      unfold Ups at e2 ⊢
      rw [List.pairwise_append]
      refine ⟨e2, by simp, fun x hx y hy => ?_⟩
      simp at hy
      subst hy
      rcases (e3 x).1 hx with hx | hx
      · exact hup x hx
      · rw [hx]
        exact ltP_tr hy1 (hup y0 hy0)

theorem putL_ups (s : Int × Int) (d : List (Int × Int)) (hd : Ups d) : Ups (putL d s) ∧ ∀ x, x ∈ putL d s ↔ x ∈ d ∨ x = s := by
  unfold putL
  split
  · rename_i hs
    refine ⟨hd, fun x => ⟨.inl, ?_⟩⟩
    rintro (h | rfl)
    · exact h
    · exact hs
  · rename_i hs
    have h := putTo_char s d hd hs d.length (Nat.le_refl _)
    rw [List.take_length] at h
    rcases h with ⟨e1, e2, e3⟩ | ⟨e1, e2, e3, _⟩
    · rw [if_neg (by rw [e1]; simp), e2]
      refine ⟨?_, fun x => by simp⟩
      unfold Ups at hd ⊢
      rw [List.pairwise_append]
      refine ⟨hd, by simp, fun x hx y hy => ?_⟩
      simp at hy
      subst hy
      exact e3 x hx
    · rw [if_pos e1]
      exact ⟨e2, e3⟩

theorem sortL_ups (l : List (Int × Int)) : ∀ k, k ≤ l.length → Ups (sortL (l.take k)) ∧ ∀ x, x ∈ sortL (l.take k) ↔ x ∈ l.take k := by
  intro k
  induction k with
  | zero => intro _; simp [sortL, Ups]
  | succ k ih =>
    intro h
    obtain ⟨h1, h2⟩ := ih (by omega)
    rw [sortL_next l k (by omega), List.take_succ_eq_append_getElem (by omega : k < l.length)]
    have h3 := putL_ups l[k] _ h1
    refine ⟨h3.1, fun x => ?_⟩
    rw [h3.2, h2, List.mem_append]
    simp

theorem msort_up (d : List (Int × Int)) : (msort d).Pairwise fun x y => ¬ ltP y x := by
  have h := List.pairwise_mergeSort (le := fun x y => !(ltOf cmpP) y x) (fun a b c h1 h2 => by
    simp only [Bool.not_eq_true'] at *
    exact swoP.ntrans c b a h2 h1) (fun a b => by
    cases h : ltOf cmpP b a
    · simp
    · have : ltOf cmpP a b = false := by
        rw [ltOf_cmpP] at *
        rw [lessS_nltP]
        rw [lessS_ltP] at h
        unfold ltP at *
        omega
      simp [this]) d
  refine h.imp fun {a b} h => ?_
  simp only [Bool.not_eq_true'] at h
  rw [ltOf_cmpP, lessS_nltP] at h
  exact h

/-- The two ways come to the same. -/
theorem comp_sort (l : List (Int × Int)) : compL (msort l) = sortL l := by
  have a := compL_ups (msort l) (msort_up l) (msort l).length (Nat.le_refl _)
  have b := sortL_ups l l.length (Nat.le_refl _)
  rw [List.take_length] at a b
  refine ups_same _ _ a.1 b.1 fun x => ?_
  rw [a.2, b.2]
  unfold msort
  exact List.mem_mergeSort

end Go.Proofs.Ytccpljllgpabnab.S

namespace Go.Proofs.Ytccpljllgpabnab.S
open Go.RowKit Go.Shelf
set_option linter.unusedVariables false

attribute [local go_sem] Oper.semAt_some

/-- A stamp as yield's argument. -/
def encP (x : Int × Int) : Array Value := #[.agg #[.int .i64 x.1, .int .i64 x.2]]
/-- The blocks from lo to below hi lie as they lay. -/
def KeepsIn (lo hi : Nat) (W W' : World) : Prop := W.heap.size ≤ W'.heap.size ∧ ∀ k, lo ≤ k → k < hi → W'.heap[k]? = W.heap[k]?
theorem KeepsIn.refl (lo hi : Nat) (W : World) : KeepsIn lo hi W W := ⟨Nat.le_refl _, fun _ _ _ => rfl⟩
theorem KeepsIn.trans {lo hi : Nat} {A B C : World} (h : KeepsIn lo hi A B) (k : KeepsIn lo hi B C) : KeepsIn lo hi A C := ⟨Nat.le_trans h.1 k.1, fun j h1 h2 => (k.2 j h1 h2).trans (h.2 j h1 h2)⟩
theorem KeepsIn.cell {lo hi : Nat} {A B : World} (h : KeepsIn lo hi A B) {p : Addr} (h1 : lo ≤ p.block) (h2 : p.block < hi) : B.cell? p = A.cell? p := World.cell?_of_block (w := A) (h.2 p.block h1 h2)
theorem KeepsIn.of_below {B lo hi : Nat} {W W' : World} (h : Below B W W') (hB : hi ≤ B) : KeepsIn lo hi W W' := ⟨h.size, fun k _ h2 => h.block k (by omega)⟩
theorem KeepsIn.of_grown {lo hi : Nat} {W W' : World} {row : Option Nat} (h : W.grownBy W' row) (hh : hi ≤ W.heap.size) (hr : ∀ r, row = some r → r < lo ∨ hi ≤ r) : KeepsIn lo hi W W' :=
  ⟨h.size, fun k h1 h2 => h.block k (by omega) (fun e => by rcases hr k e.symm with h | h <;> omega)⟩
theorem keepsInK_b {lo hi : Nat} {w : World} (hn : hi ≤ w.heap.size) (W : World) (l : Nat) (o o' : Obj) (hl : w.heap.size ≤ l) (h : W.heap[l]? = some o) (_ : o.isCells = false) (_ : o.isWalk = false) : KeepsIn lo hi W (W.putObj l o') :=
  KeepsIn.of_below (B := hi) (belowK_b hn W l o o' hl h ‹_› ‹_›) (Nat.le_refl _)

/-- The row behind a slice's address, in a block from lo to below hi. -/
def RowB (lo hi : Nat) (W : World) (a : Option Addr) (d : List (Int × Int)) : Prop := d = [] ∨ ∃ b o, a = some ⟨b, o, none⟩ ∧ (lo ≤ b ∧ b < hi) ∧ RowAt W b o d
theorem RowB.kept {lo hi : Nat} {A B : World} {a : Option Addr} {d : List (Int × Int)} (h : RowB lo hi A a d) (hb : KeepsIn lo hi A B) : RowB lo hi B a d :=
  h.imp id fun ⟨b, o, e, hlt, hr⟩ => ⟨b, o, e, hlt, fun i hi => ⟨(hb.cell (p := ⟨b, o + i * 2, none⟩) hlt.1 hlt.2).trans (hr i hi).1, (hb.cell (p := ⟨b, o + i * 2 + 1, none⟩) hlt.1 hlt.2).trans (hr i hi).2⟩⟩

set_option maxRecDepth 100000 in
set_option maxHeartbeats 2000000 in
theorem rise1_in (F : Fence) (n : Nat) (h7 : F.fn 59) (hro : F.round = none) (hn : 1 ≤ n) (l Bs lo hi cap : Nat) (a : Option Addr) (d : List (Int × Int)) (hl : d.length ≤ 8796093022208) (hBn : lo ≤ Bs ∧ Bs < hi) (J Jx : List (Int × Int) → World → Prop) (W : World)
    (hJ : AbidesFrom W.heap.size J)
    (hY : ∀ pre x W1, J pre W1 → pre.length < d.length → YieldAt F (n - 1) Try.prog l (encP x) W1 fun e W' =>
      (e = .returned (.bool true) ∧ J (pre ++ [x]) W' ∧ KeepsIn lo hi W1 W') ∨ (e = .returned (.bool false) ∧ Jx (pre ++ [x]) W'))
    (hn0 : hi ≤ W.heap.size) (hBs : W.cell? ⟨Bs, 0, none⟩ = some (.slice a d.length cap)) (hc : RowB lo hi W a d) (h0 : J [] W) :
    CallsIn F n Try.prog 59 #[.func (.yield l) #[] #[], .pointer (some ⟨Bs, 0, none⟩)] W fun e W' => (∃ v, e = .returned v) ∧
      ((∃ ys, ys = d ∧ J ys W') ∨ (∃ pre, pre <+: d ∧ Jx pre W')) := by
  refine callsIn_of_wp Try.func59 rfl h7 ?_ hro
  simp only [Try.ntmps59, List.size_toArray, List.length_cons, List.length_nil, Nat.reduceAdd, Nat.reduceSub, Array.replicate_succ, Array.replicate_zero, List.push_toArray, List.append_toArray, List.nil_append, List.cons_append]
  gi_wp2
  gi_loopw [7] (fun i wr => ∃ k : Nat, k ≤ d.length ∧ i = .int .i64 k ∧ J (d.take k) wr ∧ KeepsIn lo hi W wr)
    (fun i _ => d.length - (intOf i).toNat)
  case atStart => exact ⟨0, Nat.zero_le _, rfl, by simpa using h0, KeepsIn.refl _ _ _⟩
  case round =>
    obtain ⟨k, hk, rfl, hJs, hnx⟩ := hrel
    by_cases hlt : k < d.length
    · have HT : Hid (d.take (k + 1) = d.take k ++ [d[k]]) := List.take_succ_eq_append_getElem hlt
      obtain ⟨b, o, rfl, hb, hr⟩ := (hc.kept hnx).resolve_left (by intro e; subst e; simp at hlt)
      obtain ⟨x1, x2⟩ := hr k hlt
      have hz := hnx.1
      have hJ1 := hJ _ _ _ none hJs (World.grownBy_alloc wr (.cells #[.int .i64 d[k].1, .int .i64 d[k].2] 23) none) (by simp)
      obtain ⟨fn, tmps, assign, body, hy, hR⟩ := hY _ d[k] _ hJ1 (by simp; omega)
      simp only [encP] at hy
      have k1 : (k : Int) < (d.length : Int) := by omega
      have k0 : (0 : Int) ≤ (k : Int) := by omega
      clear hr hc
      gi_wp2
      refine hR.mono ?_
      rintro e W3 (⟨rfl, hJ3, hk3⟩ | ⟨rfl, hJx3⟩)
      · gi_wp2
        go_roundw
        case rel => exact ⟨k + 1, by omega, by go_num, by rw [HT.out]; exact hJ3, hnx.trans ((KeepsIn.of_grown (World.grownBy_alloc _ _ none) (by omega) (by simp)).trans hk3)⟩
        case measure => simp [intOf]; omega
      · gi_wp2
        refine bodyPost_ret (results_none rfl _ _ _) rfl ?_
        exact ⟨⟨_, rfl⟩, .inr ⟨_, by rw [← HT.out]; exact List.take_prefix _ _, hJx3⟩⟩
    · have e : d.take k = d := List.take_of_length_le (by omega)
      rw [e] at hJs
      obtain rfl : k = d.length := by omega
      gi_wp2
      go_end0
      exact ⟨⟨_, rfl⟩, .inl ⟨_, rfl, hJs⟩⟩

/-- What Rising's iterator hands out, wherever it is gone over. -/
theorem rise_stops (F : Fence) (n : Nat) (h7 : F.fn 59) (hro : F.round = none) (hn : 1 ≤ n) (Bs lo hi cap : Nat) (a : Option Addr) (d : List (Int × Int)) (hl : d.length ≤ 8796093022208) (hBn : lo ≤ Bs ∧ Bs < hi) (w : World) (hn0 : hi ≤ w.heap.size)
    (hBs : w.cell? ⟨Bs, 0, none⟩ = some (.slice a d.length cap)) (hc : RowB lo hi w a d) :
    SeqStopsK F n Try.prog 59 #[.pointer (some ⟨Bs, 0, none⟩)] encP (KeepsIn lo hi) (fun ys => ys = d) (fun pre => pre <+: d) d.length w := fun l J Jx W hW hJ _ hY h0 =>
  rise1_in F n h7 hro hn l Bs lo hi cap a d hl hBn J Jx W hJ hY (by have := hW.size; omega) ((hW.cell (p := ⟨Bs, 0, none⟩) (by show Bs < _; omega)).trans hBs) (hc.kept (KeepsIn.of_below hW hn0)) h0

set_option maxHeartbeats 1000000 in
set_option maxRecDepth 100000 in
theorem rising_any (v : Value) (d : List (Int × Int)) (w : World) (h : IsS w v d) :
    Calls Try.prog 39 #[v] w fun e w' => ∃ Bs a cap, e = .returned (.func (.func 59) #[] #[.pointer (some ⟨Bs, 0, none⟩)]) ∧ Bs < w'.heap.size ∧ w.heap.size ≤ Bs ∧ w'.cell? ⟨Bs, 0, none⟩ = some (.slice a (sortL d).length cap) ∧ RowB w.heap.size w'.heap.size w' a (sortL d) ∧ (sortL d).length ≤ 8796093022208 ∧ Below w.heap.size w w' := by
  have HV : Hid (IsS w v d) := h
  clear h
  go_enter Try.func39, Try.ntmps39
  go_wp2_with fail
  refine (ordered_any v d _ HV.out).mono ?_
  rintro e w2 ⟨a, cap, rfl, hs, hg, hb⟩
  rw [comp_sort d] at hs hg ⊢
  have HG : Hid (sortL d = [] ∨ ∃ g, a = some ⟨g, 0, none⟩ ∧ w.heap.size ≤ g) := hg
  clear hg
  have HS : Hid (IsS w2 (.slice a (sortL d).length cap) (sortL d)) := hs
  clear hs
  go_wp2
  go_ret
  obtain ⟨a', cap', e1, hc, hl, hr⟩ := HS.out
  cases e1
  refine ⟨w2.heap.size, a, cap, rfl, by simp, hb.size, by simp, ?_, hl, hb.trans ((Below.refl _ _).alloc hb.size _)⟩
  rcases hr with e | ⟨b, o, e, hr⟩
  · exact .inl e
  · by_cases hd : sortL d = []
    · exact .inl hd
    · obtain ⟨g, e2, hg⟩ := HG.out.resolve_left hd
      rw [e] at e2
      cases e2
      exact .inr ⟨b, 0, e, ⟨hg, by have := hr.lt hd; simp; omega⟩, hr.below ((Below.refl _ _).alloc (Nat.le_refl _) _)⟩

end Go.Proofs.Ytccpljllgpabnab.S

namespace Go.Proofs.Ytccpljllgpabnab.S
open Go.RowKit Go.Shelf
set_option linter.unusedVariables false

attribute [local go_sem] Oper.semAt_some

/-- A stamp's box. -/
def Box2 (W : World) (B : Nat) (x : Int × Int) : Prop := W.heap[B]? = some (.cells #[.int .i64 x.1, .int .i64 x.2] 23 (0, 0))
theorem Box2.lt {W : World} {B : Nat} {x : Int × Int} (h : Box2 W B x) : B < W.heap.size := (Array.getElem?_eq_some_iff.1 h).1
theorem Box2.cell {W : World} {B : Nat} {x : Int × Int} (h : Box2 W B x) : W.cell? ⟨B, 0, none⟩ = some (.int .i64 x.1) ∧ W.cell? ⟨B, 1, none⟩ = some (.int .i64 x.2) := by
  simp [World.cell?, show W.heap[B]? = _ from h]
theorem Box2.new (W : World) (x : Int × Int) : Box2 (W.alloc (.cells #[.int .i64 x.1, .int .i64 x.2] 23)) W.heap.size x := World.alloc_heap_new W _
theorem Box2.kept {W W' : World} {row : Option Nat} {B : Nat} {x : Int × Int} (h : Box2 W B x) (hg : W.grownBy W' row) (hne : some B ≠ row) : Box2 W' B x := (hg.block B h.lt hne).trans h
theorem box2_own {β : Type} (B : Nat) (f : β → Int × Int) : Own (fun s W => Box2 W B (f s)) := fun s X Y row hs hg hrow =>
  hs.kept hg (fun e' => by obtain ⟨o, ho, hc⟩ := hrow B e'.symm; rw [show X.heap[B]? = _ from hs] at ho; cases ho; cases hc)
theorem ownsRow_mono {w : World} {B B' : Nat} {e : TypeId} {size : Nat} {v : Value} {k : Nat} {xs : List Value} (h : w.ownsRow B e size v k xs) (hB : B' ≤ B) : w.ownsRow B' e size v k xs := by
  refine ⟨h.1, ?_⟩
  rcases h.2 with hn | ⟨g, cap, cur, hv, hg, rest⟩
  · exact .inl hn
  · exact .inr ⟨g, cap, cur, hv, by omega, rest⟩
theorem ownFrom_size {β : Type} (B m : Nat) : OwnFrom B (fun (_ : β) W => m ≤ W.heap.size) := fun _ _ _ _ hs hg _ => Nat.le_trans hs hg.size

set_option maxHeartbeats 4000000 in
set_option maxRecDepth 100000 in
theorem sort_in (n : Nat) (hn : 3 ≤ n) (v : Value) (d : List (Int × Int)) (w : World) (h : IsS w v d) :
    CallsIn Fence.wide n Try.prog 17 #[v] w fun e w' => ∃ v', e = .returned v' ∧ OwnS w.heap.size w' v' (sortL d) ∧ Below w.heap.size w w' := by
  have hro : Fence.wide.round = none := rfl
  have h1 : 1 ≤ n := by omega
  obtain ⟨i0, hi, hz0, hz1, hz2⟩ := info_parts infoStamp
  have hb1 : Below w.heap.size w (w.alloc (.cells #[.slice none 0 0] 34)) := (Below.refl _ _).alloc (Nat.le_refl _) _
  have HV : Hid (IsS (w.alloc (.cells #[.slice none 0 0] 34)) v d) := h.below hb1
  clear h
  refine callsIn_of_wp_marks Try.func17 rfl trivial ?_ hro
  simp only [Try.ntmps17, List.size_toArray, List.length_cons, List.length_nil, Nat.reduceAdd, Nat.reduceSub, Array.replicate_succ, Array.replicate_zero, List.push_toArray, List.append_toArray, List.nil_append, List.cons_append]
  gi_wp2_with (refine ⟨trivial, ?_⟩; gi_at_call 39; refine (callsIn_wide.2 (rising_any v d _ HV.out)).mono ?_; rintro e w2 ⟨Bs, ar, cr, rfl, hBs, hBl, hcr, hrow, hlr, hbr⟩)
  have z2 : w.heap.size + 1 ≤ w2.heap.size := by have := hbr.size; simpa using this
  have hBl2 : w.heap.size + 1 ≤ Bs := by simpa using hBl
  have hrow2 : RowB (w.heap.size + 1) w2.heap.size w2 ar (sortL d) := by simpa using hrow
  have bO : Boxed w2 w.heap.size 34 (.slice none 0 0) := (hbr.block w.heap.size (by simp)).trans (Boxed.new w 34 (.slice none 0 0))
  have hB0 : Below w.heap.size w w2 := hb1.trans (hbr.mono (by simp))
  clear hrow hBl hbr HV hb1
  refine wpIn_rangeFunc_ownH hro h1 (gf := 59) (lb := #[.pointer (some ⟨Bs, 0, none⟩)]) rfl trivial (enters_of Try.func59 (by kernel_rfl) rfl)
    (rise_stops Fence.wide (n - 1) trivial hro (by omega) Bs (w.heap.size + 1) w2.heap.size cr ar (sortL d) hlr ⟨hBl2, hBs⟩ w2 (Nat.le_refl _) hcr hrow2) KeepsIn.trans (keepsInK_b (Nat.le_refl _)) (Below.refl _ _) (fun _ => rfl)
    (fun pre W => ((∃ v, Boxed W w.heap.size 34 v ∧ W.ownsRow w2.heap.size 23 2 v pre.length (flat pre) ∧ True) ∧ Below w.heap.size w W) ∧ w2.heap.size ≤ W.heap.size)
    (fun _ _ _ => False)
    (OwnFrom.and (OwnFrom.and (Own.from (holdsRow_own w2.heap.size w.heap.size 34 23 2 (fun pre => pre.length) (fun pre => flat pre) (fun _ _ => True)) _) (ownFrom_below (Nat.le_refl _) (by omega))) (ownFrom_size _ _))
    (fun _ _ _ _ _ hs _ _ => hs)
    ⟨⟨⟨_, bO, World.ownsRow_nil _ _ _ _, trivial⟩, hB0⟩, Nat.le_refl _⟩
    (fun x a' W => ∃ Bx, Box2 W Bx x ∧ a' = { tmps := #[v, undef, .slice none 0 0, .pointer (some ⟨w.heap.size, 0, none⟩), .pointer (some ⟨Bx, 0, none⟩), v, .func (.func 59) #[] #[.pointer (some ⟨Bs, 0, none⟩)], .agg #[.int .i64 x.1, .int .i64 x.2], undef, undef, undef, undef, undef], defers := [] })
    (fun x a' _ X Y row hs hg hr => by obtain ⟨Bx, h2, h3⟩ := hs; exact ⟨Bx, box2_own Bx (fun (_ : Unit) => x) () X Y row h2 hg (fun r e => (hr r e).2), h3⟩)
    ?assign ?body ?done ?stop
  case assign =>
    rintro l pre x W K ⟨⟨⟨v1, bv, hr1, _⟩, hB1⟩, hs1⟩ hK
    simp only [encP]
    gi_wp2
    exact hK _ _ ((KeepsOthers.alloc _ _).from _) (KeepsIn.of_grown (World.grownBy_alloc _ _ none) hs1 (by simp)) ⟨⟨⟨v1, bv.alloc _, hr1.alloc _, trivial⟩, hB1.alloc hB1.size _⟩, by simp; omega⟩ ⟨W.heap.size, Box2.new W x, rfl⟩
  case body =>
    rintro l pre x a' W hl ⟨r, hr⟩ ⟨⟨⟨v1, bv, hr1, _⟩, hB1⟩, hs1⟩ ⟨Bx, hBx, rfl⟩ hlt
    have hc := bv.cell
    have hx := hBx.cell
    obtain ⟨hx1, hx2⟩ := hx
    have hxl := hBx.lt
    have hl2 : pre.length + 1 ≤ 8796093022208 := by omega
    gi_wp2_with (gi_at_builtin; refine wpListIn_append_own _ rfl _ _ 34 rfl w2.heap.size 23 i0 (.agg #[.int .i64 0, .int .i64 0]) 2 16 Try.underlying34 hi hz0 hz1 hz2 rfl (by decide) _ _ _ rfl (hr1.alloc _) ⟨W.heap.size, 0, none⟩ 1 1 [.int .i64 x.1, .int .i64 x.2] rfl rfl (cell_two_new _ _ _ _) (fun y hy => by simp at hy; rcases hy with rfl | rfl <;> rfl) (by unfold maxLen; omega) (by omega) (by simp; omega) ?_; intro v' w1 hown' hgrow _; obtain ⟨g', cap', rfl⟩ := ownsRow_succ hown'; obtain ⟨hv1, hv2, hr2, hk2, hb2⟩ := bv.appended (by decide) (ownsRow_mono hr1 (by omega : w.heap.size ≤ w2.heap.size)) hB1.size (Nat.le_refl _) (ownsRow_mono hown' (by omega)) hgrow; have hc1 := hv1.cell; have hf1 := hv1.frozen)
    have hkin : KeepsIn (w.heap.size + 1) w2.heap.size W (w1.setCell ⟨w.heap.size, 0, none⟩ (.slice (some ⟨g', 0, none⟩) (pre.length + 1) cap')) :=
      ((KeepsIn.of_grown (World.grownBy_alloc W _ none) hs1 (by simp)).trans (KeepsIn.of_grown hgrow (by simp; omega) (fun r e => .inr (World.ownsRow.lt hr1 r e).1))).trans (KeepsIn.of_grown (grownBy_setCell' w1 w.heap.size _) (by have := hgrow.size; simp at this; omega) (fun r e => by cases e; exact .inl (by omega)))
    refine ⟨hk2.from _, hkin, ⟨⟨_, hv2, ?_, trivial⟩, hB1.trans hb2⟩, by have := hkin.1; omega⟩
    rw [flat_snoc]
    simpa using hown'.kept (grownBy_setCell' w1 w.heap.size _) (.inr (hv1.not_row (by decide) hown').symm)
  case done =>
    rintro D ys W hD rfl ⟨⟨⟨v1, bv, hr1, _⟩, hB1⟩, hs1⟩ hK
    have hc := bv.cell
    gi_wp2
    refine ⟨by simp, .inl ⟨_, _, rfl, run_takeDeferred hK, ?_⟩⟩
    exact ⟨_, results_tmp rfl _ _ _, v1, rfl, ownsRow_putObj (ownsRow_mono hr1 (by omega)) _ hK rfl, hB1.trans (belowK_b (w := w) (Nat.le_refl _) W D _ _ (by omega) hK rfl rfl)⟩
  case stop =>
    rintro D c pre W _ _ h _
    exact h.elim

theorem sort_any (v : Value) (d : List (Int × Int)) (w : World) (h : IsS w v d) :
    Calls Try.prog 17 #[v] w fun e w' => ∃ v', e = .returned v' ∧ OwnS w.heap.size w' v' (sortL d) ∧ Below w.heap.size w w' :=
  callsIn_wide.1 (sort_in 3 (Nat.le_refl _) v d w h)

end Go.Proofs.Ytccpljllgpabnab.S
