/- awake. -/
import Derived.Test.YtccpljllgpabnabPaN
import Derived.Lib.Bytealg
import Derived.Laws.CopyOwn
import Derived.Laws.Externs
import Derived.Lib.Overlaps
import Derived.Lib.AppendZerosOnto
import Derived.Shelf.Spec.SlicesInsert
import Derived.Lib.SlicesDelete
import Derived.Deep.RegionLaw
import Derived.Shelf.RegionOpenPlain
import Derived.Lib.SliceRun
import Derived.Laws.OwnMore
namespace Go.Proofs.Ytccpljllgpabnab
open Go.RowKit
set_option linter.unusedVariables false
set_option linter.unusedSimpArgs false

def pMk : Pa := ⟨3, (1, 0), (0, 0), (0, 0), ⟨#[112]⟩, ⟨#[]⟩⟩
def pPt : Pa := ⟨4, (1, 0), (0, 0), (0, 0), ⟨#[]⟩, ⟨#[]⟩⟩
def pZe : Pa := ⟨0, (0, 0), (0, 0), (0, 0), ⟨#[]⟩, ⟨#[]⟩⟩
def tRt : VT := .node (0, 0) ⟨#[114, 111, 111, 116]⟩ ⟨#[]⟩ [] []
def tKd : VT := .node (1, 0) ⟨#[112]⟩ ⟨#[]⟩ [] []
def tAw : VT := .node (0, 0) ⟨#[114, 111, 111, 116]⟩ ⟨#[]⟩ [] [tKd]
theorem app_awake : appR tRt [pMk, pPt] = (tAw, 2, 0) := by kernel_rfl
theorem chk_zero : chkP pZe = 1 := by decide +kernel
theorem bnRt : BnA tRt := fun x hx => by
  simp [tRt, flatD, flatDs] at hx
  subst hx
  exact ⟨by decide, fun y hy => by simp [VT.at_] at hy⟩
structure AwS (w : World) (tb : Nat) (aa : Option Addr) (ca b2 o2 ck : Nat) (W : World) : Prop where
  tr : W.heap[tb]? = some (.cells #[.int .i64 0, .int .i64 0, .string ⟨#[114, 111, 111, 116]⟩, .string ⟨#[]⟩, .slice aa 0 ca, .slice (some ⟨b2, o2, none⟩) 1 ck] 27)
  st : W.heap[w.heap.size]? = some (.cells #[.int .i64 1, .int .i64 0] 23)
  k0 : W.cell? ⟨b2, o2, none⟩ = some (.int .i64 1)
  k1 : W.cell? ⟨b2, o2 + 1, none⟩ = some (.int .i64 0)
  k2 : W.cell? ⟨b2, o2 + 2, none⟩ = some (.string ⟨#[112]⟩)
  lt : b2 < W.heap.size
  bel : Below w.heap.size w W
theorem AwS.below {w : World} {tb : Nat} {aa : Option Addr} {ca b2 o2 ck : Nat} {W W' : World} (h : AwS w tb aa ca b2 o2 ck W) (hb : Below W.heap.size W W') : AwS w tb aa ca b2 o2 ck W' := ⟨(hb.block _ (row_lt h.tr)).trans h.tr, (hb.block _ (row_lt h.st)).trans h.st, (hb.cell (p := ⟨b2, o2, none⟩) h.lt).trans h.k0, (hb.cell (p := ⟨b2, o2 + 1, none⟩) h.lt).trans h.k1, (hb.cell (p := ⟨b2, o2 + 2, none⟩) h.lt).trans h.k2, Nat.lt_of_lt_of_le h.lt hb.size, h.bel.trans (hb.mono h.bel.size)⟩
theorem two_patches (w : World) : LsE paCells 9 (fun _ => True) ((w.alloc (.cells #[.int .i64 1, .int .i64 0] 23)).alloc (.cells #[.int .i64 3, .int .i64 1, .int .i64 0, .int .i64 0, .int .i64 0, .int .i64 0, .int .i64 0, .string ⟨#[112]⟩, .string ⟨#[]⟩, .int .i64 4, .int .i64 1, .int .i64 0, .int .i64 0, .int .i64 0, .int .i64 0, .int .i64 0, .string ⟨#[]⟩, .string ⟨#[]⟩] 42)) (.slice (some ⟨w.heap.size + 1, 0, none⟩) 2 2) [pMk, pPt] := by
  have h9 : ((w.alloc (.cells #[.int .i64 1, .int .i64 0] 23)).alloc (.cells #[.int .i64 3, .int .i64 1, .int .i64 0, .int .i64 0, .int .i64 0, .int .i64 0, .int .i64 0, .string ⟨#[112]⟩, .string ⟨#[]⟩, .int .i64 4, .int .i64 1, .int .i64 0, .int .i64 0, .int .i64 0, .int .i64 0, .int .i64 0, .string ⟨#[]⟩, .string ⟨#[]⟩] 42)).heap[w.heap.size + 1]? = some (.cells #[.int .i64 3, .int .i64 1, .int .i64 0, .int .i64 0, .int .i64 0, .int .i64 0, .int .i64 0, .string ⟨#[112]⟩, .string ⟨#[]⟩, .int .i64 4, .int .i64 1, .int .i64 0, .int .i64 0, .int .i64 0, .int .i64 0, .int .i64 0, .string ⟨#[]⟩, .string ⟨#[]⟩] 42) := by
    have h8 := heap_alloc_new (w.alloc (.cells #[.int .i64 1, .int .i64 0] 23)) (.cells #[.int .i64 3, .int .i64 1, .int .i64 0, .int .i64 0, .int .i64 0, .int .i64 0, .int .i64 0, .string ⟨#[112]⟩, .string ⟨#[]⟩, .int .i64 4, .int .i64 1, .int .i64 0, .int .i64 0, .int .i64 0, .int .i64 0, .int .i64 0, .string ⟨#[]⟩, .string ⟨#[]⟩] 42)
    rw [show (w.alloc (.cells #[.int .i64 1, .int .i64 0] 23)).heap.size = w.heap.size + 1 by simp] at h8
    exact h8
  refine ⟨_, 2, rfl, Nat.le_refl _, by simp, .inr ⟨_, 0, rfl, trivial, row_lt h9, fun i hi j u hj => ?_⟩⟩
  have hi2 : i < 2 := hi
  have hj9 : j < 9 := by
    have := (List.getElem?_eq_some_iff.1 hj).1
    rwa [paCells_len] at this
  rw [cell_of_row _ _ _ _ _ _ h9]
  rcases (by omega : i = 0 ∨ i = 1) with rfl | rfl
  · rcases (by omega : j = 0 ∨ j = 1 ∨ j = 2 ∨ j = 3 ∨ j = 4 ∨ j = 5 ∨ j = 6 ∨ j = 7 ∨ j = 8) with rfl | rfl | rfl | rfl | rfl | rfl | rfl | rfl | rfl <;> exact hj
  · rcases (by omega : j = 0 ∨ j = 1 ∨ j = 2 ∨ j = 3 ∨ j = 4 ∨ j = 5 ∨ j = 6 ∨ j = 7 ∨ j = 8) with rfl | rfl | rfl | rfl | rfl | rfl | rfl | rfl | rfl <;> exact hj

set_option maxRecDepth 100000 in
set_option maxHeartbeats 4000000 in
theorem awake_pa (w : World) : Calls Try.prog 5 #[] w fun e w' => e = .returned (.bool true) ∧ Below w.heap.size w w' := by
  have hb2 : Below w.heap.size w ((w.alloc (.cells #[.int .i64 1, .int .i64 0] 23)).alloc (.cells #[.int .i64 3, .int .i64 1, .int .i64 0, .int .i64 0, .int .i64 0, .int .i64 0, .int .i64 0, .string ⟨#[112]⟩, .string ⟨#[]⟩, .int .i64 4, .int .i64 1, .int .i64 0, .int .i64 0, .int .i64 0, .int .i64 0, .int .i64 0, .string ⟨#[]⟩, .string ⟨#[]⟩] 42)) := ((Below.refl _ _).alloc (Nat.le_refl _) _).alloc (by simp) _
  have hst : ((w.alloc (.cells #[.int .i64 1, .int .i64 0] 23)).alloc (.cells #[.int .i64 3, .int .i64 1, .int .i64 0, .int .i64 0, .int .i64 0, .int .i64 0, .int .i64 0, .string ⟨#[112]⟩, .string ⟨#[]⟩, .int .i64 4, .int .i64 1, .int .i64 0, .int .i64 0, .int .i64 0, .int .i64 0, .int .i64 0, .string ⟨#[]⟩, .string ⟨#[]⟩] 42)).heap[w.heap.size]? = some (.cells #[.int .i64 1, .int .i64 0] 23) := (Below.heap_alloc _ _ _ (by simp)).trans (heap_alloc_new w _)
  have hl := two_patches w
  obtain ⟨W2, eW2⟩ : ∃ X, X = ((w.alloc (.cells #[.int .i64 1, .int .i64 0] 23)).alloc (.cells #[.int .i64 3, .int .i64 1, .int .i64 0, .int .i64 0, .int .i64 0, .int .i64 0, .int .i64 0, .string ⟨#[112]⟩, .string ⟨#[]⟩, .int .i64 4, .int .i64 1, .int .i64 0, .int .i64 0, .int .i64 0, .int .i64 0, .int .i64 0, .string ⟨#[]⟩, .string ⟨#[]⟩] 42)) := ⟨_, rfl⟩
  rw [← eW2] at hb2 hst hl
  have HB := hide9 hb2
  have HSt := hide9 hst
  have HL := hide9 hl
  have HE := hide9 eW2
  clear hb2 hst hl eW2
  have k0 : (w.alloc (.cells #[.int .i64 1, .int .i64 0] 23)).cell? ⟨w.heap.size, 0, none⟩ = some (.int .i64 1) := by rw [cell_of_row _ _ _ _ _ _ (heap_alloc_new w _)]; rfl
  have k1 : (w.alloc (.cells #[.int .i64 1, .int .i64 0] 23)).cell? ⟨w.heap.size, 1, none⟩ = some (.int .i64 0) := by rw [cell_of_row _ _ _ _ _ _ (heap_alloc_new w _)]; rfl
  go_enter Try.func5, Try.ntmps5
  go_wp2_with fail
  rw [← HE.out]
  clear HE k0 k1
  refine (apply_any (fun _ => False) (fun _ => True) tRt _ _ [pMk, pPt] W2 ⟨_, _, rfl, LsE.nil _ _ _, by simp [tRt, VT.at_], none, 0, rfl, Nat.le_refl _, by simp [tRt, VT.ks], .inl rfl⟩ HL.out (by decide +kernel) bnRt (fun p hp => ?nm) (fun p hp _ => ?sc)).mono ?_
  case nm => simp only [List.mem_cons, List.not_mem_nil, or_false] at hp; rcases hp with rfl | rfl <;> decide
  case sc => simp only [List.mem_cons, List.not_mem_nil, or_false] at hp; rcases hp with rfl | rfl <;> exact ⟨fun e => absurd e (by decide), fun e => absurd e (by decide)⟩
  rintro e w3 ⟨v, rfl, hv, hb⟩
  rw [app_awake] at hv ⊢
  obtain ⟨aa, ca, ak, ck, e1, fd⟩ := hv.form
  subst e1
  obtain ⟨b2, o2, e2, _, hlt, hk⟩ := fd.ks.kid (i := 0) (by decide)
  subst e2
  obtain ⟨xa, cx, xk, dx, q0, q1, q2, _, _, _, _⟩ := hk.cells
  have HB3 : Hid (Below w.heap.size w w3) := HB.out.trans (hb.mono HB.out.size)
  have HS3 : Hid (w3.heap[w.heap.size]? = some (.cells #[.int .i64 1, .int .i64 0] 23)) := (hb.block _ (row_lt HSt.out)).trans HSt.out
  have HQ : Hid (w3.cell? ⟨b2, o2, none⟩ = some (.int .i64 1) ∧ w3.cell? ⟨b2, o2 + 1, none⟩ = some (.int .i64 0) ∧ w3.cell? ⟨b2, o2 + 2, none⟩ = some (.string ⟨#[112]⟩) ∧ b2 < w3.heap.size) := ⟨q0, q1, q2, hlt⟩
  clear hv hb fd hk q0 q1 q2 hlt HB HSt HL
  have hz : (w3.alloc (.cells #[.int .i64 0, .int .i64 0, .string ⟨#[]⟩, .string ⟨#[]⟩, .slice none 0 0, .slice none 0 0] 27)).heap[w3.heap.size]? = some (.cells #[.int .i64 0, .int .i64 0, .string ⟨#[]⟩, .string ⟨#[]⟩, .slice none 0 0, .slice none 0 0] 27) := heap_alloc_new _ _
  have Hz := hide9 hz
  obtain ⟨W5, eW5⟩ : ∃ X, X = (w3.alloc (.cells #[.int .i64 0, .int .i64 0, .string ⟨#[]⟩, .string ⟨#[]⟩, .slice none 0 0, .slice none 0 0] 27)).setRow w3.heap.size #[.int .i64 0, .int .i64 0, .string ⟨#[114, 111, 111, 116]⟩, .string ⟨#[]⟩, .slice aa 0 ca, .slice (some ⟨b2, o2, none⟩) 1 ck] := ⟨_, rfl⟩
  have hb5 : Below w3.heap.size w3 W5 := (by rw [eW5]; exact ((Below.refl _ _).alloc (Nat.le_refl _) _).grown (grown_setRow _ _ _) (by simp) (fun k e => by cases e; exact Nat.le_refl _))
  obtain ⟨tb, etb⟩ : ∃ n, n = w3.heap.size := ⟨_, rfl⟩
  have HP : Hid (AwS w tb aa ca b2 o2 ck W5) := hide9 ⟨by rw [eW5, etb]; exact setRow_same hz, (hb5.block _ (row_lt HS3.out)).trans HS3.out, (hb5.cell (p := ⟨b2, o2, none⟩) HQ.out.2.2.2).trans HQ.out.1, (hb5.cell (p := ⟨b2, o2 + 1, none⟩) HQ.out.2.2.2).trans HQ.out.2.1, (hb5.cell (p := ⟨b2, o2 + 2, none⟩) HQ.out.2.2.2).trans HQ.out.2.2.1, Nat.lt_of_lt_of_le HQ.out.2.2.2 hb5.size, HB3.out.trans (hb5.mono HB3.out.size)⟩
  have HE5 := hide9 (And.intro eW5 etb)
  clear hz hb5 eW5 etb HQ HB3 HS3
  try simp only [tAw, VT.k, VT.tg, VT.tx, VT.at_, VT.ks, List.length_nil, List.length_cons]
  go_upto_region 3 with (refine wpList_store_row rfl 27 (.tmp 2) (.tmp 14) rfl w3.heap.size 27 #[.int .i64 0, .int .i64 0, .string ⟨#[]⟩, .string ⟨#[]⟩, .slice none 0 0, .slice none 0 0] #[.int .i64 0, .int .i64 0, .string ⟨#[114, 111, 111, 116]⟩, .string ⟨#[]⟩, .slice aa 0 ca, .slice (some ⟨b2, o2, none⟩) 1 ck] rfl rfl Hz.out sizeVN rfl (by simp [Value.oneCell']) ?_)
  rw [← HE5.out.1, ← HE5.out.2]
  clear HE5 Hz
  refine wp_region_held_drew (S := fun W' => AwS w tb aa ca b2 o2 ck W') (by kernel_rfl) (HP.out.below (Below.refl _ _).drew) (fun hHeld => ?_)
  obtain ⟨Uw1u0, eW⟩ : ∃ X, X = W5.drew := ⟨_, rfl⟩
  have hb : Below W5.heap.size W5 Uw1u0 := by rw [eW]; exact (Below.refl _ _).drew
  replace HP : Hid (AwS w tb aa ca b2 o2 ck Uw1u0) := HP.out.below hb
  rw [← eW] at hHeld ⊢
  clear eW hb
  refine tkW 0 (some 17) (v := ?_) ?_ hHeld ?_
  rotate_left
  · (intro ww _; go_simp; try with_reducible rfl)
  refine tkW 1 (some 18) (v := ?_) ?_ hHeld ?_
  rotate_left
  · (intro ww hSw; (try dsimp only at hSw); obtain ⟨r0, r1, r2, r3, r4, r5⟩ := row6 hSw.tr; have s0 : ww.cell? ⟨w.heap.size, 0, none⟩ = some (.int .i64 1) := (by rw [cell_of_row _ _ _ _ _ _ hSw.st]; rfl); have s1 : ww.cell? ⟨w.heap.size, 1, none⟩ = some (.int .i64 0) := (by rw [cell_of_row _ _ _ _ _ _ hSw.st]; rfl); have k0 := hSw.k0; have k1 := hSw.k1; have k2 := hSw.k2; have heq := eqlSt 1 0 1 0 ww; go_simp; try with_reducible rfl)
  refine tkW 2 (some 19) (v := ?_) ?_ hHeld ?_
  rotate_left
  · (intro ww _; go_simp; try with_reducible rfl)
  refine tkW 3 (some 20) (v := ?_) ?_ hHeld ?_
  rotate_left
  · (intro ww _; go_simp; try with_reducible rfl)
  refine tkW 4 (some 21) (v := ?_) ?_ hHeld ?_
  rotate_left
  · (intro ww hSw; (try dsimp only at hSw); obtain ⟨r0, r1, r2, r3, r4, r5⟩ := row6 hSw.tr; have s0 : ww.cell? ⟨w.heap.size, 0, none⟩ = some (.int .i64 1) := (by rw [cell_of_row _ _ _ _ _ _ hSw.st]; rfl); have s1 : ww.cell? ⟨w.heap.size, 1, none⟩ = some (.int .i64 0) := (by rw [cell_of_row _ _ _ _ _ _ hSw.st]; rfl); have k0 := hSw.k0; have k1 := hSw.k1; have k2 := hSw.k2; have heq := eqlSt 1 0 1 0 ww; go_simp; try with_reducible rfl)
  refine tkW 5 (some 22) (v := ?_) ?_ hHeld ?_
  rotate_left
  · (intro ww _; go_simp; try with_reducible rfl)
  refine tkW 6 (some 23) (v := ?_) ?_ hHeld ?_
  rotate_left
  · (intro ww _; go_simp; try with_reducible rfl)
  refine tkW 7 (some 24) (v := ?_) ?_ hHeld ?_
  rotate_left
  · (intro ww _; go_simp; try with_reducible rfl)
  refine tkW 8 (some 25) (v := ?_) ?_ hHeld ?_
  rotate_left
  · (intro ww hSw; (try dsimp only at hSw); obtain ⟨r0, r1, r2, r3, r4, r5⟩ := row6 hSw.tr; have s0 : ww.cell? ⟨w.heap.size, 0, none⟩ = some (.int .i64 1) := (by rw [cell_of_row _ _ _ _ _ _ hSw.st]; rfl); have s1 : ww.cell? ⟨w.heap.size, 1, none⟩ = some (.int .i64 0) := (by rw [cell_of_row _ _ _ _ _ _ hSw.st]; rfl); have k0 := hSw.k0; have k1 := hSw.k1; have k2 := hSw.k2; have heq := eqlSt 1 0 1 0 ww; go_simp; try with_reducible rfl)
  refine tkW 9 (some 26) (v := ?_) ?_ hHeld ?_
  rotate_left
  · (intro ww hSw; (try dsimp only at hSw); obtain ⟨r0, r1, r2, r3, r4, r5⟩ := row6 hSw.tr; have s0 : ww.cell? ⟨w.heap.size, 0, none⟩ = some (.int .i64 1) := (by rw [cell_of_row _ _ _ _ _ _ hSw.st]; rfl); have s1 : ww.cell? ⟨w.heap.size, 1, none⟩ = some (.int .i64 0) := (by rw [cell_of_row _ _ _ _ _ _ hSw.st]; rfl); have k0 := hSw.k0; have k1 := hSw.k1; have k2 := hSw.k2; have heq := eqlSt 1 0 1 0 ww; go_simp; try with_reducible rfl)
  refine tkW 10 (some 27) (v := ?_) ?_ hHeld ?_
  rotate_left
  · (intro ww hSw; (try dsimp only at hSw); obtain ⟨r0, r1, r2, r3, r4, r5⟩ := row6 hSw.tr; have s0 : ww.cell? ⟨w.heap.size, 0, none⟩ = some (.int .i64 1) := (by rw [cell_of_row _ _ _ _ _ _ hSw.st]; rfl); have s1 : ww.cell? ⟨w.heap.size, 1, none⟩ = some (.int .i64 0) := (by rw [cell_of_row _ _ _ _ _ _ hSw.st]; rfl); have k0 := hSw.k0; have k1 := hSw.k1; have k2 := hSw.k2; have heq := eqlSt 1 0 1 0 ww; go_simp; try with_reducible rfl)
  refine tkW 11 (some 28) (v := ?_) ?_ hHeld ?_
  rotate_left
  · (intro ww _; go_simp; try with_reducible rfl)
  refine tkW 12 (some 29) (v := ?_) ?_ hHeld ?_
  rotate_left
  · (intro ww _; go_simp; try with_reducible rfl)
  refine tkW 13 (some 30) (v := ?_) ?_ hHeld ?_
  rotate_left
  · (intro ww _; go_simp; try with_reducible rfl)
  refine tkW 14 (some 31) (v := ?_) ?_ hHeld ?_
  rotate_left
  · (intro ww hSw; (try dsimp only at hSw); obtain ⟨r0, r1, r2, r3, r4, r5⟩ := row6 hSw.tr; have s0 : ww.cell? ⟨w.heap.size, 0, none⟩ = some (.int .i64 1) := (by rw [cell_of_row _ _ _ _ _ _ hSw.st]; rfl); have s1 : ww.cell? ⟨w.heap.size, 1, none⟩ = some (.int .i64 0) := (by rw [cell_of_row _ _ _ _ _ _ hSw.st]; rfl); have k0 := hSw.k0; have k1 := hSw.k1; have k2 := hSw.k2; have heq := eqlSt 1 0 1 0 ww; go_simp; try with_reducible rfl)
  refine tkW 15 (some 32) (v := ?_) ?_ hHeld ?_
  rotate_left
  · (intro ww hSw; (try dsimp only at hSw); obtain ⟨r0, r1, r2, r3, r4, r5⟩ := row6 hSw.tr; have s0 : ww.cell? ⟨w.heap.size, 0, none⟩ = some (.int .i64 1) := (by rw [cell_of_row _ _ _ _ _ _ hSw.st]; rfl); have s1 : ww.cell? ⟨w.heap.size, 1, none⟩ = some (.int .i64 0) := (by rw [cell_of_row _ _ _ _ _ _ hSw.st]; rfl); have k0 := hSw.k0; have k1 := hSw.k1; have k2 := hSw.k2; have heq := eqlSt 1 0 1 0 ww; go_simp; try with_reducible rfl)
  refine tkW 16 (some 33) (v := ?_) ?_ hHeld ?_
  rotate_left
  · (intro ww _; go_simp; try with_reducible rfl)
  refine tkW 17 (some 34) (v := ?_) ?_ hHeld ?_
  rotate_left
  · (intro ww hSw; (try dsimp only at hSw); obtain ⟨r0, r1, r2, r3, r4, r5⟩ := row6 hSw.tr; have s0 : ww.cell? ⟨w.heap.size, 0, none⟩ = some (.int .i64 1) := (by rw [cell_of_row _ _ _ _ _ _ hSw.st]; rfl); have s1 : ww.cell? ⟨w.heap.size, 1, none⟩ = some (.int .i64 0) := (by rw [cell_of_row _ _ _ _ _ _ hSw.st]; rfl); have k0 := hSw.k0; have k1 := hSw.k1; have k2 := hSw.k2; have heq := eqlSt 1 0 1 0 ww; go_simp; try with_reducible rfl)
  refine tkW 18 (some 35) (v := ?_) ?_ hHeld ?_
  rotate_left
  · (intro ww hSw; (try dsimp only at hSw); obtain ⟨r0, r1, r2, r3, r4, r5⟩ := row6 hSw.tr; have s0 : ww.cell? ⟨w.heap.size, 0, none⟩ = some (.int .i64 1) := (by rw [cell_of_row _ _ _ _ _ _ hSw.st]; rfl); have s1 : ww.cell? ⟨w.heap.size, 1, none⟩ = some (.int .i64 0) := (by rw [cell_of_row _ _ _ _ _ _ hSw.st]; rfl); have k0 := hSw.k0; have k1 := hSw.k1; have k2 := hSw.k2; have heq := eqlSt 1 0 1 0 ww; go_simp; try with_reducible rfl)
  refine tkW 19 (some 36) (v := ?_) ?_ hHeld ?_
  rotate_left
  · (intro ww hSw; (try dsimp only at hSw); obtain ⟨r0, r1, r2, r3, r4, r5⟩ := row6 hSw.tr; have s0 : ww.cell? ⟨w.heap.size, 0, none⟩ = some (.int .i64 1) := (by rw [cell_of_row _ _ _ _ _ _ hSw.st]; rfl); have s1 : ww.cell? ⟨w.heap.size, 1, none⟩ = some (.int .i64 0) := (by rw [cell_of_row _ _ _ _ _ _ hSw.st]; rfl); have k0 := hSw.k0; have k1 := hSw.k1; have k2 := hSw.k2; have heq := eqlSt 1 0 1 0 ww; go_simp; try with_reducible rfl)
  refine tkW 20 (some 37) (v := ?_) ?_ hHeld ?_
  rotate_left
  · (intro ww _; go_simp; try with_reducible rfl)
  refine tkW 21 (some 38) (v := ?_) ?_ hHeld ?_
  rotate_left
  · (intro ww _; go_simp; try with_reducible rfl)
  refine tkW 22 (some 39) (v := ?_) ?_ hHeld ?_
  rotate_left
  · (intro ww _; go_simp; try with_reducible rfl)
  refine tkW 23 (some 40) (v := ?_) ?_ hHeld ?_
  rotate_left
  · (intro ww hSw; (try dsimp only at hSw); obtain ⟨r0, r1, r2, r3, r4, r5⟩ := row6 hSw.tr; have s0 : ww.cell? ⟨w.heap.size, 0, none⟩ = some (.int .i64 1) := (by rw [cell_of_row _ _ _ _ _ _ hSw.st]; rfl); have s1 : ww.cell? ⟨w.heap.size, 1, none⟩ = some (.int .i64 0) := (by rw [cell_of_row _ _ _ _ _ _ hSw.st]; rfl); have k0 := hSw.k0; have k1 := hSw.k1; have k2 := hSw.k2; have heq := eqlSt 1 0 1 0 ww; go_simp; try with_reducible rfl)
  refine tkW 24 (some 41) (v := ?_) ?_ hHeld ?_
  rotate_left
  · (intro ww hSw; (try dsimp only at hSw); obtain ⟨r0, r1, r2, r3, r4, r5⟩ := row6 hSw.tr; have s0 : ww.cell? ⟨w.heap.size, 0, none⟩ = some (.int .i64 1) := (by rw [cell_of_row _ _ _ _ _ _ hSw.st]; rfl); have s1 : ww.cell? ⟨w.heap.size, 1, none⟩ = some (.int .i64 0) := (by rw [cell_of_row _ _ _ _ _ _ hSw.st]; rfl); have k0 := hSw.k0; have k1 := hSw.k1; have k2 := hSw.k2; have heq := eqlSt 1 0 1 0 ww; go_simp; try with_reducible rfl)
  refine tkW 25 (some 42) (v := ?_) ?_ hHeld ?_
  rotate_left
  · (intro ww _; go_simp; try with_reducible rfl)
  refine tkW 26 (some 43) (v := ?_) ?_ hHeld ?_
  rotate_left
  · (intro ww hSw; (try dsimp only at hSw); obtain ⟨r0, r1, r2, r3, r4, r5⟩ := row6 hSw.tr; have s0 : ww.cell? ⟨w.heap.size, 0, none⟩ = some (.int .i64 1) := (by rw [cell_of_row _ _ _ _ _ _ hSw.st]; rfl); have s1 : ww.cell? ⟨w.heap.size, 1, none⟩ = some (.int .i64 0) := (by rw [cell_of_row _ _ _ _ _ _ hSw.st]; rfl); have k0 := hSw.k0; have k1 := hSw.k1; have k2 := hSw.k2; have heq := eqlSt 1 0 1 0 ww; go_simp; try with_reducible rfl)
  refine tkW 27 (some 44) (v := ?_) ?_ hHeld ?_
  rotate_left
  · (intro ww hSw; (try dsimp only at hSw); obtain ⟨r0, r1, r2, r3, r4, r5⟩ := row6 hSw.tr; have s0 : ww.cell? ⟨w.heap.size, 0, none⟩ = some (.int .i64 1) := (by rw [cell_of_row _ _ _ _ _ _ hSw.st]; rfl); have s1 : ww.cell? ⟨w.heap.size, 1, none⟩ = some (.int .i64 0) := (by rw [cell_of_row _ _ _ _ _ _ hSw.st]; rfl); have k0 := hSw.k0; have k1 := hSw.k1; have k2 := hSw.k2; have heq := eqlSt 1 0 1 0 ww; go_simp; try with_reducible rfl)
  refine tkW 28 (some 45) (v := ?_) ?_ hHeld ?_
  rotate_left
  · (intro ww _; go_simp; try with_reducible rfl)
  refine tkW 29 (some 46) (v := ?_) ?_ hHeld ?_
  rotate_left
  · (intro ww _; go_simp; try with_reducible rfl)
  refine tkW 30 (some 47) (v := ?_) ?_ hHeld ?_
  rotate_left
  · (intro ww hSw; (try dsimp only at hSw); obtain ⟨r0, r1, r2, r3, r4, r5⟩ := row6 hSw.tr; have s0 : ww.cell? ⟨w.heap.size, 0, none⟩ = some (.int .i64 1) := (by rw [cell_of_row _ _ _ _ _ _ hSw.st]; rfl); have s1 : ww.cell? ⟨w.heap.size, 1, none⟩ = some (.int .i64 0) := (by rw [cell_of_row _ _ _ _ _ _ hSw.st]; rfl); have k0 := hSw.k0; have k1 := hSw.k1; have k2 := hSw.k2; have heq := eqlSt 1 0 1 0 ww; go_simp; try with_reducible rfl)
  refine wpAnyH_ready (rs := [31]) (by kernel_rfl) (by simp) ?_
  refine AllReadyH.cons (o := ⟨some 48, _, _, _, _, _⟩) rfl (fun K hK => ?_) AllReadyH.nil
  go_simp
  refine (checkP_any pZe _ (by decide)).mono ?_
  rintro e Uw1u1 ⟨rfl, hb⟩
  rw [chk_zero]
  (try go_wp2_with fail)
  refine hK.out _ _ (hHeld.below hb) (fun hHeld2 => ?_)
  clear hK K hHeld
  have hHeld := hHeld2
  clear hHeld2
  (try simp only [Act.put, List.setIfInBounds_toArray, List.set_cons_zero, List.set_cons_succ])
  replace HP : Hid (AwS w tb aa ca b2 o2 ck Uw1u1) := HP.out.below hb
  clear hb
  refine tkW 32 (some 49) (v := ?_) ?_ hHeld ?_
  rotate_left
  · (intro ww hSw; (try dsimp only at hSw); obtain ⟨r0, r1, r2, r3, r4, r5⟩ := row6 hSw.tr; have s0 : ww.cell? ⟨w.heap.size, 0, none⟩ = some (.int .i64 1) := (by rw [cell_of_row _ _ _ _ _ _ hSw.st]; rfl); have s1 : ww.cell? ⟨w.heap.size, 1, none⟩ = some (.int .i64 0) := (by rw [cell_of_row _ _ _ _ _ _ hSw.st]; rfl); have k0 := hSw.k0; have k1 := hSw.k1; have k2 := hSw.k2; have heq := eqlSt 1 0 1 0 ww; go_simp; try with_reducible rfl)
  refine tkW 33 (some 50) (v := ?_) ?_ hHeld ?_
  rotate_left
  · (intro ww _; go_simp; try with_reducible rfl)
  refine tkW 34 (some 0) (v := ?_) ?_ hHeld ?_
  rotate_left
  · (intro ww _; go_simp; try with_reducible rfl)
  refine wpAnyH_done (by kernel_rfl) ?_ _
  clear hHeld
  go_wp2
  go_ret
  exact ⟨rfl, HP.out.bel⟩

end Go.Proofs.Ytccpljllgpabnab

namespace Go.Proofs.Ytccpljllgpabnab
open Go.RowKit
set_option linter.unusedVariables false
set_option linter.unusedSimpArgs false

theorem cmpB_lt : ∀ (a b : List UInt8), (Lib.compareBytes a b < 0) ↔ a < b
  | [], [] => by simp [Lib.compareBytes]
  | [], _ :: _ => by simp [Lib.compareBytes]
  | _ :: _, [] => by simp [Lib.compareBytes]
  | a :: ar, b :: br => by
    rw [Lib.compareBytes, List.cons_lt_cons_iff]
    by_cases h1 : a < b
    · simp [h1]
    · rw [if_neg h1]
      by_cases h2 : b < a
      · have h3 : a ≠ b := fun e => by rw [e] at h2; exact UInt8.lt_irrefl _ h2
        rw [if_pos h2]
        simp [h1, h3]
      · have e : a = b := UInt8.le_antisymm (UInt8.not_lt.1 h2) (UInt8.not_lt.1 h1)
        rw [if_neg h2, cmpB_lt ar br]
        simp [e]
theorem cmpB_eq : ∀ (a b : List UInt8), Lib.compareBytes a b = 0 ↔ a = b
  | [], [] => by simp [Lib.compareBytes]
  | [], _ :: _ => by simp [Lib.compareBytes]
  | _ :: _, [] => by simp [Lib.compareBytes]
  | a :: ar, b :: br => by
    rw [Lib.compareBytes, List.cons.injEq]
    by_cases h1 : a < b
    · have h3 : a ≠ b := fun e => by rw [e] at h1; exact UInt8.lt_irrefl _ h1
      simp [h1, h3]
    · rw [if_neg h1]
      by_cases h2 : b < a
      · have h3 : a ≠ b := fun e => by rw [e] at h2; exact UInt8.lt_irrefl _ h2
        rw [if_pos h2]
        simp [h3]
      · have e : a = b := UInt8.le_antisymm (UInt8.not_lt.1 h2) (UInt8.not_lt.1 h1)
        rw [if_neg h2, cmpB_eq ar br]
        simp [e]
def cmpT (a b : ByteArray) : Int := Lib.compareBytes (txL a) (txL b)
theorem cmpT_lt (a b : ByteArray) : decide (cmpT a b < 0) = ltT a b := decide_eq_decide.2 (cmpB_lt _ _)
theorem cmpT_eq (a b : ByteArray) : (cmpT a b == 0) = decide (a = b) := by
  rw [Bool.eq_iff_iff, beq_iff_eq, decide_eq_true_eq]
  exact (cmpB_eq _ _).trans ⟨tx_ext, fun e => by rw [e]⟩

set_option maxRecDepth 100000 in
set_option maxHeartbeats 2000000 in
theorem cmpN_any (a b : ByteArray) (w : World) : Calls Try.prog 75 #[.string a, .string b] w fun e w' => e = .returned (.int .i64 (cmpT a b)) ∧ w' = w := by
  go_enter Try.func75, Try.ntmps75
  go_wp2
  rw [run_callFunc_extern Try.func80 (by kernel_rfl) (by kernel_rfl) (by kernel_rfl) (e := Extern.BytealgCompare.compare) (by kernel_rfl), Lib.run_compareString]
  simp only [Result.andThen]
  rw [Oper.upon_value]
  go_wp2
  go_ret
  exact ⟨rfl, rfl⟩
theorem cmpStr_any (a b : ByteArray) (w : World) : Calls Try.prog 67 #[.string a, .string b] w fun e w' => e = .returned (.int .i64 (cmpT a b)) ∧ w' = w := by
  go_enter Try.func67, Try.ntmps67
  go_wp2_with (go_at_call 75; refine (cmpN_any _ _ _).mono ?_; rintro e w1 ⟨rfl, rfl⟩)
  go_ret
  exact ⟨rfl, rfl⟩
theorem cmpA_any (x : At) (nm : ByteArray) (w : World) : Calls Try.prog 66 #[.agg #[.string x.1, .string x.2], .string nm] w fun e w' => e = .returned (.int .i64 (cmpT x.1 nm)) ∧ Below w.heap.size w w' := by
  have b0 : (w.alloc (.cells #[.string x.1, .string x.2] 59)).cell? ⟨w.heap.size, 0, none⟩ = some (.string x.1) := by rw [cell_of_row _ _ _ _ _ _ (heap_alloc_new w _)]; rfl
  go_enter Try.func66, Try.ntmps66
  go_wp2_with (go_at_call 67; refine (cmpStr_any _ _ _).mono ?_; rintro e w1 ⟨rfl, rfl⟩)
  go_ret
  exact ⟨rfl, (Below.refl _ _).alloc (Nat.le_refl _) _⟩

/-- Where a name stands, or would. -/
def PlcA (R : List At) (nm : ByteArray) (i : Nat) : Prop := i ≤ R.length ∧ (∀ j (h : j < R.length), j < i → ltT R[j].1 nm = true) ∧ ∀ j (h : j < R.length), i ≤ j → ltT R[j].1 nm = false
/-- What a search answers. -/
def SrchA (R : List At) (nm : ByteArray) (w : World) (e : Ending) (w' : World) : Prop := ∃ (i : Nat) (b : Bool), e = .returned (.tuple #[.int .i64 (i : Int), .bool b]) ∧ PlcA R nm i ∧ b = decide (∃ h : i < R.length, R[i].1 = nm) ∧ Below w.heap.size w w'

set_option maxRecDepth 100000 in
set_option maxHeartbeats 4000000 in
theorem searchA_any (B : Nat) (v : Value) (R : List At) (nm : ByteArray) (w : World) (h : OwnAt B w v R) (hl : R.length ≤ 4096) (hs : R.Pairwise fun a b => ltT a.1 b.1 = true) :
    Calls Try.prog 65 #[v, .string nm, .func (.func 66) #[] #[]] w fun e w' => SrchA R nm w e w' := by
  have HS : Hid (∀ i j (hi : i < R.length) (hj : j < R.length), i < j → ltT R[i].1 R[j].1 = true) := fun i j hi hj hij => List.pairwise_iff_getElem.1 hs i j hi hj hij
  obtain ⟨a0, c0, e0⟩ := OwnE.form h
  subst e0
  have HO := hide9 h
  clear h hs
  go_enter Try.func65, Try.ntmps65
  go_wp2
  go_loopw [9, 10] (fun iv jv wr => ∃ lo hi : Nat, iv = .int .i64 (lo : Int) ∧ jv = .int .i64 (hi : Int) ∧ lo ≤ hi ∧ hi ≤ R.length ∧ Hid (∀ j (h : j < R.length), j < lo → ltT R[j].1 nm = true) ∧ Hid (∀ j (h : j < R.length), hi ≤ j → ltT R[j].1 nm = false) ∧ Hid (Below w.heap.size w wr)) (fun iv jv _ => (intOf jv).toNat - (intOf iv).toNat)
  case atStart => exact ⟨0, R.length, rfl, rfl, Nat.zero_le _, Nat.le_refl _, fun j _ h => absurd h (Nat.not_lt_zero _), fun j h1 h2 => absurd h1 (by omega), Below.refl _ _⟩
  case round =>
    obtain ⟨lo, hi, rfl, rfl, hlh, hhl, H1, H2, HK⟩ := hrel
    by_cases hlt : lo < hi
    · have k1 : (lo : Int) < (hi : Int) := by omega
      obtain ⟨m, hm⟩ : ∃ m : Nat, m = (lo + hi) / 2 := ⟨_, rfl⟩
      have hmd : m < R.length := by omega
      have hm1 : lo ≤ m := by omega
      have hm2 : m < hi := by omega
      have HM : Hid (((lo : Int) + (hi : Int)) / 2 = (m : Int)) := by show _ = _; omega
      clear hm
      obtain ⟨g, cap, ev, hcap, hcs, _⟩ := OwnE.cells atCells_len HO.out hmd
      injection ev with e1 e8 e9
      subst e1
      clear e8 e9
      have hgl := (OwnE.lt HO.out g rfl).2
      obtain ⟨x, hx⟩ : ∃ x, x = R[m] := ⟨_, rfl⟩
      rw [← hx] at hcs
      have p0 : wr.cell? ⟨g, m * 2, none⟩ = some (.string x.1) := (HK.out.cell (p := ⟨g, m * 2, none⟩) hgl).trans (hcs 0 _ rfl)
      have p1 : wr.cell? ⟨g, m * 2 + 1, none⟩ = some (.string x.2) := (HK.out.cell (p := ⟨g, m * 2 + 1, none⟩) hgl).trans (hcs 1 _ rfl)
      have HL : Hid (ltT R[m].1 nm = ltT x.1 nm) := by rw [hx]; exact rfl
      obtain ⟨cv, hcv⟩ : ∃ cv, cv = cmpT x.1 nm := ⟨_, rfl⟩
      have HC : Hid (decide (cv < 0) = ltT x.1 nm) := by rw [hcv]; exact cmpT_lt x.1 nm
      have HCv := hide9 hcv
      clear hx hcs hcap hcv hgl
      have km : (m : Int) < (R.length : Int) := by omega
      have km0 : (0 : Int) ≤ (m : Int) := by omega
      go_upto_region 5 with fail
      rw [HM.out]
      clear HM
      by_cases hc : cv < 0
      · have hcd : decide (cv < 0) = true := by simp [hc]
        have H1b : Hid (∀ j (h : j < R.length), j < m + 1 → ltT R[j].1 nm = true) := fun j hj hjm => by
          have hmt : ltT R[m].1 nm = true := by rw [HL.out, ← HC.out, hcd]
          rcases Nat.lt_or_ge j m with h' | h'
          · exact ltT_trans (HS.out j m hj hmd h') hmt
          · obtain rfl : j = m := by omega
            exact hmt
        clear hcd
        go_wp2_with (go_at_call 66; refine (cmpA_any x nm _).mono ?_; rintro e w1 ⟨rfl, hb⟩; rw [← HCv.out]; have HK1 : Hid (Below w.heap.size w w1) := HK.out.trans (hb.mono HK.out.size); clear hb p0 p1)
        go_roundw
        case rel => exact ⟨m + 1, hi, by first | rfl | go_num, rfl, by omega, by omega, H1b, H2, HK1⟩
        case measure => simp [intOf]; omega
      · have hcd : decide (cv < 0) = false := by simp [hc]
        have H2b : Hid (∀ j (h : j < R.length), m ≤ j → ltT R[j].1 nm = false) := fun j hj hjm => by
          have hmt : ltT R[m].1 nm = false := by rw [HL.out, ← HC.out, hcd]
          rcases Nat.lt_or_ge m j with h' | h'
          · cases hx : ltT R[j].1 nm with
            | false => rfl
            | true => rw [ltT_trans (HS.out m j hmd hj h') hx] at hmt; cases hmt
          · obtain rfl : j = m := by omega
            exact hmt
        clear hcd
        go_wp2_with (go_at_call 66; refine (cmpA_any x nm _).mono ?_; rintro e w1 ⟨rfl, hb⟩; rw [← HCv.out]; have HK1 : Hid (Below w.heap.size w w1) := HK.out.trans (hb.mono HK.out.size); clear hb p0 p1)
        go_roundw
        case rel => exact ⟨lo, m, rfl, by first | rfl | go_num, by omega, by omega, H1, H2b, HK1⟩
        case measure => simp [intOf]; omega
    · obtain rfl : hi = lo := by omega
      have HPl : Hid (PlcA R nm hi) := ⟨hhl, H1.out, H2.out⟩
      clear hlh
      by_cases hn : hi < R.length
      · obtain ⟨g, cap, ev, hcap, hcs, _⟩ := OwnE.cells atCells_len HO.out hn
        injection ev with e1 e8 e9
        subst e1
        clear e8 e9
        have hgl := (OwnE.lt HO.out g rfl).2
        obtain ⟨x, hx⟩ : ∃ x, x = R[hi] := ⟨_, rfl⟩
        rw [← hx] at hcs
        have p0 : wr.cell? ⟨g, hi * 2, none⟩ = some (.string x.1) := (HK.out.cell (p := ⟨g, hi * 2, none⟩) hgl).trans (hcs 0 _ rfl)
        have p1 : wr.cell? ⟨g, hi * 2 + 1, none⟩ = some (.string x.2) := (HK.out.cell (p := ⟨g, hi * 2 + 1, none⟩) hgl).trans (hcs 1 _ rfl)
        have HEq : Hid ((cmpT x.1 nm == 0) = decide (∃ h : hi < R.length, R[hi].1 = nm)) := by
          show _ = _
          rw [cmpT_eq]
          exact decide_eq_decide.2 ⟨fun e => ⟨hn, by rw [← hx]; exact e⟩, fun ⟨_, e⟩ => by rw [← hx] at e; exact e⟩
        have k1 : ¬ (hi : Int) < (hi : Int) := by omega
        have km : (hi : Int) < (R.length : Int) := by omega
        have km0 : (0 : Int) ≤ (hi : Int) := by omega
        obtain ⟨bv, hbv⟩ : ∃ bv, bv = (cmpT x.1 nm == 0) := ⟨_, rfl⟩
        have HBv := hide9 hbv
        clear hx hcs hcap hgl hbv
        go_wp2_with (go_at_call 66; refine (cmpA_any x nm _).mono ?_; rintro e w1 ⟨rfl, hb⟩; have HK1 : Hid (Below w.heap.size w w1) := HK.out.trans (hb.mono HK.out.size); clear hb p0 p1)
        go_ret2
        exact ⟨hi, _, rfl, HPl.out, HEq.out, HK1.out⟩
      · have HEq : Hid (false = decide (∃ h : hi < R.length, R[hi].1 = nm)) := (decide_eq_false (fun ⟨h, _⟩ => hn h)).symm
        have k1 : ¬ (hi : Int) < (hi : Int) := by omega
        have km : ¬ (hi : Int) < (R.length : Int) := by omega
        go_wp2
        go_ret2
        exact ⟨hi, _, rfl, HPl.out, HEq.out, HK.out⟩

end Go.Proofs.Ytccpljllgpabnab

namespace Go.Proofs.Ytccpljllgpabnab
open Go.RowKit
set_option linter.unusedVariables false
set_option linter.unusedSimpArgs false

theorem sizeAttr : (Try.prog.info? 59).map (·.size) = some 2 := by kernel_rfl
theorem sizeOfAttr (w : World) : (Go.sizeOf 59).run Try.prog w = .ok 2 w := by kernel_rfl
/-- copy, of rows. -/
theorem run_copyM (w : World) (ty : TypeId) (g o dLen dCap : Nat) (a : Addr) (sLen sCap : Nat) (cur : List Value) (t : TypeId) (cs : List Value) (n : Nat)
    (hg : w.heap[g]? = some (.cells cur.toArray t (0, 0))) (hn : n = Nat.min sLen dLen) (hc : cs.length = n * 2)
    (hsrc : ∀ j v, cs[j]? = some v → w.cell? (a.add j) = some v) (hfit : o + cs.length ≤ cur.length) (h1 : ∀ v ∈ cs, v.oneCell' = true) :
    (Builtin.copy_ #[24, 24] ty #[.slice (some ⟨g, o, none⟩) dLen dCap, .slice (some a) sLen sCap]).run Try.prog w = .ok (goInt n) (w.setRow g (splice cur o cs).toArray) := by
  have hl := run_loadCells_list (P := Try.prog) w a cs hsrc
  have hst := run_storeCells_at Try.prog g o t cs 0 cur.toArray w hg (by simpa using hfit) h1
  have hq := sizeAttr
  cases hi : Try.prog.info? 59 with
  | none => simp [hi] at hq
  | some i =>
    have hz : i.size = 2 := by simpa [hi] using hq
    rw [hc] at hl
    simp [Builtin.copy_, run_underlying Try.underlying24, Builtin.lenOf, Builtin.firstCells, sizeOf, typeInfo, hi, hz, ← hn, hl, hst, splice]

theorem atCells_one (x : At) : ∀ u ∈ atCells x, u.oneCell' = true := by
  intro u hu
  simp only [atCells, List.mem_cons, List.not_mem_nil, or_false] at hu
  rcases hu with rfl | rfl <;> rfl
theorem flat_one (D : List At) : ∀ u ∈ flatE atCells D, u.oneCell' = true := by
  intro u hu
  simp only [flatE, List.mem_flatMap] at hu
  obtain ⟨x, _, hu⟩ := hu
  exact atCells_one x u hu
theorem infoAttr : (Try.prog.info? 59).map (fun i => (i.zero, i.size, i.bytes)) = some (some (.agg #[.string ⟨#[]⟩, .string ⟨#[]⟩]), 2, 32) := by kernel_rfl
/-- Two cells between the parts of a row: in place, .. -/
theorem splice_room (X Y Z N : List Value) (hN : N.length = 2) (hZ : 2 ≤ Z.length) : splice (splice (X ++ (Y ++ Z)) (X.length + 2) Y) X.length N = X ++ (N ++ (Y ++ Z.drop 2)) := by
  unfold splice
  have e1 : ((X ++ (Y ++ Z)).take (X.length + 2) ++ (Y ++ (X ++ (Y ++ Z)).drop (X.length + 2 + Y.length))).take X.length = X := by
    rw [List.take_append_of_le_length (by simp), List.take_take, Nat.min_eq_left (by omega), List.take_left]
  have e2 : ((X ++ (Y ++ Z)).take (X.length + 2) ++ (Y ++ (X ++ (Y ++ Z)).drop (X.length + 2 + Y.length))).drop (X.length + N.length) = Y ++ (X ++ (Y ++ Z)).drop (X.length + 2 + Y.length) := by
    have hl : ((X ++ (Y ++ Z)).take (X.length + 2)).length = X.length + N.length := by simp; omega
    rw [← hl, List.drop_left]
  have e3 : (X ++ (Y ++ Z)).drop (X.length + 2 + Y.length) = Z.drop 2 := by
    rw [show X.length + 2 + Y.length = X.length + (Y.length + 2) by omega, List.drop_append, List.drop_append, show X.drop (X.length + (Y.length + 2)) = [] from List.drop_eq_nil_of_le (by omega), show Y.drop (X.length + (Y.length + 2) - X.length) = [] from List.drop_eq_nil_of_le (by omega)]
    simp
  rw [e1, e2, e3]
/-- .. and in a new row. -/
theorem splice_grow (X Y Z N : List Value) (hN : N.length = 2) (hZ : 2 + Y.length ≤ Z.length) : splice (splice (X ++ Z) X.length N) (X.length + 2) Y = X ++ (N ++ (Y ++ Z.drop (2 + Y.length))) := by
  unfold splice
  have e0 : (X ++ Z).take X.length ++ (N ++ (X ++ Z).drop (X.length + N.length)) = (X ++ N) ++ Z.drop 2 := by
    rw [List.take_left, List.drop_append]
    simp [hN]
  rw [e0]
  have hl : (X ++ N).length = X.length + 2 := by simp [hN]
  rw [← hl, List.take_left, List.drop_append]
  simp [Nat.add_comm]

set_option maxHeartbeats 4000000 in
set_option maxRecDepth 100000 in
theorem insert_end (v : Value) (d : List At) (x : At) (vb : Nat) (w : World) (h : OwnAt 0 w v d) (hl : d.length ≤ 4096) (hv : w.heap[vb]? = some (.cells (atCells x).toArray 59)) :
    Calls Try.prog 55 #[v, .int .i64 (d.length : Int), .slice (some ⟨vb, 0, none⟩) 1 1] w fun e w' => ∃ v', e = .returned v' ∧ OwnAt 0 w' v' (d ++ [x]) ∧ w.grownBy w' v.ownBlock ∧ (v'.ownBlock = v.ownBlock ∨ v'.ownBlock = some w.heap.size) := by
  obtain ⟨i0, hi, hz0, hz1, hz2⟩ := info_parts infoAttr
  have H : Hid (OwnAt 0 w v d) := h
  have hnews : ∀ j u, (atCells x)[j]? = some u → w.cell? ((⟨vb, 0, none⟩ : Addr).add j) = some u := fun j u hj => by
    rw [Addr.add_lit, cell_of_row w vb _ _ _ _ hv]
    simpa using hj
  have HN : Hid (∀ j u, (atCells x)[j]? = some u → w.cell? ((⟨vb, 0, none⟩ : Addr).add j) = some u) := hnews
  clear hnews hv
  rcases h.2 with ⟨rfl, hn⟩ | ⟨g, cap, cur, rfl, hg, hc, hcap, hm, hsz, htk⟩
  · have e : d = [] := List.eq_nil_of_length_eq_zero hn
    subst e
    clear h hn
    go_enter Try.func55, Try.ntmps55
    go_wp2_with (at_builtin; refine wpList_append_own_at _ rfl _ _ 24 rfl 0 59 i0 (.agg #[.string ⟨#[]⟩, .string ⟨#[]⟩]) 2 32 Try.underlying24 hi hz0 hz1 hz2 rfl (by decide) _ _ _ rfl H.out ⟨vb, 0, none⟩ 1 1 (atCells x) rfl rfl HN.out (atCells_one x) (by unfold maxLen; simp) (by simp) (Nat.zero_le _) ?_; intro v3 w3 hown3 hgrow3 hnil3 hat3)
    go_ret
    exact ⟨_, rfl, OwnE.snoc rfl hown3, hgrow3, hat3⟩
  · have hcl : d.length ≤ cap := hcap
    clear h hc htk hm hsz hcap
    by_cases hcc : cap = d.length
    all_goals
      go_enter Try.func55, Try.ntmps55
      go_wp2_with (at_builtin; refine wpList_append_own_at _ rfl _ _ 24 rfl 0 59 i0 (.agg #[.string ⟨#[]⟩, .string ⟨#[]⟩]) 2 32 Try.underlying24 hi hz0 hz1 hz2 rfl (by decide) _ _ _ rfl H.out ⟨vb, 0, none⟩ 1 1 (atCells x) rfl rfl HN.out (atCells_one x) (by unfold maxLen; omega) (by omega) (Nat.zero_le _) ?_; intro v3 w3 hown3 hgrow3 hnil3 hat3)
      go_ret
      exact ⟨_, rfl, OwnE.snoc rfl hown3, hgrow3, hat3⟩

/-- What Insert leaves. -/
def InsP (d : List At) (i : Nat) (x : At) (v : Value) (w : World) (e : Ending) (w' : World) : Prop := ∃ v', e = .returned v' ∧ OwnAt 0 w' v' (d.take i ++ x :: d.drop i) ∧ w.grownBy w' v.ownBlock ∧ (v'.ownBlock = v.ownBlock ∨ ∃ k, v'.ownBlock = some k ∧ w.heap.size ≤ k)
theorem ins_row {d : List At} {i : Nat} {x : At} {X Y Z : List Value} (hX : X = flatE atCells (d.take i)) (hY : Y = flatE atCells (d.drop i)) (hi : i ≤ d.length) : (X ++ ((atCells x) ++ (Y ++ Z))).take ((d.length + 1) * 2) = flatE atCells (d.take i ++ x :: d.drop i) := by
  have e : flatE atCells (d.take i ++ x :: d.drop i) = X ++ ((atCells x) ++ Y) := by
    rw [flatE_append, hX, hY]; rfl
  rw [e, ← List.append_assoc, ← List.append_assoc, ← List.append_assoc]
  have hl : (X ++ (atCells x) ++ Y).length = (d.length + 1) * 2 := by
    rw [hX, hY]
    simp only [List.length_append, flatE_length atCells_len, List.length_take, List.length_drop, List.length_cons, List.length_nil, atCells_len]
    omega
  rw [← hl, List.take_left]

set_option maxHeartbeats 4000000 in
set_option maxRecDepth 100000 in
theorem insert_room (g cap : Nat) (d : List At) (i : Nat) (x : At) (vb : Nat) (w : World) (h : OwnAt 0 w (.slice (some ⟨g, 0, none⟩) d.length cap) d) (hl : d.length ≤ 4096) (hin : i < d.length) (hroom : d.length + 1 ≤ cap) (hv : w.heap[vb]? = some (.cells (atCells x).toArray 59)) (hne : vb ≠ g) :
    Calls Try.prog 55 #[.slice (some ⟨g, 0, none⟩) d.length cap, .int .i64 (i : Int), .slice (some ⟨vb, 0, none⟩) 1 1] w fun e w' => InsP d i x (.slice (some ⟨g, 0, none⟩) d.length cap) w e w' := by
  obtain ⟨hfl, hn | ⟨g', cap', cur, hv', _, hc, _, hm, hsz, htk⟩⟩ := h
  · cases hn.1
  cases hv'
  obtain ⟨X, hX⟩ : ∃ X, X = flatE atCells (d.take i) := ⟨_, rfl⟩
  obtain ⟨Y, hY⟩ : ∃ Y, Y = flatE atCells (d.drop i) := ⟨_, rfl⟩
  obtain ⟨Z, hZ⟩ : ∃ Z, Z = cur.toList.drop (d.length * 2) := ⟨_, rfl⟩
  have hXl : X.length = i * 2 := by rw [hX, flatE_length atCells_len, List.length_take, Nat.min_eq_left (by omega)]
  have hYl : Y.length = (d.length - i) * 2 := by rw [hY, flatE_length atCells_len, List.length_drop]
  have hcl : cur.toList.length = cap * 2 := by simpa using hsz
  have hZl : Z.length = (cap - d.length) * 2 := by rw [hZ, List.length_drop, hcl]; omega
  have hcur : cur.toList = X ++ (Y ++ Z) := by
    rw [← List.append_assoc, hX, hY, ← flatE_append, List.take_append_drop, ← htk, hZ, List.take_append_drop]
  have hrow : w.heap[g]? = some (.cells (X ++ (Y ++ Z)).toArray 59 (0, 0)) := by rw [← hcur, Array.toArray_toList]; exact hc
  have hsa : w.shape? vb = some (59, 2) := by simp [World.shape?, hv, atCells_len]
  have hsb : w.shape? g = some (59, cap * 2) := by simp [World.shape?, hc, hsz]
  have hov : ∀ lb cb, (callFunc 68 #[.slice (some ⟨vb, 0, none⟩) 1 1, .slice (some ⟨g, (i + 1) * 2, none⟩) lb cb]).run Try.prog w = .ok (.value (.bool false)) w := fun lb cb => by
    rw [run_callFunc_extern Try.func68 (by kernel_rfl) (by kernel_rfl) (by kernel_rfl) (e := Extern.SlicesOverlaps.overlaps #[24, 24] #[4]) (by kernel_rfl),
      Lib.run_overlaps_apart w 24 4 59 Try.underlying24 2 sizeOfAttr ⟨vb, 0, none⟩ ⟨g, (i + 1) * 2, none⟩ 1 1 lb cb hne 59 59 2 (cap * 2) hsa hsb (by omega) (frozen_of_row w vb 0 _ _ hv) (frozen_of_row w vb 2 _ _ hv)]
    rfl
  have h1Y : ∀ u ∈ Y, u.oneCell' = true := by rw [hY]; exact flat_one _
  have hcp1 : ∀ ty dc sc, (Builtin.copy_ #[24, 24] ty #[.slice (some ⟨g, (i + 1) * 2, none⟩) (d.length - i) dc, .slice (some ⟨g, i * 2, none⟩) (d.length + 1 - i) sc]).run Try.prog w.drew = .ok (goInt ((d.length - i : Nat) : Int)) (w.drew.setRow g (splice (X ++ (Y ++ Z)) (X.length + 2) Y).toArray) := fun ty dc sc => by
    have := run_copyM w.drew ty g ((i + 1) * 2) (d.length - i) dc ⟨g, i * 2, none⟩ (d.length + 1 - i) sc (X ++ (Y ++ Z)) 59 Y (d.length - i) hrow (by simp only [Nat.min_def]; split <;> omega) hYl (fun j u hj => by
      rw [Addr.add_lit, cell_of_row w.drew g _ _ _ _ hrow]
      have hj2 := (List.getElem?_eq_some_iff.1 hj).1
      show (X ++ (Y ++ Z)).toArray[i * 2 + j]? = _
      rw [List.getElem?_toArray, ← hXl, List.getElem?_append_right (by omega), show X.length + j - X.length = j by omega, List.getElem?_append_left (by omega)]
      exact hj) (by simp only [List.length_append, hXl, hYl, hZl]; omega) h1Y
    rw [show (i + 1) * 2 = X.length + 2 by omega] at this
    rw [show (i + 1) * 2 = X.length + 2 by omega]
    exact this
  obtain ⟨W1, hW1⟩ : ∃ W1, W1 = w.drew.setRow g (splice (X ++ (Y ++ Z)) (X.length + 2) Y).toArray := ⟨_, rfl⟩
  rw [← hW1] at hcp1
  have hrow1 : W1.heap[g]? = some (.cells (splice (X ++ (Y ++ Z)) (X.length + 2) Y).toArray 59 (0, 0)) := by rw [hW1]; exact setRow_heap w.drew g _ _ _ _ hrow
  have hvb1 : W1.heap[vb]? = some (.cells (atCells x).toArray 59) := by rw [hW1]; exact (setRow_other w.drew g vb _ hne).trans hv
  have hcp2 : ∀ ty dc, (Builtin.copy_ #[24, 24] ty #[.slice (some ⟨g, i * 2, none⟩) (d.length + 1 - i) dc, .slice (some ⟨vb, 0, none⟩) 1 1]).run Try.prog W1 = .ok (goInt 1) (W1.setRow g (splice (splice (X ++ (Y ++ Z)) (X.length + 2) Y) X.length (atCells x)).toArray) := fun ty dc => by
    have := run_copyM W1 ty g (i * 2) (d.length + 1 - i) dc ⟨vb, 0, none⟩ 1 1 (splice (X ++ (Y ++ Z)) (X.length + 2) Y) 59 (atCells x) 1 hrow1 (by simp only [Nat.min_def]; split <;> omega) rfl (fun j u hj => by
      rw [Addr.add_lit, cell_of_row W1 vb _ _ _ _ hvb1]
      simpa using hj) (by rw [length_splice _ _ _ (by simp only [List.length_append, hXl, hYl, hZl]; omega)]; simp only [List.length_append, List.length_cons, List.length_nil, atCells_len, hXl, hYl, hZl]; omega) (atCells_one x)
    rw [← hXl] at this ⊢
    exact this
  have HG : Hid (w.grownBy (W1.setRow g (splice (splice (X ++ (Y ++ Z)) (X.length + 2) Y) X.length (atCells x)).toArray) (some g)) := by
    rw [hW1]
    exact ⟨rfl, rfl, rfl, by simp [World.setRow], fun k hk hkg => (setRow_other _ g k _ (fun e => hkg (by rw [e]))).trans (setRow_other _ g k _ (fun e => hkg (by rw [e])))⟩
  have HO : Hid (OwnAt 0 (W1.setRow g (splice (splice (X ++ (Y ++ Z)) (X.length + 2) Y) X.length (atCells x)).toArray) (.slice (some ⟨g, 0, none⟩) (d.length + 1) cap) (d.take i ++ x :: d.drop i)) := by
    have hlen : (d.take i ++ x :: d.drop i).length = d.length + 1 := by simp; omega
    show World.ownsRow _ _ _ _ _ _ _
    rw [hlen]
    refine ⟨by rw [flatE_length atCells_len, hlen], .inr ⟨g, cap, (splice (splice (X ++ (Y ++ Z)) (X.length + 2) Y) X.length (atCells x)).toArray, rfl, Nat.zero_le _, setRow_heap W1 g _ _ _ _ hrow1, hroom, hm, ?_, ?_⟩⟩
    · rw [splice_room X Y Z _ rfl (by omega)]
      simp only [List.size_toArray, List.length_append, List.length_cons, List.length_nil, atCells_len, List.length_drop, hXl, hYl, hZl]
      omega
    · rw [splice_room X Y Z _ rfl (by omega)]
      exact ins_row hX hY (by omega)
  generalize hW2 : W1.setRow g (splice (splice (X ++ (Y ++ Z)) (X.length + 2) Y) X.length (atCells x)).toArray = W2 at hcp2 HG HO
  have n1 : ¬ ((i : Int) = (d.length : Int)) := by omega
  have n2 : ((i : Int) == (d.length : Int)) = false := by simp; omega
  have n3 : ¬ (cap = i + 1) := by omega
  have n4 : ¬ (cap = i) := by omega
  have n5 : ((i : Int) + 1).toNat = i + 1 := by omega
  have n6 : (i : Int) ≤ (d.length : Int) + 1 := by omega
  have n7 : i ≤ d.length := by omega
  have n8 : ¬ ((cap : Int) < (d.length : Int) + 1) := by omega
  have n9 : (d.length : Int) + 1 ≤ (cap : Int) := by omega
  have n10 : i + 1 ≤ d.length + 1 := by omega
  have mixed : Try.prog.follows Departure.mixedOrders = true := by kernel_rfl
  have n11 : (0 : Int) ≤ (i : Int) + 1 := by omega
  have n12 : IntKind.i64.wrap ((i : Int) + 1) = (i : Int) + 1 := by rw [IntKind.wrap_i64]; omega
  have n13 : (i : Int) + 1 ≤ (d.length : Int) + 1 := by omega
  clear hX hY hZ hXl hYl hZl hcur hrow hsa hsb h1Y hW1 hrow1 hvb1 hW2 hc hsz htk hcl hfl hv
  go_enter Try.func55, Try.ntmps55
  go_wp2_with (simp only [hov])
  go_region_law_o (refine step_copy_runI rfl _ _ 24 24 rfl _ _ (by simp [Act.eval, Act.put]) (by simp [Act.eval, Act.put]) (hcp1 _ _ _) ?_)
  go_wp2_with (at_builtin; refine wpList_copy_runI _ rfl _ _ 24 24 rfl _ _ rfl rfl (hcp2 _ _) ?_)
  go_ret
  exact ⟨_, rfl, HO.out, HG.out, .inl rfl⟩

set_option maxHeartbeats 4000000 in
set_option maxRecDepth 100000 in
theorem insert_grow (g cap : Nat) (d : List At) (i : Nat) (x : At) (vb : Nat) (w : World) (h : OwnAt 0 w (.slice (some ⟨g, 0, none⟩) d.length cap) d) (hl : d.length ≤ 4096) (hin : i < d.length) (hroom : cap < d.length + 1) (hv : w.heap[vb]? = some (.cells (atCells x).toArray 59)) :
    Calls Try.prog 55 #[.slice (some ⟨g, 0, none⟩) d.length cap, .int .i64 (i : Int), .slice (some ⟨vb, 0, none⟩) 1 1] w fun e w' => InsP d i x (.slice (some ⟨g, 0, none⟩) d.length cap) w e w' := by
  obtain ⟨i0, hi0, hz0, hz1, hz2⟩ := info_parts infoAttr
  obtain ⟨hfl, hn | ⟨g', cap', cur, hv', _, hc, hcap, hm, hsz, htk⟩⟩ := h
  · cases hn.1
  cases hv'
  obtain rfl : cap = d.length := by omega
  obtain ⟨X, hX⟩ : ∃ X, X = flatE atCells (d.take i) := ⟨_, rfl⟩
  obtain ⟨Y, hY⟩ : ∃ Y, Y = flatE atCells (d.drop i) := ⟨_, rfl⟩
  have hXl : X.length = i * 2 := by rw [hX, flatE_length atCells_len, List.length_take, Nat.min_eq_left (by omega)]
  have hYl : Y.length = (d.length - i) * 2 := by rw [hY, flatE_length atCells_len, List.length_drop]
  have hcl : cur.toList.length = d.length * 2 := by simpa using hsz
  have hcur : cur.toList = X ++ Y := by
    rw [hX, hY, ← flatE_append, List.take_append_drop, ← htk, List.take_of_length_le (by omega)]
  have hrow : w.heap[g]? = some (.cells (X ++ Y).toArray 59 (0, 0)) := by rw [← hcur, Array.toArray_toList]; exact hc
  have hgw : g < w.heap.size := (Array.getElem?_eq_some_iff.1 hrow).1
  have hvw : vb < w.heap.size := (Array.getElem?_eq_some_iff.1 hv).1
  have hold : (Builtin.firstCells i0.size i (.slice (some ⟨g, 0, none⟩) i d.length)).run Try.prog w.drew = .ok X.toArray w.drew := by
    rw [hz1]
    exact run_firstCells_some w.drew 2 i ⟨g, 0, none⟩ i d.length X hXl (fun j u hj => by
      rw [Addr.add_lit, cell_of_row w.drew g _ _ _ _ hrow]
      have hj2 := (List.getElem?_eq_some_iff.1 hj).1
      rw [List.getElem?_toArray, Nat.zero_add, List.getElem?_append_left hj2]
      exact hj)
  obtain ⟨G, hG⟩ : ∃ G, G = grownCap w (d.length + 1) d.length 59 := ⟨_, rfl⟩
  obtain ⟨Z, hZ⟩ : ∃ Z : List Value, Z = (Builtin.zeroCells (Value.agg #[.string ⟨#[]⟩, .string ⟨#[]⟩]).cells (d.length + 1 - i)).toList ++ (Builtin.zeroCells (Value.agg #[.string ⟨#[]⟩, .string ⟨#[]⟩]).cells (G - (d.length + 1))).toList := ⟨_, rfl⟩
  have hGn : d.length + 1 ≤ G := by rw [hG]; exact grownCap_ge w _ _ _
  have hZl : Z.length = (G - i) * 2 := by
    rw [hZ]
    simp only [List.length_append, Array.length_toList, size_zeroCells]
    simp only [Value.cells]
    simp
    omega
  have hG63 : G ≤ maxLen := by
    have := grownCap_le_maxLen w (d.length + 1) d.length 59 (by unfold maxLen; omega)
    rw [← hG] at this
    exact this
  have hrz : ∀ ty, (Builtin.append_ #[24, 3] ty #[.slice (some ⟨g, 0, none⟩) i d.length, .int .i64 ((d.length : Int) + 1 - (i : Int))]).run Try.prog w =
      .ok (.slice (some ⟨w.heap.size, 0, none⟩) (d.length + 1) G) (w.drew.alloc (.cells (X ++ Z).toArray 59)) := fun ty => by
    have h := Lib.run_append_grow_zeros w 24 3 ty 59 i0 _ .i64 .i64 Try.underlying24 Try.underlying3 hi0 hz0 (some ⟨g, 0, none⟩) i d.length X hold (d.length + 1 - i) (by omega) (by omega) (by omega) (by omega) (by rw [hz2]; omega) (by rw [hz2, show i + (d.length + 1 - i) = d.length + 1 by omega]; exact growslice_fits (by omega) (by omega))
    rw [show i + (d.length + 1 - i) = d.length + 1 by omega, ← hG] at h
    rw [show (d.length : Int) + 1 - (i : Int) = ((d.length + 1 - i : Nat) : Int) by omega, h]
    have e : X.toArray ++ Builtin.zeroCells (Value.agg #[.string ⟨#[]⟩, .string ⟨#[]⟩]).cells (d.length + 1 - i) ++ Builtin.zeroCells (Value.agg #[.string ⟨#[]⟩, .string ⟨#[]⟩]).cells (G - (d.length + 1)) = (X ++ Z).toArray := by
      rw [hZ]; simp
    rw [e]
  obtain ⟨W1, hW1⟩ : ∃ W1, W1 = w.drew.alloc (.cells (X ++ Z).toArray 59) := ⟨_, rfl⟩
  rw [← hW1] at hrz
  have hB1 : Below w.heap.size w W1 := by rw [hW1]; exact ((Below.refl _ _).drew).alloc (Nat.le_refl _) _
  have hrowN : W1.heap[w.heap.size]? = some (.cells (X ++ Z).toArray 59 (0, 0)) := by rw [hW1]; exact heap_alloc_new w.drew _
  have hcpA : ∀ ty dc, (Builtin.copy_ #[24, 24] ty #[.slice (some ⟨w.heap.size, i * 2, none⟩) (d.length + 1 - i) dc, .slice (some ⟨vb, 0, none⟩) 1 1]).run Try.prog W1 = .ok (goInt 1) (W1.setRow w.heap.size (splice (X ++ Z) X.length (atCells x)).toArray) := fun ty dc => by
    have hvb1 : W1.heap[vb]? = some (.cells (atCells x).toArray 59) := (hB1.block vb hvw).trans hv
    have := run_copyM W1 ty w.heap.size (i * 2) (d.length + 1 - i) dc ⟨vb, 0, none⟩ 1 1 (X ++ Z) 59 (atCells x) 1 hrowN (by simp only [Nat.min_def]; split <;> omega) rfl (fun j u hj => by
      rw [Addr.add_lit, cell_of_row W1 vb _ _ _ _ hvb1]
      simpa using hj) (by simp only [List.length_append, List.length_cons, List.length_nil, atCells_len, hXl, hZl]; omega) (atCells_one x)
    rw [← hXl] at this ⊢
    exact this
  obtain ⟨W2, hW2⟩ : ∃ W2, W2 = W1.setRow w.heap.size (splice (X ++ Z) X.length (atCells x)).toArray := ⟨_, rfl⟩
  rw [← hW2] at hcpA
  have hrow2 : W2.heap[w.heap.size]? = some (.cells (splice (X ++ Z) X.length (atCells x)).toArray 59 (0, 0)) := by rw [hW2]; exact setRow_heap W1 _ _ _ _ _ hrowN
  have hB2 : Below w.heap.size w W2 := by rw [hW2]; exact below_setRow hB1 (Nat.le_refl _) _
  have hgr2 : W2.heap[g]? = some (.cells (X ++ Y).toArray 59 (0, 0)) := (hB2.block g hgw).trans hrow
  have h1Y : ∀ u ∈ Y, u.oneCell' = true := by rw [hY]; exact flat_one _
  have hcpB : ∀ ty dc sc, (Builtin.copy_ #[24, 24] ty #[.slice (some ⟨w.heap.size, (i + 1) * 2, none⟩) (d.length - i) dc, .slice (some ⟨g, i * 2, none⟩) (d.length - i) sc]).run Try.prog W2.drew = .ok (goInt ((d.length - i : Nat) : Int)) (W2.drew.setRow w.heap.size (splice (splice (X ++ Z) X.length (atCells x)) (X.length + 2) Y).toArray) := fun ty dc sc => by
    have := run_copyM W2.drew ty w.heap.size ((i + 1) * 2) (d.length - i) dc ⟨g, i * 2, none⟩ (d.length - i) sc (splice (X ++ Z) X.length (atCells x)) 59 Y (d.length - i) hrow2 (by simp only [Nat.min_def]; split <;> omega) hYl (fun j u hj => by
      rw [Addr.add_lit, cell_of_row W2.drew g _ _ _ _ hgr2]
      show (X ++ Y).toArray[i * 2 + j]? = _
      rw [List.getElem?_toArray, ← hXl, List.getElem?_append_right (by omega), show X.length + j - X.length = j by omega]
      exact hj) (by rw [length_splice _ _ _ (by simp only [List.length_append, List.length_cons, List.length_nil, atCells_len, hXl, hZl]; omega)]; simp only [List.length_append, hXl, hYl, hZl]; omega) h1Y
    rw [show (i + 1) * 2 = X.length + 2 by omega] at this
    rw [show (i + 1) * 2 = X.length + 2 by omega]
    exact this
  obtain ⟨W3, hW3⟩ : ∃ W3, W3 = W2.drew.setRow w.heap.size (splice (splice (X ++ Z) X.length (atCells x)) (X.length + 2) Y).toArray := ⟨_, rfl⟩
  rw [← hW3] at hcpB
  have hB3 : Below w.heap.size w W3 := by rw [hW3]; exact below_setRow hB2.drew (Nat.le_refl _) _
  have HG : Hid (w.grownBy W3 (some g)) := grownBy.ofBelow hB3 _
  have HO : Hid (OwnAt 0 W3 (.slice (some ⟨w.heap.size, 0, none⟩) (d.length + 1) G) (d.take i ++ x :: d.drop i)) := by
    have hlen : (d.take i ++ x :: d.drop i).length = d.length + 1 := by simp; omega
    show World.ownsRow _ _ _ _ _ _ _
    rw [hlen]
    refine ⟨by rw [flatE_length atCells_len, hlen], .inr ⟨w.heap.size, G, (splice (splice (X ++ Z) X.length (atCells x)) (X.length + 2) Y).toArray, rfl, Nat.zero_le _, ?_, hGn, hG63, ?_, ?_⟩⟩
    · rw [hW3]; exact setRow_heap W2.drew _ _ _ _ _ hrow2
    · rw [splice_grow X Y Z _ rfl (by omega)]
      simp only [List.size_toArray, List.length_append, List.length_cons, List.length_nil, atCells_len, List.length_drop, hXl, hYl, hZl]
      omega
    · rw [splice_grow X Y Z _ rfl (by omega)]
      exact ins_row hX hY (by omega)
  have n1 : ¬ ((i : Int) = (d.length : Int)) := by omega
  have n2 : ((i : Int) == (d.length : Int)) = false := by simp; omega
  have n3 : ¬ (G = i + 1) := by omega
  have n4 : ¬ (G = i) := by omega
  have n4b : ¬ (d.length = i) := by omega
  have n5 : ((i : Int) + 1).toNat = i + 1 := by omega
  have n6 : (i : Int) ≤ (d.length : Int) + 1 := by omega
  have n7 : i ≤ d.length := by omega
  have n7b : i ≤ d.length + 1 := by omega
  have n10 : i + 1 ≤ d.length + 1 := by omega
  have mixed : Try.prog.follows Departure.mixedOrders = true := by kernel_rfl
  have n11 : (0 : Int) ≤ (i : Int) + 1 := by omega
  have n12 : IntKind.i64.wrap ((i : Int) + 1) = (i : Int) + 1 := by rw [IntKind.wrap_i64]; omega
  have n13 : (i : Int) + 1 ≤ (d.length : Int) + 1 := by omega
  have n14 : (d.length : Int) < (d.length : Int) + 1 := by omega
  clear hX hY hZ hXl hYl hZl hcur hrow h1Y hW1 hW2 hW3 hc hsz htk hcl hfl hv hG hgr2 hrow2 hrowN hold hB1 hB2 hB3 hroom
  go_enter Try.func55, Try.ntmps55
  go_wp2_with (at_builtin; first | refine Lib.wpList_append_run _ rfl _ _ _ _ rfl _ _ rfl rfl _ _ (hrz _) ?_ | refine wpList_copy_runI _ rfl _ _ 24 24 rfl _ _ rfl rfl (hcpA _ _) ?_)
  go_region_law_o (refine step_copy_runI rfl _ _ 24 24 rfl _ _ (by simp [Act.eval, Act.put]) (by simp [Act.eval, Act.put]) (hcpB _ _ _) ?_)
  go_wp2
  go_ret
  exact ⟨_, rfl, HO.out, HG.out, .inr ⟨w.heap.size, rfl, Nat.le_refl _⟩⟩

/-- slices.Insert, of one attribute that lies in a block of its own. -/
theorem insert_any (v : Value) (d : List At) (i : Nat) (x : At) (vb : Nat) (w : World) (h : OwnAt 0 w v d) (hl : d.length ≤ 4096) (hin : i ≤ d.length) (hv : w.heap[vb]? = some (.cells (atCells x).toArray 59)) (hne : v.ownBlock ≠ some vb) :
    Calls Try.prog 55 #[v, .int .i64 (i : Int), .slice (some ⟨vb, 0, none⟩) 1 1] w fun e w' => InsP d i x v w e w' := by
  by_cases hi : i = d.length
  · subst hi
    refine (insert_end v d x vb w h hl hv).mono ?_
    rintro e w' ⟨v', rfl, h1, h2, h3⟩
    refine ⟨v', rfl, ?_, h2, h3.imp id fun e => ⟨_, e, Nat.le_refl _⟩⟩
    rw [List.take_length, List.drop_length]
    exact h1
  · rcases h.2 with ⟨rfl, hn⟩ | ⟨g, cap, cur, rfl, hg, hc, hcap, hm, hsz, htk⟩
    · omega
    · rcases Nat.lt_or_ge cap (d.length + 1) with h' | h'
      · exact insert_grow g cap d i x vb w h hl (by omega) h' hv
      · exact insert_room g cap d i x vb w h hl (by omega) h' hv (fun e => hne (by rw [e]; rfl))

end Go.Proofs.Ytccpljllgpabnab

namespace Go.Proofs.Ytccpljllgpabnab
open Go.RowKit
set_option linter.unusedVariables false
set_option linter.unusedSimpArgs false

theorem splice_len {cur : List Value} {o : Nat} {vs : List Value} (h : o + vs.length ≤ cur.length) : (splice cur o vs).length = cur.length := by
  unfold splice
  simp
  omega
theorem heap_setCells_same (g : Nat) (t : TypeId) : ∀ (vs : List Value) (o : Nat) (cur : Array Value) (w : World), w.heap[g]? = some (.cells cur t (0, 0)) → o + vs.length ≤ cur.size → (w.setCells g o vs).heap[g]? = some (.cells (splice cur.toList o vs).toArray t (0, 0))
  | [], o, cur, w, h, hl => by
    show w.heap[g]? = _
    rw [h]
    unfold splice
    simp
  | v :: r, o, cur, w, h, hl => by
    have h1 := heap_setCell_same w g o cur t v h
    have h2 := heap_setCells_same g t r (o + 1) _ _ h1 (by simp at hl ⊢; omega)
    show ((w.setCell ⟨g, o, none⟩ v).setCells g (o + 1) r).heap[g]? = _
    rw [h2]
    have e : splice (cur.setIfInBounds o v).toList (o + 1) r = splice cur.toList o (v :: r) := by
      unfold splice
      simp at hl
      rw [Array.toList_setIfInBounds]
      rw [show (cur.toList.set o v).take (o + 1) = cur.toList.take o ++ [v] from by rw [List.take_succ_eq_append_getElem (by simp; omega), List.take_set_of_le (Nat.le_refl _)]; simp, List.drop_set_of_lt (by omega)]
      simp [Nat.add_assoc, Nat.add_comm 1 r.length]
    rw [e]
theorem grownBy_setCells (g : Nat) : ∀ (vs : List Value) (o : Nat) (w : World), w.grownBy (w.setCells g o vs) (some g)
  | [], o, w => ⟨rfl, rfl, rfl, Nat.le_refl _, fun _ _ _ => rfl⟩
  | v :: r, o, w => (grownBy_setCell w g o v).trans (grownBy_setCells g r (o + 1) _)
/-- clear, of one row. -/
theorem run_clearM (w : World) (ty : TypeId) (g o c : Nat) (hc : ∀ j, j < 2 → (w.cell? ⟨g, o + j, none⟩).isSome = true) (hf : ∀ j, j < 2 → w.frozen? ⟨g, o + j, none⟩ = false) :
    (Builtin.clear_ #[24] ty #[.slice (some ⟨g, o, none⟩) 1 c]).run Try.prog w = .ok (.tuple #[]) (w.setCells g o (#[.string ⟨#[]⟩, .string ⟨#[]⟩] : Array Value).toList) := by
  have hv : (zeroValue 59).run Try.prog w = .ok (.agg #[.string ⟨#[]⟩, .string ⟨#[]⟩]) w := by kernel_rfl
  have hst := run_storeCells_cells (P := Try.prog) g o (#[.string ⟨#[]⟩, .string ⟨#[]⟩] : Array Value).toList 0 w (by simpa using hc) (by simpa using hf) (by intro v hv'; simp at hv'; rcases hv' with rfl | rfl <;> rfl)
  simp only [Nat.add_zero] at hst
  have hzc : (Builtin.zeroCells (Value.agg #[.string ⟨#[]⟩, .string ⟨#[]⟩]).cells 1).toList = (#[.string ⟨#[]⟩, .string ⟨#[]⟩] : Array Value).toList := by kernel_rfl
  simp only [Builtin.clear_, List.getElem?_toArray, List.getElem?_cons_zero, Sem.run_bind, run_underlying Try.underlying24, Result.andThen_ok, hv, hzc, hst, Sem.run_pure]

set_option maxRecDepth 1000000 in
set_option maxHeartbeats 4000000 in
theorem delete_any (v : Value) (d : List At) (i m : Nat) (w : World) (h : OwnAt 0 w v d) (hl : d.length ≤ 4096) (hm : d.length = i + m + 1) :
    Calls Try.prog 56 #[v, .int .i64 (i : Int), .int .i64 ((i + 1 : Nat) : Int)] w fun e w' => ∃ v', e = .returned v' ∧ OwnAt 0 w' v' (d.take i ++ d.drop (i + 1)) ∧ w.grownBy w' v.ownBlock ∧ v'.ownBlock = v.ownBlock := by
  obtain ⟨i0, hi0, hz0, hz1, hz2⟩ := info_parts infoAttr
  obtain ⟨hxl, h2⟩ := h
  rcases h2 with ⟨rfl, hn⟩ | ⟨g, cap, cur, rfl, hg, hc, hcap, hmx, hsz, htk⟩
  · omega
  rw [hm]
  obtain ⟨Y, eY⟩ : ∃ Y, Y = flatE atCells (d.drop (i + 1)) := ⟨_, rfl⟩
  have hYl : Y.length = m * 2 := by rw [eY, flatE_length atCells_len, List.length_drop]; congr 1; omega
  have hYe : Y = (cur.toList.take ((i + m + 1) * 2)).drop ((i + 1) * 2) := by rw [eY, flatE_drop atCells_len, ← htk, hm]
  have hcl : cur.toList.length = cap * 2 := by simpa using hsz
  have hcell : ∀ j, j < cap * 2 → ∀ W : World, W.heap = w.heap → W.cell? ⟨g, j, none⟩ = cur.toList[j]? := fun j hj W e => by
    rw [cell_of_row W g j _ _ _ (by rw [e]; exact hc)]; simp
  have hge : ∀ t u, Y[t]? = some u → cur.toList[(i + 1) * 2 + t]? = some u := fun t u hu => by
    have ht : t < m * 2 := by have := (List.getElem?_eq_some_iff.1 hu).1; omega
    rw [hYe, List.getElem?_drop, List.getElem?_take_of_lt (by rw [Nat.add_mul, Nat.add_mul, Nat.add_mul]; omega)] at hu
    exact hu
  obtain ⟨A, hA, hsrc⟩ : ∃ A : Addr, (if cap = i + 1 then some (⟨g, 0, none⟩ : Addr) else some ⟨g, (i + 1) * 2, none⟩) = some A ∧ Hid (∀ t u, Y[t]? = some u → w.drew.cell? (A.add t) = some u) := by
    by_cases h9 : cap = i + 1
    · refine ⟨⟨g, 0, none⟩, by simp [h9], fun t u hu => ?_⟩
      have : t < m * 2 := by have := (List.getElem?_eq_some_iff.1 hu).1; omega
      have : m = 0 := by omega
      subst this
      omega
    · refine ⟨⟨g, (i + 1) * 2, none⟩, by simp [h9], fun t u hu => ?_⟩
      have ht : t < m * 2 := by have := (List.getElem?_eq_some_iff.1 hu).1; omega
      rw [Addr.add_lit, hcell _ (by rw [Nat.add_mul]; have : (i + m + 1) * 2 ≤ cap * 2 := Nat.mul_le_mul_right _ (by omega); rw [Nat.add_mul, Nat.add_mul] at this; omega) w.drew rfl]
      exact hge t u hu
  have s1 : Hid (Y.length = m * 2) := hYl
  have s2 : Hid (∀ u ∈ Y, u.oneCell' = true) := by (rw [eY]; exact flat_one _)
  have hcap2 : (i + m + 1) * 2 ≤ cap * 2 := Nat.mul_le_mul_right _ (by omega)
  have s3 : Hid (∀ t, t < Y.length → (w.drew.cell? ⟨g, 0 + i * 2 + t, none⟩).isSome = true ∧ w.drew.frozen? ⟨g, 0 + i * 2 + t, none⟩ = false) := fun t ht => by
    rw [hYl] at ht
    rw [Nat.add_mul, Nat.add_mul] at hcap2
    refine ⟨?_, frozen_of_row w.drew g _ _ _ hc⟩
    rw [hcell _ (by omega) w.drew rfl, List.getElem?_eq_getElem (by omega)]
    rfl
  obtain ⟨W1, hW1⟩ : ∃ W1, W1 = w.drew.setCells g (0 + i * 2) Y := ⟨_, rfl⟩
  have hr1 : W1.heap[g]? = some (.cells (splice cur.toList (0 + i * 2) Y).toArray 59 (0, 0)) := by
    rw [hW1]
    exact heap_setCells_same g _ Y _ cur w.drew hc (by rw [Nat.add_mul, Nat.add_mul] at hcap2; omega)
  have hl1 : (splice cur.toList (0 + i * 2) Y).length = cap * 2 := by rw [splice_len (by rw [Nat.add_mul, Nat.add_mul] at hcap2; omega)]; exact hcl
  have hcl1 : ∀ ty, (Builtin.clear_ #[24] ty #[.slice (some ⟨g, (i + m) * 2, none⟩) 1 (cap - (i + m))]).run Try.prog W1 = .ok (.tuple #[]) (W1.setCells g ((i + m) * 2) (#[.string ⟨#[]⟩, .string ⟨#[]⟩] : Array Value).toList) := fun ty => run_clearM W1 ty g _ _ (fun j hj => by
      rw [cell_of_row W1 g _ _ _ _ hr1]
      rw [Nat.add_mul] at hcap2
      simp only [List.getElem?_toArray]
      rw [List.getElem?_eq_getElem (by omega)]
      rfl) (fun j hj => frozen_of_row W1 g _ _ _ hr1)
  have HR : Hid (W1.heap[g]? = some (.cells (splice cur.toList (0 + i * 2) Y).toArray 59 (0, 0))) := hr1
  have HW : Hid (W1 = w.drew.setCells g (0 + i * 2) Y) := hW1
  have HFin : Hid (OwnAt 0 (W1.setCells g ((i + m) * 2) (#[.string ⟨#[]⟩, .string ⟨#[]⟩] : Array Value).toList) (.slice (some ⟨g, 0, none⟩) (i + m) cap) (d.take i ++ d.drop (i + 1)) ∧ w.grownBy (W1.setCells g ((i + m) * 2) (#[.string ⟨#[]⟩, .string ⟨#[]⟩] : Array Value).toList) (some g)) := by
    have hdl : (d.take i ++ d.drop (i + 1)).length = i + m := by simp; omega
    refine ⟨?_, ?_⟩
    · show World.ownsRow _ _ _ _ _ _ _
      rw [hdl]
      refine ⟨by rw [flatE_length atCells_len, hdl], .inr ⟨g, cap, _, rfl, Nat.zero_le _, heap_setCells_same g _ _ _ _ W1 hr1 (by rw [List.size_toArray, hl1]; show (i + m) * 2 + 2 ≤ cap * 2; rw [Nat.add_mul] at hcap2; omega), by omega, hmx, ?_, ?_⟩⟩
      · rw [List.size_toArray, splice_len (by rw [List.toList_toArray, hl1]; rw [Nat.add_mul] at hcap2; simp; omega)]; rw [List.toList_toArray]; exact hl1
      · rw [List.toList_toArray, List.toList_toArray]
        have e1 : (splice (splice cur.toList (0 + i * 2) Y) ((i + m) * 2) (#[.string ⟨#[]⟩, .string ⟨#[]⟩] : Array Value).toList).take ((i + m) * 2) = (splice cur.toList (0 + i * 2) Y).take ((i + m) * 2) := by
          show (List.take _ _ ++ _).take _ = _
          rw [List.take_append_of_le_length (by rw [List.length_take, hl1, Nat.min_eq_left (by rw [Nat.add_mul] at hcap2; omega)]; exact Nat.le_refl _), List.take_take, Nat.min_self]
        rw [e1]
        have hX : (cur.toList.take (0 + i * 2)).length = i * 2 := by rw [List.length_take, hcl, Nat.zero_add, Nat.min_eq_left]; rw [Nat.add_mul, Nat.add_mul] at hcap2; omega
        have e2 : (splice cur.toList (0 + i * 2) Y).take ((i + m) * 2) = cur.toList.take (0 + i * 2) ++ Y := by
          unfold splice
          rw [← List.append_assoc, List.take_append_of_le_length (by rw [List.length_append, hX, hYl, Nat.add_mul]; exact Nat.le_refl _), List.take_of_length_le (by rw [List.length_append, hX, hYl, Nat.add_mul]; exact Nat.le_refl _)]
        rw [e2, flatE_append, eY]
        congr 1
        rw [flatE_take atCells_len, ← htk, List.take_take, Nat.zero_add, Nat.min_eq_left]
        exact Nat.mul_le_mul_right _ (by omega)
    · rw [hW1]
      have h0 : w.grownBy w.drew (some g) := ⟨rfl, rfl, rfl, Nat.le_refl _, fun _ _ _ => rfl⟩
      exact (h0.trans (grownBy_setCells g Y _ _)).trans (grownBy_setCells g _ _ _)
  have hn1 : ¬ cap = i + m := by omega
  have hic : i ≤ cap := by omega
  have hjc : i + 1 ≤ cap := by omega
  have hkc : i + m ≤ cap := by omega
  have z1 : (0 : Int) ≤ (i : Int) + 1 := by omega
  have z2 : (i : Int) ≤ (i : Int) + (m : Int) := by omega
  have z3 : (0 : Int) ≤ (i : Int) + (m : Int) := by omega
  have z4 : (0 : Int) ≤ (i : Int) + (m : Int) + 1 := by omega
  have z5 : (i : Int) + (m : Int) + 1 ≤ (cap : Int) := by omega
  have z6 : (i : Int) + (m : Int) ≤ (i : Int) + (m : Int) + 1 := by omega
  clear hr1 hW1 hcell hge hxl hc hsz htk hYl hYe eY hcl hcap2 hl1 hm
  go_enter Try.func56, Try.ntmps56
  go_wp2_with fail
  have mixed : Try.prog.follows .mixedOrders = true := by kernel_rfl
  go_region_law_o (refine step_append_room rfl (.tmp 22) (.tmp 25) 24 rfl 59 i0 2 Try.underlying24 hi0 hz1 g 0 i cap (by simp [Act.eval, Act.put]) A m (cap - (i + 1)) Y (by simp [Act.eval, Act.put]) s1.out hsrc.out s2.out (by omega) s3.out ?_; rw [← HW.out])
  go_wp2
  go_ret
  exact ⟨_, rfl, HFin.out.1, HFin.out.2, rfl⟩

end Go.Proofs.Ytccpljllgpabnab

namespace Go.Proofs.Ytccpljllgpabnab
open Go.RowKit
set_option linter.unusedVariables false
set_option linter.unusedSimpArgs false

section
variable {R : List At} {nm vl : ByteArray} {i : Nat}
theorem PlcA.ltk (h : PlcA R nm i) : ∀ a ∈ R.take i, ltT a.1 nm = true := fun a ha => by
  obtain ⟨j, hj, rfl⟩ := List.getElem_of_mem ha
  rw [List.length_take] at hj
  rw [List.getElem_take]
  exact h.2.1 j (by omega) (by omega)
theorem PlcA.gdr (h : PlcA R nm i) : ∀ a ∈ R.drop i, ltT a.1 nm = false := fun a ha => by
  obtain ⟨j, hj, rfl⟩ := List.getElem_of_mem ha
  rw [List.length_drop] at hj
  rw [List.getElem_drop]
  exact h.2.2 (i + j) (by omega) (by omega)
theorem PlcA.has (h : PlcA R nm i) (hs : R.Pairwise fun a b => ltT a.1 b.1 = true) : hasA nm R = decide (∃ h : i < R.length, R[i].1 = nm) := by
  rw [Bool.eq_iff_iff, hasA, List.any_eq_true, decide_eq_true_eq]
  constructor
  · rintro ⟨a, ha, e⟩
    obtain ⟨j, hj, rfl⟩ := List.getElem_of_mem ha
    have e : R[j].1 = nm := by simpa using e
    have hji : i ≤ j := Nat.le_of_not_lt fun hl => by
      have h1 := h.2.1 j hj hl
      rw [e, ltT_irr] at h1
      cases h1
    rcases Nat.lt_or_eq_of_le hji with hl | rfl
    · have h1 := h.2.2 i (by omega) (Nat.le_refl _)
      have h2 : ltT (R[i]'(by omega)).1 R[j].1 = true := List.pairwise_iff_getElem.1 hs i j (by omega) hj hl
      rw [e, h1] at h2
      cases h2
    · exact ⟨hj, e⟩
  · rintro ⟨h1, e⟩
    exact ⟨R[i], List.getElem_mem h1, by simpa using e⟩
theorem PlcA.parts (h : PlcA R nm i) (hs : R.Pairwise fun a b => ltT a.1 b.1 = true) (hi : i < R.length) (e : R[i].1 = nm) : (R.filter fun a => ltT a.1 nm) = R.take i ∧ (R.filter fun a => ltT nm a.1) = R.drop (i + 1) ∧ (R.filter fun a => decide (a.1 ≠ nm)) = R.take i ++ R.drop (i + 1) := by
  have hR : R = R.take i ++ R[i] :: R.drop (i + 1) := by rw [← List.drop_eq_getElem_cons hi, List.take_append_drop]
  have hgt : ∀ a ∈ R.drop (i + 1), ltT nm a.1 = true := fun a ha => by
    obtain ⟨j, hj, rfl⟩ := List.getElem_of_mem ha
    rw [List.length_drop] at hj
    rw [List.getElem_drop, ← e]
    exact List.pairwise_iff_getElem.1 hs i (i + 1 + j) hi (by omega) (by omega)
  have hlt := h.ltk
  have ha1 : (R.take i).filter (fun a : At => ltT a.1 nm) = R.take i := List.filter_eq_self.2 hlt
  have ha2 : (R.drop (i + 1)).filter (fun a : At => ltT a.1 nm) = [] := List.filter_eq_nil_iff.2 fun a ha => by rw [ltT_asym (hgt a ha)]; simp
  have hb1 : (R.take i).filter (fun a : At => ltT nm a.1) = [] := List.filter_eq_nil_iff.2 fun a ha => by rw [ltT_asym (hlt a ha)]; simp
  have hb2 : (R.drop (i + 1)).filter (fun a : At => ltT nm a.1) = R.drop (i + 1) := List.filter_eq_self.2 hgt
  have hc1 : (R.take i).filter (fun a : At => decide (a.1 ≠ nm)) = R.take i := List.filter_eq_self.2 fun a ha => decide_eq_true fun e2 => by have h8 := hlt a ha; rw [e2, ltT_irr] at h8; cases h8
  have hc2 : (R.drop (i + 1)).filter (fun a : At => decide (a.1 ≠ nm)) = R.drop (i + 1) := List.filter_eq_self.2 fun a ha => decide_eq_true fun e2 => by have h8 := hgt a ha; rw [e2, ltT_irr] at h8; cases h8
  refine ⟨?_, ?_, ?_⟩
  · have h9 := congrArg (List.filter fun a : At => ltT a.1 nm) hR
    rw [List.filter_append, List.filter_cons_of_neg (by simp [e, ltT_irr]), ha1, ha2, List.append_nil] at h9
    exact h9
  · have h9 := congrArg (List.filter fun a : At => ltT nm a.1) hR
    rw [List.filter_append, List.filter_cons_of_neg (by simp [e, ltT_irr]), hb1, hb2, List.nil_append] at h9
    exact h9
  · have h9 := congrArg (List.filter fun a : At => decide (a.1 ≠ nm)) hR
    rw [List.filter_append, List.filter_cons_of_neg (by simp [e]), hc1, hc2] at h9
    exact h9
theorem PlcA.parts0 (h : PlcA R nm i) (hs : R.Pairwise fun a b => ltT a.1 b.1 = true) (hn : ¬ ∃ h : i < R.length, R[i].1 = nm) : (R.filter fun a => ltT a.1 nm) = R.take i ∧ (R.filter fun a => ltT nm a.1) = R.drop i := by
  have hR : R = R.take i ++ R.drop i := (List.take_append_drop i R).symm
  have hgt : ∀ a ∈ R.drop i, ltT nm a.1 = true := fun a ha => by
    obtain ⟨j, hj, rfl⟩ := List.getElem_of_mem ha
    rw [List.length_drop] at hj
    rw [List.getElem_drop]
    have h0 : ltT nm (R[i]'(by omega)).1 = true := by
      rcases ltT_or (a := (R[i]'(by omega)).1) (b := nm) (fun e => hn ⟨by omega, e⟩) with h1 | h1
      · rw [h.2.2 i (by omega) (Nat.le_refl _)] at h1; cases h1
      · exact h1
    by_cases hj0 : j = 0
    · subst hj0; exact h0
    · exact ltT_trans h0 (List.pairwise_iff_getElem.1 hs i (i + j) (by omega) (by omega) (by omega))
  have hlt := h.ltk
  have ha1 : (R.take i).filter (fun a : At => ltT a.1 nm) = R.take i := List.filter_eq_self.2 hlt
  have ha2 : (R.drop i).filter (fun a : At => ltT a.1 nm) = [] := List.filter_eq_nil_iff.2 fun a ha => by rw [ltT_asym (hgt a ha)]; simp
  have hb1 : (R.take i).filter (fun a : At => ltT nm a.1) = [] := List.filter_eq_nil_iff.2 fun a ha => by rw [ltT_asym (hlt a ha)]; simp
  have hb2 : (R.drop i).filter (fun a : At => ltT nm a.1) = R.drop i := List.filter_eq_self.2 hgt
  refine ⟨?_, ?_⟩
  · have h9 := congrArg (List.filter fun a : At => ltT a.1 nm) hR
    rw [List.filter_append, ha1, ha2, List.append_nil] at h9
    exact h9
  · have h9 := congrArg (List.filter fun a : At => ltT nm a.1) hR
    rw [List.filter_append, hb1, hb2, List.nil_append] at h9
    exact h9
theorem setA_set (h : PlcA R nm i) (hs : R.Pairwise fun a b => ltT a.1 b.1 = true) (hi : i < R.length) (e : R[i].1 = nm) : setA nm vl R = R.set i (nm, vl) := by
  obtain ⟨h1, h2, _⟩ := h.parts hs hi e
  unfold setA
  rw [h1, h2, List.set_eq_take_append_cons_drop, if_pos hi]
theorem setA_ins (h : PlcA R nm i) (hs : R.Pairwise fun a b => ltT a.1 b.1 = true) (hn : ¬ ∃ h : i < R.length, R[i].1 = nm) : setA nm vl R = R.take i ++ (nm, vl) :: R.drop i := by
  obtain ⟨h1, h2⟩ := h.parts0 hs hn
  unfold setA
  rw [h1, h2]
theorem delA_del (h : PlcA R nm i) (hs : R.Pairwise fun a b => ltT a.1 b.1 = true) (hi : i < R.length) (e : R[i].1 = nm) : delA nm R = R.take i ++ R.drop (i + 1) := (h.parts hs hi e).2.2
end

section
variable {B wb bm bh top : Nat} {tp : Option Nat} {X : Nat → Prop} {g : Gr} {D : List (St × Nat)} {T : VT} {H : List VT} {w W W1 W' : World}
/-- A node's attributes are others, in their row or in a new one. -/
theorem PwM.attrs (h : PwM B wb bm bh tp X g D W) {c : Nat} {v' : Value} {R' : List At} (hc : X c) (hg : W.grownBy W1 (g.av c).ownBlock) (ho : OwnAt B W1 v' R') (hw : v'.ownBlock = (g.av c).ownBlock ∨ ∃ k, v'.ownBlock = some k ∧ W.heap.size ≤ k) :
    PwM B wb bm bh tp X { g with o := updF g.o c { g.o c with at_ := R' }, av := updF g.av c v' } D (W1.setCell ⟨c, 4, none⟩ v') ∧ BelT B W (W1.setCell ⟨c, 4, none⟩ v') := by
  have hk2 : ∀ k, k ≠ c → (W1.setCell ⟨c, 4, none⟩ v').heap[k]? = W1.heap[k]? := fun k e => RowKit.Below.heap_setCell _ _ _ _ e
  have haT : ∀ k, (g.av c).ownBlock = some k → ¬ X k ∧ k ≠ wb ∧ k ≠ bm := fun k e => h.aT hc e
  have hX1 : ∀ b, X b → W1.heap[b]? = W.heap[b]? := fun b hb => hg.block b (h.mem.lt hb) fun e => (haT b e.symm).1 hb
  have hvc : ∀ k, v'.ownBlock = some k → k ≠ c := fun k e e2 => by
    rcases hw with e3 | ⟨j, e3, hj⟩
    · exact (haT k (e3 ▸ e)).1 (e2 ▸ hc)
    · rw [e] at e3
      injection e3 with e3
      have := h.mem.lt hc
      omega
  refine ⟨⟨(hk2 _ fun (e : wb = c) => h.wX (e ▸ hc)).trans ((hg.block _ (row_lt h.wr) fun e => (haT _ e.symm).2.1 rfl).trans h.wr), h.mp.keep ((hk2 _ fun (e : bm = c) => h.mX (e ▸ hc)).trans (hg.block _ h.mp.lt fun e => (haT _ e.symm).2.2 rfl)), fun b hb => ?_, fun b hb => ?_, fun b d k hb hd e1 e2 => ?_, h.lo⟩, ⟨?_, fun k cs e => ?_⟩⟩
  · by_cases e : b = c
    · subst e
      rw [heap_setCell_same W1 b 4 _ _ _ ((hX1 b hb).trans (h.mem b hb))]
      simp [gRow, updF_same]
    · rw [hk2 b e, hX1 b hb, h.mem b hb]
      simp only [gRow, updF_ne _ _ e]
  · by_cases e : b = c
    · subst e
      show OwnAt B _ (updF g.av b v' b) (updF g.o b _ b).at_
      rw [updF_same, updF_same]
      exact OwnE.keep ho fun k e2 => hk2 k (hvc k e2)
    · show OwnAt B _ (updF g.av c v' b) (updF g.o c _ b).at_
      rw [updF_ne _ _ e, updF_ne _ _ e]
      exact OwnE.keep (OwnE.keep (h.at_ b hb) fun k e2 => hg.block k (OwnE.lt (h.at_ b hb) k e2).2 fun e3 => e (h.ap b c k hb hc e2 e3.symm)) fun k e2 => hk2 k fun e4 => (h.aT hb e2).1 (e4 ▸ hc)
  · have key : ∀ d k, X d → d ≠ c → v'.ownBlock = some k → (g.av d).ownBlock = some k → False := fun d k hd hdc e1 e2 => by
      rcases hw with e3 | ⟨j, e3, hj⟩
      · exact hdc (h.ap d c k hd hc e2 (e3 ▸ e1))
      · rw [e1] at e3
        injection e3 with e3
        have := (OwnE.lt (h.at_ d hd) k e2).2
        omega
    have e1 : (updF g.av c v' b).ownBlock = some k := e1
    have e2 : (updF g.av c v' d).ownBlock = some k := e2
    by_cases eb : b = c
    · by_cases ed : d = c
      · rw [eb, ed]
      · rw [eb, updF_same] at e1
        rw [updF_ne _ _ ed] at e2
        exact (key d k hd ed e1 e2).elim
    · by_cases ed : d = c
      · rw [ed, updF_same] at e2
        rw [updF_ne _ _ eb] at e1
        exact (key b k hb eb e2 e1).elim
      · rw [updF_ne _ _ eb] at e1
        rw [updF_ne _ _ ed] at e2
        exact h.ap b d k hb hd e1 e2
  · have hb1 : Below B W W1 := ⟨hg.os, hg.tape, hg.output, hg.size, fun k hk => hg.block k (Nat.lt_of_lt_of_le hk h.le) fun e => by have := (OwnE.lt (h.at_ c hc) k e.symm).1; omega⟩
    exact hb1.setCell (p := ⟨c, 4, none⟩) (h.lo.2.2 c hc) _
  · refine (hk2 k fun e2 => h.notX e (by decide) (e2 ▸ hc)).trans ((hg.block k (row_lt e) fun e3 => ?_).trans e)
    obtain ⟨cur, h9⟩ := ownsRow_type (h.at_ c hc) k e3.symm
    rw [e] at h9
    injection h9 with h9
    injection h9 with h8 h9
    revert h9
    decide
end

set_option maxRecDepth 100000 in
set_option maxHeartbeats 2000000 in
/-- attr. -/
theorem attr_any {B wb bm bh : Nat} {tp : Option Nat} {X : Nat → Prop} {g : Gr} {D : List (St × Nat)} (c : Nat) (nm : ByteArray) (w : World) (h : PwM B wb bm bh tp X g D w) (hc : X c) (hl : (g.o c).at_.length ≤ 4096) (hs : (g.o c).at_.Pairwise fun a b => ltT a.1 b.1 = true) :
    Calls Try.prog 54 #[.pointer (some ⟨c, 0, none⟩), .string nm] w fun e w' => SrchA (g.o c).at_ nm w e w' := by
  have u4 : w.cell? ⟨c, 4, none⟩ = some (g.av c) := by rw [cell_of_row w c 4 _ _ _ (h.mem c hc)]; rfl
  have u0 : ∃ v, w.cell? ⟨c, 0, none⟩ = some v := ⟨_, by rw [cell_of_row w c 0 _ _ _ (h.mem c hc)]; rfl⟩
  obtain ⟨v0, u0⟩ := u0
  have HO := hide9 (h.at_ c hc)
  have Hl := hide9 hl
  have Hs := hide9 hs
  clear h hc hl hs
  go_enter Try.func54, Try.ntmps54
  go_wp2_with (go_at_call 65; refine (searchA_any B _ _ nm _ HO.out Hl.out Hs.out).mono ?_; rintro e w1 ⟨i, b, rfl, hp, hb, hw⟩; have HQ := hide9 (And.intro hp (And.intro hb hw)); clear hp hb hw)
  go_ret2
  exact ⟨i, b, rfl, HQ.out.1, HQ.out.2.1, HQ.out.2.2⟩

end Go.Proofs.Ytccpljllgpabnab

namespace Go.Proofs.Ytccpljllgpabnab
open Go.RowKit
set_option linter.unusedVariables false
set_option linter.unusedSimpArgs false

section
variable {B wb bm bh top : Nat} {tp : Option Nat} {X : Nat → Prop} {g : Gr} {D : List (St × Nat)} {T : VT} {H : List VT} {w W W1 W' : World}
theorem PwP.recOf (h : PwP bh X g D [T] [top] H) {k : St} {c : Nat} (e : getP Prod.fst D k = some (k, c)) : g.o c ∈ recV T ++ recL H := by
  rcases h.look k with ⟨_, _, e2⟩ | ⟨y, d, m, e1, _, _, e4, _, _, e7⟩ | ⟨y, d, m, r, e1, _, _, e4, _, _, _, e8⟩
  · rw [e] at e2; cases e2
  · rw [e] at e7
    have e9 : c = d := by injection e7 with e7; injection e7
    rw [e9, (Rt_iff.1 e4).1]
    exact List.mem_append_left _ (fndV_rec k T y e1)
  · rw [e] at e8
    have e9 : c = d := by injection e8 with e8; injection e8
    rw [e9, (Rt_iff.1 e4).1]
    exact List.mem_append_right _ (fndL_rec k H y e1)
theorem own_raise {v : Value} {R : List At} (h : OwnAt 0 W v R) (hk : ∀ k, v.ownBlock = some k → B ≤ k) : OwnAt B W v R := by
  refine ⟨h.1, ?_⟩
  rcases h.2 with hn | ⟨g, cap, cur, hv, hg, rest⟩
  · exact .inl hn
  · exact .inr ⟨g, cap, cur, hv, hk g (by rw [hv]; rfl), rest⟩
end
set_option maxRecDepth 100000 in
set_option maxHeartbeats 4000000 in
theorem clearAttr_s {B wb bm bh top : Nat} {X : Nat → Prop} {g : Gr} {D : List (St × Nat)} {T : VT} {H : List VT} (p : Pa) (w : World) (h : PwM B wb bm bh (some top) X g D w) (hp : PwP bh X g D [T] [top] H) (hob : OkB T H) (hkd : p.kd = 9) :
    Calls Try.prog 38 #[.pointer (some ⟨wb, 0, none⟩), paV p] w fun e w' => StpP B wb bm bh top (stepU p T H) e w' ∧ BelT B w w' := by
  have HPp := hide9 hp
  have HKd := hide9 hkd
  rcases hp.fieldU p (by omega) with ⟨e, hst⟩ | ⟨c, e, hc, hck, hst⟩
  · have HE := hide9 e
    have HSt := hide9 hst
    clear e hst
    clear hp hkd hob
    have hbx : Below w.heap.size w (w.alloc (.cells #[.int .i64 p.kd, .int .i64 p.k.1, .int .i64 p.k.2, .int .i64 p.pa.1, .int .i64 p.pa.2, .int .i64 p.af.1, .int .i64 p.af.2, .string p.nm, .string p.vl] 42)) := (Below.refl _ _).alloc (Nat.le_refl _) _
    have HB : Hid (BelT B w (w.alloc (.cells #[.int .i64 p.kd, .int .i64 p.k.1, .int .i64 p.k.2, .int .i64 p.pa.1, .int .i64 p.pa.2, .int .i64 p.af.1, .int .i64 p.af.2, .string p.nm, .string p.vl] 42))) := BelT.of hbx h.le
    have HP : Hid (PwM B wb bm bh (some top) X g D (w.alloc (.cells #[.int .i64 p.kd, .int .i64 p.k.1, .int .i64 p.k.2, .int .i64 p.pa.1, .int .i64 p.pa.2, .int .i64 p.af.1, .int .i64 p.af.2, .string p.nm, .string p.vl] 42))) := h.below hbx
    have HK : Hid ((w.alloc (.cells #[.int .i64 p.kd, .int .i64 p.k.1, .int .i64 p.k.2, .int .i64 p.pa.1, .int .i64 p.pa.2, .int .i64 p.af.1, .int .i64 p.af.2, .string p.nm, .string p.vl] 42)).heap[w.heap.size]? = some (.cells #[.int .i64 p.kd, .int .i64 p.k.1, .int .i64 p.k.2, .int .i64 p.pa.1, .int .i64 p.pa.2, .int .i64 p.af.1, .int .i64 p.af.2, .string p.nm, .string p.vl] 42)) := heap_alloc_new _ _
    clear hbx h
    show Calls Try.prog 38 #[.pointer (some ⟨wb, 0, none⟩), .agg #[.int .i64 p.kd, .int .i64 p.k.1, .int .i64 p.k.2, .int .i64 p.pa.1, .int .i64 p.pa.2, .int .i64 p.af.1, .int .i64 p.af.2, .string p.nm, .string p.vl]] w _
    go_enter Try.func38, Try.ntmps38
    go_wp2
    obtain ⟨W0, eW0⟩ : ∃ X, X = (w.alloc (.cells #[.int .i64 p.kd, .int .i64 p.k.1, .int .i64 p.k.2, .int .i64 p.pa.1, .int .i64 p.pa.2, .int .i64 p.af.1, .int .i64 p.af.2, .string p.nm, .string p.vl] 42)) := ⟨_, rfl⟩
    rw [← eW0] at HB HP HK ⊢
    obtain ⟨kb, ekb⟩ : ∃ b, b = w.heap.size := ⟨_, rfl⟩
    rw [← ekb] at HK ⊢
    clear eW0 ekb
    refine wp_region_held_drew (S := fun W' => PwM B wb bm bh (some top) X g D W' ∧ W'.heap[kb]? = some (.cells #[.int .i64 p.kd, .int .i64 p.k.1, .int .i64 p.k.2, .int .i64 p.pa.1, .int .i64 p.pa.2, .int .i64 p.af.1, .int .i64 p.af.2, .string p.nm, .string p.vl] 42)) (by kernel_rfl) ⟨HP.out.drew, HK.out⟩ (fun hHeld => ?_)
    obtain ⟨Us1False5u0, eW⟩ : ∃ X, X = W0.drew := ⟨_, rfl⟩
    have hb : Below W0.heap.size W0 Us1False5u0 := by rw [eW]; exact (Below.refl _ _).drew
    replace HB : Hid (BelT B w Us1False5u0) := HB.out.trans (BelT.of hb HP.out.le)
    replace HP : Hid (PwM B wb bm bh (some top) X g D Us1False5u0) := HP.out.below hb
    replace HK : Hid (Us1False5u0.heap[kb]? = some (.cells #[.int .i64 p.kd, .int .i64 p.k.1, .int .i64 p.k.2, .int .i64 p.pa.1, .int .i64 p.pa.2, .int .i64 p.af.1, .int .i64 p.af.2, .string p.nm, .string p.vl] 42)) := (hb.block _ (row_lt HK.out)).trans HK.out
    rw [← eW] at hHeld ⊢
    clear eW hb
    refine tkW 0 (some 8) (v := ?_) ?_ hHeld ?_
    rotate_left
    · (intro ww _; go_simp; try with_reducible rfl)
    refine tkW 1 (some 9) (v := ?_) ?_ hHeld ?_
    rotate_left
    · (intro ww hSw; (try dsimp only at hSw); obtain ⟨hP, hK⟩ := hSw; have c0 := hP.c0; have b1 : ww.cell? ⟨kb, 1, none⟩ = some (.int .i64 p.k.1) := (by rw [cell_of_row ww kb 1 _ _ _ hK]; rfl); have b2 : ww.cell? ⟨kb, 2, none⟩ = some (.int .i64 p.k.2) := (by rw [cell_of_row ww kb 2 _ _ _ hK]; rfl); have hlk := hP.lookN HE.out; go_simp; try with_reducible rfl)
    refine tkW 2 (some 10) (v := ?_) ?_ hHeld ?_
    rotate_left
    · (intro ww _; go_simp; try with_reducible rfl)
    refine tkW 3 (some 11) (v := ?_) ?_ hHeld ?_
    rotate_left
    · (intro ww hSw; (try dsimp only at hSw); obtain ⟨hP, hK⟩ := hSw; have c0 := hP.c0; have b1 : ww.cell? ⟨kb, 1, none⟩ = some (.int .i64 p.k.1) := (by rw [cell_of_row ww kb 1 _ _ _ hK]; rfl); have b2 : ww.cell? ⟨kb, 2, none⟩ = some (.int .i64 p.k.2) := (by rw [cell_of_row ww kb 2 _ _ _ hK]; rfl); have hlk := hP.lookN HE.out; go_simp; try with_reducible rfl)
    refine tkW 4 (some 12) (v := ?_) ?_ hHeld ?_
    rotate_left
    · (intro ww _; go_simp; try with_reducible rfl)
    refine tkW 5 (some 13) (v := ?_) ?_ hHeld ?_
    rotate_left
    · (intro ww hSw; (try dsimp only at hSw); obtain ⟨hP, hK⟩ := hSw; have c0 := hP.c0; have b1 : ww.cell? ⟨kb, 1, none⟩ = some (.int .i64 p.k.1) := (by rw [cell_of_row ww kb 1 _ _ _ hK]; rfl); have b2 : ww.cell? ⟨kb, 2, none⟩ = some (.int .i64 p.k.2) := (by rw [cell_of_row ww kb 2 _ _ _ hK]; rfl); have hlk := hP.lookN HE.out; go_simp; try with_reducible rfl)
    refine tkW 6 (some 14) (v := ?_) ?_ hHeld ?_
    rotate_left
    · (intro ww hSw; (try dsimp only at hSw); obtain ⟨hP, hK⟩ := hSw; have c0 := hP.c0; have b1 : ww.cell? ⟨kb, 1, none⟩ = some (.int .i64 p.k.1) := (by rw [cell_of_row ww kb 1 _ _ _ hK]; rfl); have b2 : ww.cell? ⟨kb, 2, none⟩ = some (.int .i64 p.k.2) := (by rw [cell_of_row ww kb 2 _ _ _ hK]; rfl); have hlk := hP.lookN HE.out; go_simp; try with_reducible rfl)
    refine tkW 7 (some 5) (v := ?_) ?_ hHeld ?_
    rotate_left
    · (intro ww _; go_simp; try with_reducible rfl)
    refine wpAnyH_done (by kernel_rfl) ?_ _
    clear hHeld
    go_wp2
    (try rw [Exit.noGoto_ret])
    go_ret
    refine ⟨?_, HB.out⟩
    rw [HSt.out]
    exact StpP.err (by decide)
  · obtain ⟨_, _, hl4, hchk⟩ := chkF_parts (hob.ok _ (hp.recOf e))
    have hsr := (names_lt hchk).2
    have HE := hide9 e
    have HC := hide9 hc
    have HCk := hide9 hck
    have HSt0 := hide9 hst
    have HL := hide9 hl4
    have HSr := hide9 hsr
    clear e hc hck hst hl4 hchk hsr
    clear hp hkd hob
    have hbx : Below w.heap.size w (w.alloc (.cells #[.int .i64 p.kd, .int .i64 p.k.1, .int .i64 p.k.2, .int .i64 p.pa.1, .int .i64 p.pa.2, .int .i64 p.af.1, .int .i64 p.af.2, .string p.nm, .string p.vl] 42)) := (Below.refl _ _).alloc (Nat.le_refl _) _
    have HB : Hid (BelT B w (w.alloc (.cells #[.int .i64 p.kd, .int .i64 p.k.1, .int .i64 p.k.2, .int .i64 p.pa.1, .int .i64 p.pa.2, .int .i64 p.af.1, .int .i64 p.af.2, .string p.nm, .string p.vl] 42))) := BelT.of hbx h.le
    have HP : Hid (PwM B wb bm bh (some top) X g D (w.alloc (.cells #[.int .i64 p.kd, .int .i64 p.k.1, .int .i64 p.k.2, .int .i64 p.pa.1, .int .i64 p.pa.2, .int .i64 p.af.1, .int .i64 p.af.2, .string p.nm, .string p.vl] 42))) := h.below hbx
    have HK : Hid ((w.alloc (.cells #[.int .i64 p.kd, .int .i64 p.k.1, .int .i64 p.k.2, .int .i64 p.pa.1, .int .i64 p.pa.2, .int .i64 p.af.1, .int .i64 p.af.2, .string p.nm, .string p.vl] 42)).heap[w.heap.size]? = some (.cells #[.int .i64 p.kd, .int .i64 p.k.1, .int .i64 p.k.2, .int .i64 p.pa.1, .int .i64 p.pa.2, .int .i64 p.af.1, .int .i64 p.af.2, .string p.nm, .string p.vl] 42)) := heap_alloc_new _ _
    clear hbx h
    show Calls Try.prog 38 #[.pointer (some ⟨wb, 0, none⟩), .agg #[.int .i64 p.kd, .int .i64 p.k.1, .int .i64 p.k.2, .int .i64 p.pa.1, .int .i64 p.pa.2, .int .i64 p.af.1, .int .i64 p.af.2, .string p.nm, .string p.vl]] w _
    go_enter Try.func38, Try.ntmps38
    go_wp2
    obtain ⟨W0, eW0⟩ : ∃ X, X = (w.alloc (.cells #[.int .i64 p.kd, .int .i64 p.k.1, .int .i64 p.k.2, .int .i64 p.pa.1, .int .i64 p.pa.2, .int .i64 p.af.1, .int .i64 p.af.2, .string p.nm, .string p.vl] 42)) := ⟨_, rfl⟩
    rw [← eW0] at HB HP HK ⊢
    obtain ⟨kb, ekb⟩ : ∃ b, b = w.heap.size := ⟨_, rfl⟩
    rw [← ekb] at HK ⊢
    clear eW0 ekb
    refine wp_region_held_drew (S := fun W' => PwM B wb bm bh (some top) X g D W' ∧ W'.heap[kb]? = some (.cells #[.int .i64 p.kd, .int .i64 p.k.1, .int .i64 p.k.2, .int .i64 p.pa.1, .int .i64 p.pa.2, .int .i64 p.af.1, .int .i64 p.af.2, .string p.nm, .string p.vl] 42)) (by kernel_rfl) ⟨HP.out.drew, HK.out⟩ (fun hHeld => ?_)
    obtain ⟨Us1True6u0, eW⟩ : ∃ X, X = W0.drew := ⟨_, rfl⟩
    have hb : Below W0.heap.size W0 Us1True6u0 := by rw [eW]; exact (Below.refl _ _).drew
    replace HB : Hid (BelT B w Us1True6u0) := HB.out.trans (BelT.of hb HP.out.le)
    replace HP : Hid (PwM B wb bm bh (some top) X g D Us1True6u0) := HP.out.below hb
    replace HK : Hid (Us1True6u0.heap[kb]? = some (.cells #[.int .i64 p.kd, .int .i64 p.k.1, .int .i64 p.k.2, .int .i64 p.pa.1, .int .i64 p.pa.2, .int .i64 p.af.1, .int .i64 p.af.2, .string p.nm, .string p.vl] 42)) := (hb.block _ (row_lt HK.out)).trans HK.out
    rw [← eW] at hHeld ⊢
    clear eW hb
    refine tkW 0 (some 8) (v := ?_) ?_ hHeld ?_
    rotate_left
    · (intro ww _; go_simp; try with_reducible rfl)
    refine tkW 1 (some 9) (v := ?_) ?_ hHeld ?_
    rotate_left
    · (intro ww hSw; (try dsimp only at hSw); obtain ⟨hP, hK⟩ := hSw; have c0 := hP.c0; have b1 : ww.cell? ⟨kb, 1, none⟩ = some (.int .i64 p.k.1) := (by rw [cell_of_row ww kb 1 _ _ _ hK]; rfl); have b2 : ww.cell? ⟨kb, 2, none⟩ = some (.int .i64 p.k.2) := (by rw [cell_of_row ww kb 2 _ _ _ hK]; rfl); have hlk := hP.lookS HE.out; go_simp; try with_reducible rfl)
    refine tkW 2 (some 10) (v := ?_) ?_ hHeld ?_
    rotate_left
    · (intro ww _; go_simp; try with_reducible rfl)
    refine tkW 3 (some 11) (v := ?_) ?_ hHeld ?_
    rotate_left
    · (intro ww hSw; (try dsimp only at hSw); obtain ⟨hP, hK⟩ := hSw; have c0 := hP.c0; have b1 : ww.cell? ⟨kb, 1, none⟩ = some (.int .i64 p.k.1) := (by rw [cell_of_row ww kb 1 _ _ _ hK]; rfl); have b2 : ww.cell? ⟨kb, 2, none⟩ = some (.int .i64 p.k.2) := (by rw [cell_of_row ww kb 2 _ _ _ hK]; rfl); have hlk := hP.lookS HE.out; go_simp; try with_reducible rfl)
    refine tkW 4 (some 12) (v := ?_) ?_ hHeld ?_
    rotate_left
    · (intro ww _; go_simp; try with_reducible rfl)
    refine tkW 5 (some 13) (v := ?_) ?_ hHeld ?_
    rotate_left
    · (intro ww hSw; (try dsimp only at hSw); obtain ⟨hP, hK⟩ := hSw; have c0 := hP.c0; have b1 : ww.cell? ⟨kb, 1, none⟩ = some (.int .i64 p.k.1) := (by rw [cell_of_row ww kb 1 _ _ _ hK]; rfl); have b2 : ww.cell? ⟨kb, 2, none⟩ = some (.int .i64 p.k.2) := (by rw [cell_of_row ww kb 2 _ _ _ hK]; rfl); have hlk := hP.lookS HE.out; go_simp; try with_reducible rfl)
    refine tkW 6 (some 14) (v := ?_) ?_ hHeld ?_
    rotate_left
    · (intro ww hSw; (try dsimp only at hSw); obtain ⟨hP, hK⟩ := hSw; have c0 := hP.c0; have b1 : ww.cell? ⟨kb, 1, none⟩ = some (.int .i64 p.k.1) := (by rw [cell_of_row ww kb 1 _ _ _ hK]; rfl); have b2 : ww.cell? ⟨kb, 2, none⟩ = some (.int .i64 p.k.2) := (by rw [cell_of_row ww kb 2 _ _ _ hK]; rfl); have hlk := hP.lookS HE.out; go_simp; try with_reducible rfl)
    refine tkW 7 (some 5) (v := ?_) ?_ hHeld ?_
    rotate_left
    · (intro ww _; go_simp; try with_reducible rfl)
    refine wpAnyH_done (by kernel_rfl) ?_ _
    clear hHeld
    have b7 : Us1True6u0.cell? ⟨kb, 7, none⟩ = some (.string p.nm) := (by rw [cell_of_row Us1True6u0 kb 7 _ _ _ HK.out]; rfl)
    go_upto_region 5 with (go_at_call 54; refine (attr_any c p.nm _ HP.out HC.out.1 HL.out HSr.out).mono ?_; rintro e w4 ⟨i, b, rfl, hpl, hbv, hb⟩; have HQ := hide9 (And.intro hpl (And.intro hbv hb)); clear hpl hbv hb)
    have hpl := HQ.out.1
    have HBv := hide9 HQ.out.2.1
    have hb := HQ.out.2.2
    clear HQ
    replace HB : Hid (BelT B w w4) := HB.out.trans (BelT.of hb HP.out.le)
    replace HK : Hid (w4.heap[kb]? = some (.cells #[.int .i64 p.kd, .int .i64 p.k.1, .int .i64 p.k.2, .int .i64 p.pa.1, .int .i64 p.pa.2, .int .i64 p.af.1, .int .i64 p.af.2, .string p.nm, .string p.vl] 42)) := (hb.block _ (row_lt HK.out)).trans HK.out
    replace HP : Hid (PwM B wb bm bh (some top) X g D w4) := HP.out.below hb
    clear hb
    have hhas := hpl.has HSr.out
    rw [← HBv.out] at hhas
    have HPl := hide9 hpl
    have HHas := hide9 hhas
    clear hpl hhas
    cases b with
    | false =>
      have HSt : Hid (stepU p T H = (4, T, H)) := hide9 (by rw [HSt0.out]; have h9 : (stepF p (g.o c)).1 = 4 := (by unfold stepF; rw [if_neg (by rw [HKd.out]; decide), if_neg (by rw [HKd.out]; decide), if_neg (by rw [HKd.out]; decide), HHas.out]; rfl); rw [h9]; rfl)
      go_wp2
      (try rw [Exit.noGoto_ret])
      go_ret
      refine ⟨?_, HB.out⟩
      rw [HSt.out]
      exact StpP.err (by decide)
    | true =>
      have hex := of_decide_eq_true HBv.out.symm
      obtain ⟨hi, hnm⟩ := hex
      have hdel := delA_del HPl.out HSr.out hi hnm
      obtain ⟨m, hm⟩ : ∃ m, (g.o c).at_.length = i + m + 1 := ⟨(g.o c).at_.length - i - 1, by omega⟩
      have Hdel := hide9 hdel
      have Hm := hide9 hm
      have k0 : (0 : Int) ≤ (i : Int) := by omega
      have k1 : (i : Int) + 1 ≤ 4096 := by have := HL.out; omega
      have HWr : Hid (wrap64 ((i : Int) + 1) = ((i + 1 : Nat) : Int)) := hide9 (by rw [show (i : Int) + 1 = ((i + 1 : Nat) : Int) from by omega]; first | exact wrap64_of (by omega) (by omega) | (unfold wrap64; omega) | go_num)
      clear hdel hm hi hnm k0 k1
      have u4 : w4.cell? ⟨c, 4, none⟩ = some (g.av c) := (by rw [cell_of_row w4 c 4 _ _ _ (HP.out.mem c HC.out.1)]; rfl)
      go_wp2_with (go_at_call 56; rw [HWr.out]; refine (delete_any _ _ i m _ (OwnE.low (HP.out.at_ c HC.out.1) (Nat.zero_le _)) HL.out Hm.out).mono ?_; rintro e w5 ⟨v5, rfl, ho, hg, hw⟩; rw [← Hdel.out] at ho; obtain ⟨a5, c5, e5⟩ := OwnE.form ho; subst e5; have hO := HP.out.attrs (c := c) HC.out.1 hg (own_raise ho (fun k e => (OwnE.lt (HP.out.at_ c HC.out.1) k (hw ▸ e)).1)) (.inl hw); have HO := hide9 hO; have hrow : w5.heap[c]? = some (.cells (gRow g c) 51) := (hg.block c (HP.out.mem.lt HC.out.1) (fun e => (HP.out.aT HC.out.1 e.symm).1 HC.out.1)).trans (HP.out.mem c HC.out.1); have u5 : w5.cell? ⟨c, 4, none⟩ = some (g.av c) := (by rw [cell_of_row w5 c 4 _ _ _ hrow]; rfl); have z5 : w5.frozen? ⟨c, 4, none⟩ = false := frozen_of_row w5 c 4 _ _ hrow; clear hO ho hg hw hrow u4)
      (try rw [Exit.noGoto_ret])
      go_ret
      refine ⟨?_, HB.out.trans HO.out.2⟩
      have e1 : (stepF p (g.o c)).1 = 0 := (by unfold stepF; rw [if_neg (by rw [HKd.out]; decide), if_neg (by rw [HKd.out]; decide), if_neg (by rw [HKd.out]; decide), HHas.out]; rfl)
      have e2 : (stepF p (g.o c)).2 = { g.o c with at_ := delA p.nm (g.o c).at_ } := (by unfold stepF; rw [if_neg (by rw [HKd.out]; decide), if_neg (by rw [HKd.out]; decide), if_neg (by rw [HKd.out]; decide), HHas.out]; rfl)
      rw [HSt0.out, e1, if_neg (by decide)]
      refine StpP.ok ⟨HO.out.1, ?_⟩
      have h9 := HPp.out.with_ (n := c) (k := p.k) (F := fun f => (stepF p f).2) HC.out HCk.out (stepF_k p) (updF g.av c (.slice a5 (delA p.nm (g.o c).at_).length c5))
      (try dsimp only at h9)
      rw [e2] at h9
      simp only [withL] at h9 ⊢
      exact h9

end Go.Proofs.Ytccpljllgpabnab

namespace Go.Proofs.Ytccpljllgpabnab
open Go.RowKit
set_option linter.unusedVariables false
set_option linter.unusedSimpArgs false

theorem flatA_set : ∀ (D : List At) (i : Nat) (h : i < D.length) (vl : ByteArray), (flatE atCells D).set (i * 2 + 1) (.string vl) = flatE atCells (D.set i (D[i].1, vl))
  | [], i, h, _ => by simp at h
  | x :: r, 0, _, vl => rfl
  | x :: r, i + 1, h, vl => by
    show (Value.string x.1 :: Value.string x.2 :: flatE atCells r).set ((i + 1) * 2 + 1) (.string vl) = _
    rw [show (i + 1) * 2 + 1 = (i * 2 + 1) + 1 + 1 by omega, List.set_cons_succ, List.set_cons_succ, flatA_set r i (by simpa using h) vl]
    rfl
section
variable {B wb bm bh top : Nat} {tp : Option Nat} {X : Nat → Prop} {g : Gr} {D : List (St × Nat)} {T : VT} {H : List VT} {w W W1 W' : World}
/-- A node's attributes are others, in their row. -/
theorem PwM.attrV (h : PwM B wb bm bh tp X g D W) {c : Nat} {R' : List At} (hc : X c) (hg : W.grownBy W1 (g.av c).ownBlock) (ho : OwnAt B W1 (g.av c) R') :
    PwM B wb bm bh tp X { g with o := updF g.o c { g.o c with at_ := R' }, av := g.av } D W1 ∧ BelT B W W1 := by
  have haT : ∀ k, (g.av c).ownBlock = some k → ¬ X k ∧ k ≠ wb ∧ k ≠ bm := fun k e => h.aT hc e
  have hX1 : ∀ b, X b → W1.heap[b]? = W.heap[b]? := fun b hb => hg.block b (h.mem.lt hb) fun e => (haT b e.symm).1 hb
  refine ⟨⟨(hg.block _ (row_lt h.wr) fun e => (haT _ e.symm).2.1 rfl).trans h.wr, h.mp.keep (hg.block _ h.mp.lt fun e => (haT _ e.symm).2.2 rfl), fun b hb => ?_, fun b hb => ?_, h.ap, h.lo⟩, ⟨⟨hg.os, hg.tape, hg.output, hg.size, fun k hk => hg.block k (Nat.lt_of_lt_of_le hk h.le) fun e => by have := (OwnE.lt (h.at_ c hc) k e.symm).1; omega⟩, fun k cs e => ?_⟩⟩
  · rw [hX1 b hb, h.mem b hb]
    by_cases e : b = c
    · subst e
      simp [gRow, updF_same]
    · simp only [gRow, updF_ne _ _ e]
  · by_cases e : b = c
    · subst e
      show OwnAt B _ (g.av b) (updF g.o b _ b).at_
      rw [updF_same]
      exact ho
    · show OwnAt B _ (g.av b) (updF g.o c _ b).at_
      rw [updF_ne _ _ e]
      exact OwnE.keep (h.at_ b hb) fun k e2 => hg.block k (OwnE.lt (h.at_ b hb) k e2).2 fun e3 => e (h.ap b c k hb hc e2 e3.symm)
  · refine (hg.block k (row_lt e) fun e3 => ?_).trans e
    obtain ⟨cur, h9⟩ := ownsRow_type (h.at_ c hc) k e3.symm
    rw [e] at h9
    injection h9 with h9
    injection h9 with h8 h9
    revert h9
    decide
/-- One value is another one. -/
theorem PwM.setV (h : PwM B wb bm bh tp X g D W) {c i gb cap : Nat} (hc : X c) {nm : ByteArray} (hx : ∃ h : i < (g.o c).at_.length, (g.o c).at_[i].1 = nm) (e : g.av c = .slice (some ⟨gb, 0, none⟩) (g.o c).at_.length cap) (vl : ByteArray) :
    PwM B wb bm bh tp X { g with o := updF g.o c { g.o c with at_ := (g.o c).at_.set i (nm, vl) }, av := g.av } D (W.setCell ⟨gb, i * 2 + 1, none⟩ (.string vl)) ∧ BelT B W (W.setCell ⟨gb, i * 2 + 1, none⟩ (.string vl)) := by
  obtain ⟨hi, hn⟩ := hx
  have h1 := h.at_ c hc
  rw [e] at h1
  obtain ⟨h2, h3⟩ := World.ownsRow.stored h1 (i * 2 + 1) (.string vl)
  refine h.attrV hc (by rw [e]; exact h3) ?_
  rw [e]
  show World.ownsRow _ _ _ _ _ _ _
  rw [List.length_set, ← hn, ← flatA_set _ i hi vl]
  exact h2
theorem PwM.noKb (h : PwM B wb bm bh tp X g D W) {kb c : Nat} {cs : Array Value} (hk : W.heap[kb]? = some (.cells cs 42)) (hc : X c) : some kb ≠ (g.av c).ownBlock := fun e3 => by
  obtain ⟨cur, h9⟩ := ownsRow_type (h.at_ c hc) kb e3.symm
  rw [hk] at h9
  injection h9 with h9
  injection h9 with h8 h9
  revert h9
  decide
end
set_option maxRecDepth 100000 in
set_option maxHeartbeats 4000000 in
theorem setAttr_s {B wb bm bh top : Nat} {X : Nat → Prop} {g : Gr} {D : List (St × Nat)} {T : VT} {H : List VT} (p : Pa) (w : World) (h : PwM B wb bm bh (some top) X g D w) (hp : PwP bh X g D [T] [top] H) (hob : OkB T H) (hkd : p.kd = 8) :
    Calls Try.prog 37 #[.pointer (some ⟨wb, 0, none⟩), paV p] w fun e w' => StpP B wb bm bh top (stepU p T H) e w' ∧ BelT B w w' := by
  have HPp := hide9 hp
  have HKd := hide9 hkd
  rcases hp.fieldU p (by omega) with ⟨e, hst⟩ | ⟨c, e, hc, hck, hst⟩
  · have HE := hide9 e
    have HSt := hide9 hst
    clear e hst
    clear hp hkd hob
    have hbx : Below w.heap.size w (w.alloc (.cells #[.int .i64 p.kd, .int .i64 p.k.1, .int .i64 p.k.2, .int .i64 p.pa.1, .int .i64 p.pa.2, .int .i64 p.af.1, .int .i64 p.af.2, .string p.nm, .string p.vl] 42)) := (Below.refl _ _).alloc (Nat.le_refl _) _
    have HB : Hid (BelT B w (w.alloc (.cells #[.int .i64 p.kd, .int .i64 p.k.1, .int .i64 p.k.2, .int .i64 p.pa.1, .int .i64 p.pa.2, .int .i64 p.af.1, .int .i64 p.af.2, .string p.nm, .string p.vl] 42))) := BelT.of hbx h.le
    have HP : Hid (PwM B wb bm bh (some top) X g D (w.alloc (.cells #[.int .i64 p.kd, .int .i64 p.k.1, .int .i64 p.k.2, .int .i64 p.pa.1, .int .i64 p.pa.2, .int .i64 p.af.1, .int .i64 p.af.2, .string p.nm, .string p.vl] 42))) := h.below hbx
    have HK : Hid ((w.alloc (.cells #[.int .i64 p.kd, .int .i64 p.k.1, .int .i64 p.k.2, .int .i64 p.pa.1, .int .i64 p.pa.2, .int .i64 p.af.1, .int .i64 p.af.2, .string p.nm, .string p.vl] 42)).heap[w.heap.size]? = some (.cells #[.int .i64 p.kd, .int .i64 p.k.1, .int .i64 p.k.2, .int .i64 p.pa.1, .int .i64 p.pa.2, .int .i64 p.af.1, .int .i64 p.af.2, .string p.nm, .string p.vl] 42)) := heap_alloc_new _ _
    clear hbx h
    show Calls Try.prog 37 #[.pointer (some ⟨wb, 0, none⟩), .agg #[.int .i64 p.kd, .int .i64 p.k.1, .int .i64 p.k.2, .int .i64 p.pa.1, .int .i64 p.pa.2, .int .i64 p.af.1, .int .i64 p.af.2, .string p.nm, .string p.vl]] w _
    go_enter Try.func37, Try.ntmps37
    go_wp2
    obtain ⟨W0, eW0⟩ : ∃ X, X = (w.alloc (.cells #[.int .i64 p.kd, .int .i64 p.k.1, .int .i64 p.k.2, .int .i64 p.pa.1, .int .i64 p.pa.2, .int .i64 p.af.1, .int .i64 p.af.2, .string p.nm, .string p.vl] 42)) := ⟨_, rfl⟩
    rw [← eW0] at HB HP HK ⊢
    obtain ⟨kb, ekb⟩ : ∃ b, b = w.heap.size := ⟨_, rfl⟩
    rw [← ekb] at HK ⊢
    clear eW0 ekb
    refine wp_region_held_drew (S := fun W' => PwM B wb bm bh (some top) X g D W' ∧ W'.heap[kb]? = some (.cells #[.int .i64 p.kd, .int .i64 p.k.1, .int .i64 p.k.2, .int .i64 p.pa.1, .int .i64 p.pa.2, .int .i64 p.af.1, .int .i64 p.af.2, .string p.nm, .string p.vl] 42)) (by kernel_rfl) ⟨HP.out.drew, HK.out⟩ (fun hHeld => ?_)
    obtain ⟨Us1False7u0, eW⟩ : ∃ X, X = W0.drew := ⟨_, rfl⟩
    have hb : Below W0.heap.size W0 Us1False7u0 := by rw [eW]; exact (Below.refl _ _).drew
    replace HB : Hid (BelT B w Us1False7u0) := HB.out.trans (BelT.of hb HP.out.le)
    replace HP : Hid (PwM B wb bm bh (some top) X g D Us1False7u0) := HP.out.below hb
    replace HK : Hid (Us1False7u0.heap[kb]? = some (.cells #[.int .i64 p.kd, .int .i64 p.k.1, .int .i64 p.k.2, .int .i64 p.pa.1, .int .i64 p.pa.2, .int .i64 p.af.1, .int .i64 p.af.2, .string p.nm, .string p.vl] 42)) := (hb.block _ (row_lt HK.out)).trans HK.out
    rw [← eW] at hHeld ⊢
    clear eW hb
    refine tkW 0 (some 8) (v := ?_) ?_ hHeld ?_
    rotate_left
    · (intro ww _; go_simp; try with_reducible rfl)
    refine tkW 1 (some 9) (v := ?_) ?_ hHeld ?_
    rotate_left
    · (intro ww hSw; (try dsimp only at hSw); obtain ⟨hP, hK⟩ := hSw; have c0 := hP.c0; have b1 : ww.cell? ⟨kb, 1, none⟩ = some (.int .i64 p.k.1) := (by rw [cell_of_row ww kb 1 _ _ _ hK]; rfl); have b2 : ww.cell? ⟨kb, 2, none⟩ = some (.int .i64 p.k.2) := (by rw [cell_of_row ww kb 2 _ _ _ hK]; rfl); have hlk := hP.lookN HE.out; go_simp; try with_reducible rfl)
    refine tkW 2 (some 10) (v := ?_) ?_ hHeld ?_
    rotate_left
    · (intro ww _; go_simp; try with_reducible rfl)
    refine tkW 3 (some 11) (v := ?_) ?_ hHeld ?_
    rotate_left
    · (intro ww hSw; (try dsimp only at hSw); obtain ⟨hP, hK⟩ := hSw; have c0 := hP.c0; have b1 : ww.cell? ⟨kb, 1, none⟩ = some (.int .i64 p.k.1) := (by rw [cell_of_row ww kb 1 _ _ _ hK]; rfl); have b2 : ww.cell? ⟨kb, 2, none⟩ = some (.int .i64 p.k.2) := (by rw [cell_of_row ww kb 2 _ _ _ hK]; rfl); have hlk := hP.lookN HE.out; go_simp; try with_reducible rfl)
    refine tkW 4 (some 12) (v := ?_) ?_ hHeld ?_
    rotate_left
    · (intro ww _; go_simp; try with_reducible rfl)
    refine tkW 5 (some 13) (v := ?_) ?_ hHeld ?_
    rotate_left
    · (intro ww hSw; (try dsimp only at hSw); obtain ⟨hP, hK⟩ := hSw; have c0 := hP.c0; have b1 : ww.cell? ⟨kb, 1, none⟩ = some (.int .i64 p.k.1) := (by rw [cell_of_row ww kb 1 _ _ _ hK]; rfl); have b2 : ww.cell? ⟨kb, 2, none⟩ = some (.int .i64 p.k.2) := (by rw [cell_of_row ww kb 2 _ _ _ hK]; rfl); have hlk := hP.lookN HE.out; go_simp; try with_reducible rfl)
    refine tkW 6 (some 14) (v := ?_) ?_ hHeld ?_
    rotate_left
    · (intro ww hSw; (try dsimp only at hSw); obtain ⟨hP, hK⟩ := hSw; have c0 := hP.c0; have b1 : ww.cell? ⟨kb, 1, none⟩ = some (.int .i64 p.k.1) := (by rw [cell_of_row ww kb 1 _ _ _ hK]; rfl); have b2 : ww.cell? ⟨kb, 2, none⟩ = some (.int .i64 p.k.2) := (by rw [cell_of_row ww kb 2 _ _ _ hK]; rfl); have hlk := hP.lookN HE.out; go_simp; try with_reducible rfl)
    refine tkW 7 (some 5) (v := ?_) ?_ hHeld ?_
    rotate_left
    · (intro ww _; go_simp; try with_reducible rfl)
    refine wpAnyH_done (by kernel_rfl) ?_ _
    clear hHeld
    go_wp2
    (try rw [Exit.noGoto_ret])
    go_ret
    refine ⟨?_, HB.out⟩
    rw [HSt.out]
    exact StpP.err (by decide)
  · obtain ⟨_, _, hl4, hchk⟩ := chkF_parts (hob.ok _ (hp.recOf e))
    have hsr := (names_lt hchk).2
    have HE := hide9 e
    have HC := hide9 hc
    have HCk := hide9 hck
    have HSt0 := hide9 hst
    have HL := hide9 hl4
    have HSr := hide9 hsr
    clear e hc hck hst hl4 hchk hsr
    clear hp hkd hob
    have hbx : Below w.heap.size w (w.alloc (.cells #[.int .i64 p.kd, .int .i64 p.k.1, .int .i64 p.k.2, .int .i64 p.pa.1, .int .i64 p.pa.2, .int .i64 p.af.1, .int .i64 p.af.2, .string p.nm, .string p.vl] 42)) := (Below.refl _ _).alloc (Nat.le_refl _) _
    have HB : Hid (BelT B w (w.alloc (.cells #[.int .i64 p.kd, .int .i64 p.k.1, .int .i64 p.k.2, .int .i64 p.pa.1, .int .i64 p.pa.2, .int .i64 p.af.1, .int .i64 p.af.2, .string p.nm, .string p.vl] 42))) := BelT.of hbx h.le
    have HP : Hid (PwM B wb bm bh (some top) X g D (w.alloc (.cells #[.int .i64 p.kd, .int .i64 p.k.1, .int .i64 p.k.2, .int .i64 p.pa.1, .int .i64 p.pa.2, .int .i64 p.af.1, .int .i64 p.af.2, .string p.nm, .string p.vl] 42))) := h.below hbx
    have HK : Hid ((w.alloc (.cells #[.int .i64 p.kd, .int .i64 p.k.1, .int .i64 p.k.2, .int .i64 p.pa.1, .int .i64 p.pa.2, .int .i64 p.af.1, .int .i64 p.af.2, .string p.nm, .string p.vl] 42)).heap[w.heap.size]? = some (.cells #[.int .i64 p.kd, .int .i64 p.k.1, .int .i64 p.k.2, .int .i64 p.pa.1, .int .i64 p.pa.2, .int .i64 p.af.1, .int .i64 p.af.2, .string p.nm, .string p.vl] 42)) := heap_alloc_new _ _
    clear hbx h
    show Calls Try.prog 37 #[.pointer (some ⟨wb, 0, none⟩), .agg #[.int .i64 p.kd, .int .i64 p.k.1, .int .i64 p.k.2, .int .i64 p.pa.1, .int .i64 p.pa.2, .int .i64 p.af.1, .int .i64 p.af.2, .string p.nm, .string p.vl]] w _
    go_enter Try.func37, Try.ntmps37
    go_wp2
    obtain ⟨W0, eW0⟩ : ∃ X, X = (w.alloc (.cells #[.int .i64 p.kd, .int .i64 p.k.1, .int .i64 p.k.2, .int .i64 p.pa.1, .int .i64 p.pa.2, .int .i64 p.af.1, .int .i64 p.af.2, .string p.nm, .string p.vl] 42)) := ⟨_, rfl⟩
    rw [← eW0] at HB HP HK ⊢
    obtain ⟨kb, ekb⟩ : ∃ b, b = w.heap.size := ⟨_, rfl⟩
    rw [← ekb] at HK ⊢
    clear eW0 ekb
    refine wp_region_held_drew (S := fun W' => PwM B wb bm bh (some top) X g D W' ∧ W'.heap[kb]? = some (.cells #[.int .i64 p.kd, .int .i64 p.k.1, .int .i64 p.k.2, .int .i64 p.pa.1, .int .i64 p.pa.2, .int .i64 p.af.1, .int .i64 p.af.2, .string p.nm, .string p.vl] 42)) (by kernel_rfl) ⟨HP.out.drew, HK.out⟩ (fun hHeld => ?_)
    obtain ⟨Us1True8u0, eW⟩ : ∃ X, X = W0.drew := ⟨_, rfl⟩
    have hb : Below W0.heap.size W0 Us1True8u0 := by rw [eW]; exact (Below.refl _ _).drew
    replace HB : Hid (BelT B w Us1True8u0) := HB.out.trans (BelT.of hb HP.out.le)
    replace HP : Hid (PwM B wb bm bh (some top) X g D Us1True8u0) := HP.out.below hb
    replace HK : Hid (Us1True8u0.heap[kb]? = some (.cells #[.int .i64 p.kd, .int .i64 p.k.1, .int .i64 p.k.2, .int .i64 p.pa.1, .int .i64 p.pa.2, .int .i64 p.af.1, .int .i64 p.af.2, .string p.nm, .string p.vl] 42)) := (hb.block _ (row_lt HK.out)).trans HK.out
    rw [← eW] at hHeld ⊢
    clear eW hb
    refine tkW 0 (some 8) (v := ?_) ?_ hHeld ?_
    rotate_left
    · (intro ww _; go_simp; try with_reducible rfl)
    refine tkW 1 (some 9) (v := ?_) ?_ hHeld ?_
    rotate_left
    · (intro ww hSw; (try dsimp only at hSw); obtain ⟨hP, hK⟩ := hSw; have c0 := hP.c0; have b1 : ww.cell? ⟨kb, 1, none⟩ = some (.int .i64 p.k.1) := (by rw [cell_of_row ww kb 1 _ _ _ hK]; rfl); have b2 : ww.cell? ⟨kb, 2, none⟩ = some (.int .i64 p.k.2) := (by rw [cell_of_row ww kb 2 _ _ _ hK]; rfl); have hlk := hP.lookS HE.out; go_simp; try with_reducible rfl)
    refine tkW 2 (some 10) (v := ?_) ?_ hHeld ?_
    rotate_left
    · (intro ww _; go_simp; try with_reducible rfl)
    refine tkW 3 (some 11) (v := ?_) ?_ hHeld ?_
    rotate_left
    · (intro ww hSw; (try dsimp only at hSw); obtain ⟨hP, hK⟩ := hSw; have c0 := hP.c0; have b1 : ww.cell? ⟨kb, 1, none⟩ = some (.int .i64 p.k.1) := (by rw [cell_of_row ww kb 1 _ _ _ hK]; rfl); have b2 : ww.cell? ⟨kb, 2, none⟩ = some (.int .i64 p.k.2) := (by rw [cell_of_row ww kb 2 _ _ _ hK]; rfl); have hlk := hP.lookS HE.out; go_simp; try with_reducible rfl)
    refine tkW 4 (some 12) (v := ?_) ?_ hHeld ?_
    rotate_left
    · (intro ww _; go_simp; try with_reducible rfl)
    refine tkW 5 (some 13) (v := ?_) ?_ hHeld ?_
    rotate_left
    · (intro ww hSw; (try dsimp only at hSw); obtain ⟨hP, hK⟩ := hSw; have c0 := hP.c0; have b1 : ww.cell? ⟨kb, 1, none⟩ = some (.int .i64 p.k.1) := (by rw [cell_of_row ww kb 1 _ _ _ hK]; rfl); have b2 : ww.cell? ⟨kb, 2, none⟩ = some (.int .i64 p.k.2) := (by rw [cell_of_row ww kb 2 _ _ _ hK]; rfl); have hlk := hP.lookS HE.out; go_simp; try with_reducible rfl)
    refine tkW 6 (some 14) (v := ?_) ?_ hHeld ?_
    rotate_left
    · (intro ww hSw; (try dsimp only at hSw); obtain ⟨hP, hK⟩ := hSw; have c0 := hP.c0; have b1 : ww.cell? ⟨kb, 1, none⟩ = some (.int .i64 p.k.1) := (by rw [cell_of_row ww kb 1 _ _ _ hK]; rfl); have b2 : ww.cell? ⟨kb, 2, none⟩ = some (.int .i64 p.k.2) := (by rw [cell_of_row ww kb 2 _ _ _ hK]; rfl); have hlk := hP.lookS HE.out; go_simp; try with_reducible rfl)
    refine tkW 7 (some 5) (v := ?_) ?_ hHeld ?_
    rotate_left
    · (intro ww _; go_simp; try with_reducible rfl)
    refine wpAnyH_done (by kernel_rfl) ?_ _
    clear hHeld
    have b7 : Us1True8u0.cell? ⟨kb, 7, none⟩ = some (.string p.nm) := (by rw [cell_of_row Us1True8u0 kb 7 _ _ _ HK.out]; rfl)
    go_upto_region 5 with (go_at_call 54; refine (attr_any c p.nm _ HP.out HC.out.1 HL.out HSr.out).mono ?_; rintro e w4 ⟨i, b, rfl, hpl, hbv, hb⟩; have HQ := hide9 (And.intro hpl (And.intro hbv hb)); clear hpl hbv hb)
    have hpl := HQ.out.1
    have HBv := hide9 HQ.out.2.1
    have hb := HQ.out.2.2
    clear HQ
    replace HB : Hid (BelT B w w4) := HB.out.trans (BelT.of hb HP.out.le)
    replace HK : Hid (w4.heap[kb]? = some (.cells #[.int .i64 p.kd, .int .i64 p.k.1, .int .i64 p.k.2, .int .i64 p.pa.1, .int .i64 p.pa.2, .int .i64 p.af.1, .int .i64 p.af.2, .string p.nm, .string p.vl] 42)) := (hb.block _ (row_lt HK.out)).trans HK.out
    replace HP : Hid (PwM B wb bm bh (some top) X g D w4) := HP.out.below hb
    clear hb
    have hhas := hpl.has HSr.out
    rw [← HBv.out] at hhas
    have HPl := hide9 hpl
    have HHas := hide9 hhas
    clear hpl hhas
    cases b with
    | false =>
      have hno : ¬ ∃ h : i < (g.o c).at_.length, (g.o c).at_[i].1 = p.nm := of_decide_eq_false HBv.out.symm
      have hins := setA_ins (vl := p.vl) HPl.out HSr.out hno
      have Hins := hide9 hins
      have hil := HPl.out.1
      have Hil := hide9 hil
      clear hno hins hil
      obtain ⟨a4, c4, e4⟩ := OwnE.form (HP.out.at_ c HC.out.1)
      have He4 := hide9 e4
      clear e4
      have u4 : w4.cell? ⟨c, 4, none⟩ = some (.slice a4 (g.o c).at_.length c4) := (by rw [cell_of_row w4 c 4 _ _ _ (HP.out.mem c HC.out.1), ← He4.out]; rfl)
      by_cases hfull : (g.o c).at_.length = 4096
      · have HSt : Hid (stepU p T H = (6, T, H)) := hide9 (by rw [HSt0.out]; have h9 : (stepF p (g.o c)).1 = 6 := (by unfold stepF; rw [if_neg (by rw [HKd.out]; decide), if_neg (by rw [HKd.out]; decide), if_pos HKd.out, if_pos ⟨HHas.out, hfull⟩]); rw [h9]; rfl)
        rw [hfull] at u4
        clear hfull
        go_wp2
        (try rw [Exit.noGoto_ret])
        go_ret
        refine ⟨?_, HB.out⟩
        rw [HSt.out]
        exact StpP.err (by decide)
      · have Hfull := hide9 hfull
        have k9 : ¬ ((g.o c).at_.length : Int) = 4096 := by omega
        have k8 : (((g.o c).at_.length : Int) == 4096) = false := by simpa using k9
        clear hfull
        go_upto_region 10 with fail
        clear u4 k9 k8
        refine wp_region_held_drew (S := fun W' => W'.heap[kb]? = some (.cells #[.int .i64 p.kd, .int .i64 p.k.1, .int .i64 p.k.2, .int .i64 p.pa.1, .int .i64 p.pa.2, .int .i64 p.af.1, .int .i64 p.af.2, .string p.nm, .string p.vl] 42)) (by kernel_rfl) HK.out (fun hHeld => ?_)
        obtain ⟨Us1010u0, eW⟩ : ∃ X, X = w4.drew := ⟨_, rfl⟩
        have hb : Below w4.heap.size w4 Us1010u0 := by rw [eW]; exact (Below.refl _ _).drew
        replace HB : Hid (BelT B w Us1010u0) := HB.out.trans (BelT.of hb HP.out.le)
        replace HP : Hid (PwM B wb bm bh (some top) X g D Us1010u0) := HP.out.below hb
        replace HK : Hid (Us1010u0.heap[kb]? = some (.cells #[.int .i64 p.kd, .int .i64 p.k.1, .int .i64 p.k.2, .int .i64 p.pa.1, .int .i64 p.pa.2, .int .i64 p.af.1, .int .i64 p.af.2, .string p.nm, .string p.vl] 42)) := (hb.block _ (row_lt HK.out)).trans HK.out
        rw [← eW] at hHeld ⊢
        clear eW hb
        refine tkW 0 (some 42) (v := ?_) ?_ hHeld ?_
        rotate_left
        · (intro ww _; go_simp; try with_reducible rfl)
        refine tkW 1 (some 43) (v := ?_) ?_ hHeld ?_
        rotate_left
        · (intro ww _; go_simp; try with_reducible rfl)
        refine tkW 2 (some 44) (v := ?_) ?_ hHeld ?_
        rotate_left
        · (intro ww hSw; (try dsimp only at hSw); have b7 : ww.cell? ⟨kb, 7, none⟩ = some (.string p.nm) := (by rw [cell_of_row ww kb 7 _ _ _ hSw]; rfl); have b8 : ww.cell? ⟨kb, 8, none⟩ = some (.string p.vl) := (by rw [cell_of_row ww kb 8 _ _ _ hSw]; rfl); go_simp; try with_reducible rfl)
        refine tkW 3 (some 45) (v := ?_) ?_ hHeld ?_
        rotate_left
        · (intro ww _; go_simp; try with_reducible rfl)
        refine tkW 4 (some 46) (v := ?_) ?_ hHeld ?_
        rotate_left
        · (intro ww _; go_simp; try with_reducible rfl)
        refine tkW 6 (some 48) (v := ?_) ?_ hHeld ?_
        rotate_left
        · (intro ww _; go_simp; try with_reducible rfl)
        refine tkW 7 (some 49) (v := ?_) ?_ hHeld ?_
        rotate_left
        · (intro ww _; go_simp; try with_reducible rfl)
        refine tkW 8 (some 50) (v := ?_) ?_ hHeld ?_
        rotate_left
        · (intro ww hSw; (try dsimp only at hSw); have b7 : ww.cell? ⟨kb, 7, none⟩ = some (.string p.nm) := (by rw [cell_of_row ww kb 7 _ _ _ hSw]; rfl); have b8 : ww.cell? ⟨kb, 8, none⟩ = some (.string p.vl) := (by rw [cell_of_row ww kb 8 _ _ _ hSw]; rfl); go_simp; try with_reducible rfl)
        refine tkW 9 (some 51) (v := ?_) ?_ hHeld ?_
        rotate_left
        · (intro ww _; go_simp; try with_reducible rfl)
        refine tkW 10 (some 52) (v := ?_) ?_ hHeld ?_
        rotate_left
        · (intro ww hSw; (try dsimp only at hSw); have b7 : ww.cell? ⟨kb, 7, none⟩ = some (.string p.nm) := (by rw [cell_of_row ww kb 7 _ _ _ hSw]; rfl); have b8 : ww.cell? ⟨kb, 8, none⟩ = some (.string p.vl) := (by rw [cell_of_row ww kb 8 _ _ _ hSw]; rfl); go_simp; try with_reducible rfl)
        refine tkW 11 (some 53) (v := ?_) ?_ hHeld ?_
        rotate_left
        · (intro ww hSw; (try dsimp only at hSw); have b7 : ww.cell? ⟨kb, 7, none⟩ = some (.string p.nm) := (by rw [cell_of_row ww kb 7 _ _ _ hSw]; rfl); have b8 : ww.cell? ⟨kb, 8, none⟩ = some (.string p.vl) := (by rw [cell_of_row ww kb 8 _ _ _ hSw]; rfl); go_simp; try with_reducible rfl)
        refine wpAnyH_ready (rs := [5, 12]) (by kernel_rfl) (by simp) ?_
        refine AllReadyH.cons (o := ⟨some 47, _, _, _, _, _⟩) rfl (fun K hK => ?_) (AllReadyH.cons (o := ⟨some 54, _, _, _, _, _⟩) rfl (fun K hK => ?_) AllReadyH.nil)
        · have u4 : Us1010u0.cell? ⟨c, 4, none⟩ = some (.slice a4 (g.o c).at_.length c4) := (by rw [cell_of_row Us1010u0 c 4 _ _ _ (HP.out.mem c HC.out.1), ← He4.out]; rfl)
          go_simp
          refine hK.out _ _ (hHeld) (fun hHeld2 => ?_)
          clear hK K hHeld
          have hHeld := hHeld2
          clear hHeld2
          (try simp only [Act.put, List.setIfInBounds_toArray, List.set_cons_zero, List.set_cons_succ])
          clear u4
          refine wpAnyH_ready (rs := [12]) (by kernel_rfl) (by simp) ?_
          refine AllReadyH.cons (o := ⟨some 54, _, _, _, _, _⟩) rfl (fun K hK => ?_) AllReadyH.nil
          have hnb : ∀ k, (g.av c).ownBlock = some k → k ≠ Us1010u0.heap.size := fun k e => Nat.ne_of_lt (OwnE.lt (HP.out.at_ c HC.out.1) k e).2
          have hbx : Below Us1010u0.heap.size Us1010u0 (Us1010u0.alloc (.cells #[.string p.nm, .string p.vl] 59)) := (Below.refl _ _).alloc (Nat.le_refl _) _
          go_simp
          refine hK.out _ _ ((hbx.block _ (row_lt hHeld)).trans hHeld) (fun hHeld2 => ?_)
          clear hK K hHeld
          have hHeld := hHeld2
          clear hHeld2
          (try simp only [Act.put, List.setIfInBounds_toArray, List.set_cons_zero, List.set_cons_succ])
          obtain ⟨Us1010u2, eW⟩ : ∃ X, X = Us1010u0.alloc (.cells #[.string p.nm, .string p.vl] 59) := ⟨_, rfl⟩
          have hb : Below Us1010u0.heap.size Us1010u0 Us1010u2 := by rw [eW]; exact (Below.refl _ _).alloc (Nat.le_refl _) _
          replace HB : Hid (BelT B w Us1010u2) := HB.out.trans (BelT.of hb HP.out.le)
          replace HP : Hid (PwM B wb bm bh (some top) X g D Us1010u2) := HP.out.below hb
          replace HK : Hid (Us1010u2.heap[kb]? = some (.cells #[.int .i64 p.kd, .int .i64 p.k.1, .int .i64 p.k.2, .int .i64 p.pa.1, .int .i64 p.pa.2, .int .i64 p.af.1, .int .i64 p.af.2, .string p.nm, .string p.vl] 42)) := (hb.block _ (row_lt HK.out)).trans HK.out
          have HV : Hid (Us1010u2.heap[Us1010u0.heap.size]? = some (.cells #[.string p.nm, .string p.vl] 59)) := by rw [eW]; exact heap_alloc_new _ _
          rw [← eW] at hHeld ⊢
          clear eW
          clear hbx
          obtain ⟨nb, enb⟩ : ∃ b, b = Us1010u0.heap.size := ⟨_, rfl⟩
          rw [← enb] at HV hnb ⊢
          clear enb
          have HNb := hide9 hnb
          clear hnb
          clear hb
          refine wpAnyH_ready (rs := [13]) (by kernel_rfl) (by simp) ?_
          refine AllReadyH.cons (o := ⟨some 55, _, _, _, _, _⟩) rfl (fun K hK => ?_) AllReadyH.nil
          go_simp
          have hA : OwnAt 0 Us1010u2 (.slice a4 (g.o c).at_.length c4) (g.o c).at_ := OwnE.low (by rw [← He4.out]; exact HP.out.at_ c HC.out.1) (Nat.zero_le B)
          refine (insert_any _ (g.o c).at_ i (p.nm, p.vl) nb _ hA HL.out Hil.out HV.out (fun e => HNb.out nb (by rw [He4.out]; exact e) rfl)).mono ?_
          rintro e Us1010u3 ⟨v5, rfl, ho, hg, hw⟩
          rw [← He4.out] at hg hw
          rw [← Hins.out] at ho
          obtain ⟨a5, c5, e5⟩ := OwnE.form ho
          subst e5
          have hra : ∀ k, (Value.slice a5 (setA p.nm p.vl (g.o c).at_).length c5).ownBlock = some k → B ≤ k := fun k e => (by rcases hw with e3 | ⟨j, e3, hj⟩; (rw [e3] at e; exact (OwnE.lt (HP.out.at_ c HC.out.1) k e).1); (rw [e] at e3; injection e3 with e3; have := HP.out.le; omega))
          have hO := HP.out.attrs (c := c) HC.out.1 hg (own_raise ho hra) hw
          have hrow : Us1010u3.heap[c]? = some (.cells (gRow g c) 51) := (hg.block c (HP.out.mem.lt HC.out.1) (fun e => (HP.out.aT HC.out.1 e.symm).1 HC.out.1)).trans (HP.out.mem c HC.out.1)
          have hK5 : Us1010u3.heap[kb]? = some (.cells #[.int .i64 p.kd, .int .i64 p.k.1, .int .i64 p.k.2, .int .i64 p.pa.1, .int .i64 p.pa.2, .int .i64 p.af.1, .int .i64 p.af.2, .string p.nm, .string p.vl] 42) := (hg.block kb (row_lt HK.out) (HP.out.noKb HK.out HC.out.1)).trans HK.out
          have HkC : Hid (kb ≠ c) := fun e => HP.out.notX HK.out (by decide) (e ▸ HC.out.1)
          have HO := hide9 hO
          have HB2 : Hid (BelT B w (Us1010u3.setCell ⟨c, 4, none⟩ (.slice a5 (setA p.nm p.vl (g.o c).at_).length c5))) := HB.out.trans hO.2
          have HR5 := hide9 hrow
          have HK5 := hide9 hK5
          clear hO ho hg hw hra hrow hK5 hA
          (try go_wp2_with fail)
          refine hK.out _ _ (HK5.out) (fun hHeld2 => ?_)
          clear hK K hHeld
          have hHeld := hHeld2
          clear hHeld2
          (try simp only [Act.put, List.setIfInBounds_toArray, List.set_cons_zero, List.set_cons_succ])
          clear HP HB HK HV HNb
          refine tkW 14 (some 56) (v := ?_) ?_ hHeld ?_
          rotate_left
          · (intro ww hSw; (try dsimp only at hSw); have b7 : ww.cell? ⟨kb, 7, none⟩ = some (.string p.nm) := (by rw [cell_of_row ww kb 7 _ _ _ hSw]; rfl); have b8 : ww.cell? ⟨kb, 8, none⟩ = some (.string p.vl) := (by rw [cell_of_row ww kb 8 _ _ _ hSw]; rfl); go_simp; try with_reducible rfl)
          refine tkW 15 (some 57) (v := ?_) ?_ hHeld ?_
          rotate_left
          · (intro ww _; go_simp; try with_reducible rfl)
          refine tkW 16 (some 58) (v := ?_) ?_ hHeld ?_
          rotate_left
          · (intro ww _; go_simp; try with_reducible rfl)
          refine wpAnyH_ready (rs := [17]) (by kernel_rfl) (by simp) ?_
          refine AllReadyH.cons (o := ⟨none, _, _, _, _, _⟩) rfl (fun K hK => ?_) AllReadyH.nil
          have u5 : Us1010u3.cell? ⟨c, 4, none⟩ = some (g.av c) := (by rw [cell_of_row Us1010u3 c 4 _ _ _ HR5.out]; rfl)
          have z5 : Us1010u3.frozen? ⟨c, 4, none⟩ = false := frozen_of_row Us1010u3 c 4 _ _ HR5.out
          have hS9 : (fun W' => W'.heap[kb]? = some (.cells #[.int .i64 p.kd, .int .i64 p.k.1, .int .i64 p.k.2, .int .i64 p.pa.1, .int .i64 p.pa.2, .int .i64 p.af.1, .int .i64 p.af.2, .string p.nm, .string p.vl] 42)) (Us1010u3.setCell ⟨c, 4, none⟩ (.slice a5 (setA p.nm p.vl (g.o c).at_).length c5)) := (RowKit.Below.heap_setCell _ _ _ _ HkC.out).trans HK5.out
          go_simp
          refine hK.out _ _ (hS9) (fun hHeld2 => ?_)
          clear hK K hHeld
          have hHeld := hHeld2
          clear hHeld2
          (try simp only [Act.put, List.setIfInBounds_toArray, List.set_cons_zero, List.set_cons_succ])
          clear u5 z5 hS9
          refine wpAnyH_done (by kernel_rfl) ?_ _
          clear hHeld
          go_wp2
          (try rw [Exit.noGoto_ret])
          go_ret
          refine ⟨?_, HB2.out⟩
          have e1 : (stepF p (g.o c)).1 = 0 := (by unfold stepF; rw [if_neg (by rw [HKd.out]; decide), if_neg (by rw [HKd.out]; decide), if_pos HKd.out, if_neg (fun e => Hfull.out e.2)])
          have e2 : (stepF p (g.o c)).2 = { g.o c with at_ := setA p.nm p.vl (g.o c).at_ } := (by unfold stepF; rw [if_neg (by rw [HKd.out]; decide), if_neg (by rw [HKd.out]; decide), if_pos HKd.out, if_neg (fun e => Hfull.out e.2)])
          rw [HSt0.out, e1, if_neg (by decide)]
          refine StpP.ok ⟨HO.out.1, ?_⟩
          have h9 := HPp.out.with_ (n := c) (k := p.k) (F := fun f => (stepF p f).2) HC.out HCk.out (stepF_k p) (updF g.av c (.slice a5 (setA p.nm p.vl (g.o c).at_).length c5))
          (try dsimp only at h9)
          rw [e2] at h9
          simp only [withL] at h9 ⊢
          exact h9
        · have hnb : ∀ k, (g.av c).ownBlock = some k → k ≠ Us1010u0.heap.size := fun k e => Nat.ne_of_lt (OwnE.lt (HP.out.at_ c HC.out.1) k e).2
          have hbx : Below Us1010u0.heap.size Us1010u0 (Us1010u0.alloc (.cells #[.string p.nm, .string p.vl] 59)) := (Below.refl _ _).alloc (Nat.le_refl _) _
          go_simp
          refine hK.out _ _ ((hbx.block _ (row_lt hHeld)).trans hHeld) (fun hHeld2 => ?_)
          clear hK K hHeld
          have hHeld := hHeld2
          clear hHeld2
          (try simp only [Act.put, List.setIfInBounds_toArray, List.set_cons_zero, List.set_cons_succ])
          obtain ⟨Us1010u5, eW⟩ : ∃ X, X = Us1010u0.alloc (.cells #[.string p.nm, .string p.vl] 59) := ⟨_, rfl⟩
          have hb : Below Us1010u0.heap.size Us1010u0 Us1010u5 := by rw [eW]; exact (Below.refl _ _).alloc (Nat.le_refl _) _
          replace HB : Hid (BelT B w Us1010u5) := HB.out.trans (BelT.of hb HP.out.le)
          replace HP : Hid (PwM B wb bm bh (some top) X g D Us1010u5) := HP.out.below hb
          replace HK : Hid (Us1010u5.heap[kb]? = some (.cells #[.int .i64 p.kd, .int .i64 p.k.1, .int .i64 p.k.2, .int .i64 p.pa.1, .int .i64 p.pa.2, .int .i64 p.af.1, .int .i64 p.af.2, .string p.nm, .string p.vl] 42)) := (hb.block _ (row_lt HK.out)).trans HK.out
          have HV : Hid (Us1010u5.heap[Us1010u0.heap.size]? = some (.cells #[.string p.nm, .string p.vl] 59)) := by rw [eW]; exact heap_alloc_new _ _
          rw [← eW] at hHeld ⊢
          clear eW
          clear hbx
          obtain ⟨nb, enb⟩ : ∃ b, b = Us1010u0.heap.size := ⟨_, rfl⟩
          rw [← enb] at HV hnb ⊢
          clear enb
          have HNb := hide9 hnb
          clear hnb
          clear hb
          refine wpAnyH_ready (rs := [5]) (by kernel_rfl) (by simp) ?_
          refine AllReadyH.cons (o := ⟨some 47, _, _, _, _, _⟩) rfl (fun K hK => ?_) AllReadyH.nil
          have u4 : Us1010u5.cell? ⟨c, 4, none⟩ = some (.slice a4 (g.o c).at_.length c4) := (by rw [cell_of_row Us1010u5 c 4 _ _ _ (HP.out.mem c HC.out.1), ← He4.out]; rfl)
          go_simp
          refine hK.out _ _ (hHeld) (fun hHeld2 => ?_)
          clear hK K hHeld
          have hHeld := hHeld2
          clear hHeld2
          (try simp only [Act.put, List.setIfInBounds_toArray, List.set_cons_zero, List.set_cons_succ])
          clear u4
          refine wpAnyH_ready (rs := [13]) (by kernel_rfl) (by simp) ?_
          refine AllReadyH.cons (o := ⟨some 55, _, _, _, _, _⟩) rfl (fun K hK => ?_) AllReadyH.nil
          go_simp
          have hA : OwnAt 0 Us1010u5 (.slice a4 (g.o c).at_.length c4) (g.o c).at_ := OwnE.low (by rw [← He4.out]; exact HP.out.at_ c HC.out.1) (Nat.zero_le B)
          refine (insert_any _ (g.o c).at_ i (p.nm, p.vl) nb _ hA HL.out Hil.out HV.out (fun e => HNb.out nb (by rw [He4.out]; exact e) rfl)).mono ?_
          rintro e Us1010u7 ⟨v5, rfl, ho, hg, hw⟩
          rw [← He4.out] at hg hw
          rw [← Hins.out] at ho
          obtain ⟨a5, c5, e5⟩ := OwnE.form ho
          subst e5
          have hra : ∀ k, (Value.slice a5 (setA p.nm p.vl (g.o c).at_).length c5).ownBlock = some k → B ≤ k := fun k e => (by rcases hw with e3 | ⟨j, e3, hj⟩; (rw [e3] at e; exact (OwnE.lt (HP.out.at_ c HC.out.1) k e).1); (rw [e] at e3; injection e3 with e3; have := HP.out.le; omega))
          have hO := HP.out.attrs (c := c) HC.out.1 hg (own_raise ho hra) hw
          have hrow : Us1010u7.heap[c]? = some (.cells (gRow g c) 51) := (hg.block c (HP.out.mem.lt HC.out.1) (fun e => (HP.out.aT HC.out.1 e.symm).1 HC.out.1)).trans (HP.out.mem c HC.out.1)
          have hK5 : Us1010u7.heap[kb]? = some (.cells #[.int .i64 p.kd, .int .i64 p.k.1, .int .i64 p.k.2, .int .i64 p.pa.1, .int .i64 p.pa.2, .int .i64 p.af.1, .int .i64 p.af.2, .string p.nm, .string p.vl] 42) := (hg.block kb (row_lt HK.out) (HP.out.noKb HK.out HC.out.1)).trans HK.out
          have HkC : Hid (kb ≠ c) := fun e => HP.out.notX HK.out (by decide) (e ▸ HC.out.1)
          have HO := hide9 hO
          have HB2 : Hid (BelT B w (Us1010u7.setCell ⟨c, 4, none⟩ (.slice a5 (setA p.nm p.vl (g.o c).at_).length c5))) := HB.out.trans hO.2
          have HR5 := hide9 hrow
          have HK5 := hide9 hK5
          clear hO ho hg hw hra hrow hK5 hA
          (try go_wp2_with fail)
          refine hK.out _ _ (HK5.out) (fun hHeld2 => ?_)
          clear hK K hHeld
          have hHeld := hHeld2
          clear hHeld2
          (try simp only [Act.put, List.setIfInBounds_toArray, List.set_cons_zero, List.set_cons_succ])
          clear HP HB HK HV HNb
          refine tkW 14 (some 56) (v := ?_) ?_ hHeld ?_
          rotate_left
          · (intro ww hSw; (try dsimp only at hSw); have b7 : ww.cell? ⟨kb, 7, none⟩ = some (.string p.nm) := (by rw [cell_of_row ww kb 7 _ _ _ hSw]; rfl); have b8 : ww.cell? ⟨kb, 8, none⟩ = some (.string p.vl) := (by rw [cell_of_row ww kb 8 _ _ _ hSw]; rfl); go_simp; try with_reducible rfl)
          refine tkW 15 (some 57) (v := ?_) ?_ hHeld ?_
          rotate_left
          · (intro ww _; go_simp; try with_reducible rfl)
          refine tkW 16 (some 58) (v := ?_) ?_ hHeld ?_
          rotate_left
          · (intro ww _; go_simp; try with_reducible rfl)
          refine wpAnyH_ready (rs := [17]) (by kernel_rfl) (by simp) ?_
          refine AllReadyH.cons (o := ⟨none, _, _, _, _, _⟩) rfl (fun K hK => ?_) AllReadyH.nil
          have u5 : Us1010u7.cell? ⟨c, 4, none⟩ = some (g.av c) := (by rw [cell_of_row Us1010u7 c 4 _ _ _ HR5.out]; rfl)
          have z5 : Us1010u7.frozen? ⟨c, 4, none⟩ = false := frozen_of_row Us1010u7 c 4 _ _ HR5.out
          have hS9 : (fun W' => W'.heap[kb]? = some (.cells #[.int .i64 p.kd, .int .i64 p.k.1, .int .i64 p.k.2, .int .i64 p.pa.1, .int .i64 p.pa.2, .int .i64 p.af.1, .int .i64 p.af.2, .string p.nm, .string p.vl] 42)) (Us1010u7.setCell ⟨c, 4, none⟩ (.slice a5 (setA p.nm p.vl (g.o c).at_).length c5)) := (RowKit.Below.heap_setCell _ _ _ _ HkC.out).trans HK5.out
          go_simp
          refine hK.out _ _ (hS9) (fun hHeld2 => ?_)
          clear hK K hHeld
          have hHeld := hHeld2
          clear hHeld2
          (try simp only [Act.put, List.setIfInBounds_toArray, List.set_cons_zero, List.set_cons_succ])
          clear u5 z5 hS9
          refine wpAnyH_done (by kernel_rfl) ?_ _
          clear hHeld
          go_wp2
          (try rw [Exit.noGoto_ret])
          go_ret
          refine ⟨?_, HB2.out⟩
          have e1 : (stepF p (g.o c)).1 = 0 := (by unfold stepF; rw [if_neg (by rw [HKd.out]; decide), if_neg (by rw [HKd.out]; decide), if_pos HKd.out, if_neg (fun e => Hfull.out e.2)])
          have e2 : (stepF p (g.o c)).2 = { g.o c with at_ := setA p.nm p.vl (g.o c).at_ } := (by unfold stepF; rw [if_neg (by rw [HKd.out]; decide), if_neg (by rw [HKd.out]; decide), if_pos HKd.out, if_neg (fun e => Hfull.out e.2)])
          rw [HSt0.out, e1, if_neg (by decide)]
          refine StpP.ok ⟨HO.out.1, ?_⟩
          have h9 := HPp.out.with_ (n := c) (k := p.k) (F := fun f => (stepF p f).2) HC.out HCk.out (stepF_k p) (updF g.av c (.slice a5 (setA p.nm p.vl (g.o c).at_).length c5))
          (try dsimp only at h9)
          rw [e2] at h9
          simp only [withL] at h9 ⊢
          exact h9
    | true =>
      obtain ⟨hi, hnm⟩ := of_decide_eq_true HBv.out.symm
      have hset := setA_set (vl := p.vl) HPl.out HSr.out hi hnm
      have Hset := hide9 hset
      have Hi : Hid (∃ h : i < (g.o c).at_.length, (g.o c).at_[i].1 = p.nm) := ⟨hi, hnm⟩
      obtain ⟨gb, cap, ev, hcap, hcs, hz⟩ := OwnE.cells atCells_len (HP.out.at_ c HC.out.1) hi
      have Hev := hide9 ev
      have k0 : (0 : Int) ≤ (i : Int) := by omega
      have k1 : (i : Int) < ((g.o c).at_.length : Int) := by omega
      have hkc : gb ≠ c := fun e => (HP.out.aT HC.out.1 (by rw [ev]; rfl)).1 (e ▸ HC.out.1)
      have hkb : kb ≠ gb := fun e => HP.out.noKb HK.out HC.out.1 (by rw [ev, e]; rfl)
      have HN := hide9 (And.intro hkc hkb)
      clear hset hi hnm hcap hcs hz ev hkc hkb
      go_upto_region 6 with fail
      refine wp_region_held_drew (S := fun W' => W'.cell? ⟨c, 4, none⟩ = some (.slice (some ⟨gb, 0, none⟩) (g.o c).at_.length cap) ∧ W'.heap[kb]? = some (.cells #[.int .i64 p.kd, .int .i64 p.k.1, .int .i64 p.k.2, .int .i64 p.pa.1, .int .i64 p.pa.2, .int .i64 p.af.1, .int .i64 p.af.2, .string p.nm, .string p.vl] 42)) (by kernel_rfl) ⟨(by rw [cell_of_row w4.drew c 4 _ _ _ (HP.out.drew.mem c HC.out.1), ← Hev.out]; rfl), HK.out⟩ (fun hHeld => ?_)
      obtain ⟨Us69u0, eW⟩ : ∃ X, X = w4.drew := ⟨_, rfl⟩
      have hb : Below w4.heap.size w4 Us69u0 := by rw [eW]; exact (Below.refl _ _).drew
      replace HB : Hid (BelT B w Us69u0) := HB.out.trans (BelT.of hb HP.out.le)
      replace HP : Hid (PwM B wb bm bh (some top) X g D Us69u0) := HP.out.below hb
      replace HK : Hid (Us69u0.heap[kb]? = some (.cells #[.int .i64 p.kd, .int .i64 p.k.1, .int .i64 p.k.2, .int .i64 p.pa.1, .int .i64 p.pa.2, .int .i64 p.af.1, .int .i64 p.af.2, .string p.nm, .string p.vl] 42)) := (hb.block _ (row_lt HK.out)).trans HK.out
      rw [← eW] at hHeld ⊢
      clear eW hb
      refine tkW 0 (some 25) (v := ?_) ?_ hHeld ?_
      rotate_left
      · (intro ww _; go_simp; try with_reducible rfl)
      refine tkW 1 (some 26) (v := ?_) ?_ hHeld ?_
      rotate_left
      · (intro ww hSw; (try dsimp only at hSw); obtain ⟨c4, hK⟩ := hSw; have b8 : ww.cell? ⟨kb, 8, none⟩ = some (.string p.vl) := (by rw [cell_of_row ww kb 8 _ _ _ hK]; rfl); go_simp; try with_reducible rfl)
      refine tkW 2 (some 27) (v := ?_) ?_ hHeld ?_
      rotate_left
      · (intro ww _; go_simp; try with_reducible rfl)
      refine tkW 3 (some 28) (v := ?_) ?_ hHeld ?_
      rotate_left
      · (intro ww _; go_simp; try with_reducible rfl)
      refine tkW 4 (some 29) (v := ?_) ?_ hHeld ?_
      rotate_left
      · (intro ww hSw; (try dsimp only at hSw); obtain ⟨c4, hK⟩ := hSw; have b8 : ww.cell? ⟨kb, 8, none⟩ = some (.string p.vl) := (by rw [cell_of_row ww kb 8 _ _ _ hK]; rfl); go_simp; try with_reducible rfl)
      refine tkW 5 (some 30) (v := ?_) ?_ hHeld ?_
      rotate_left
      · (intro ww _; go_simp; try with_reducible rfl)
      refine tkW 6 (some 31) (v := ?_) ?_ hHeld ?_
      rotate_left
      · (intro ww _; go_simp; try with_reducible rfl)
      refine tkW 7 (some 32) (v := ?_) ?_ hHeld ?_
      rotate_left
      · (intro ww hSw; (try dsimp only at hSw); obtain ⟨c4, hK⟩ := hSw; have b8 : ww.cell? ⟨kb, 8, none⟩ = some (.string p.vl) := (by rw [cell_of_row ww kb 8 _ _ _ hK]; rfl); go_simp; try with_reducible rfl)
      refine tkW 8 (some 33) (v := ?_) ?_ hHeld ?_
      rotate_left
      · (intro ww hSw; (try dsimp only at hSw); obtain ⟨c4, hK⟩ := hSw; have b8 : ww.cell? ⟨kb, 8, none⟩ = some (.string p.vl) := (by rw [cell_of_row ww kb 8 _ _ _ hK]; rfl); go_simp; try with_reducible rfl)
      refine tkW 9 (some 34) (v := ?_) ?_ hHeld ?_
      rotate_left
      · (intro ww _; go_simp; try with_reducible rfl)
      refine wpAnyH_ready (rs := [10]) (by kernel_rfl) (by simp) ?_
      refine AllReadyH.cons (o := ⟨none, _, _, _, _, _⟩) rfl (fun K hK => ?_) AllReadyH.nil
      obtain ⟨g9, cp9, ev9, _, hc9, hz9⟩ := OwnE.cells atCells_len (HP.out.at_ c HC.out.1) Hi.out.1
      rw [Hev.out] at ev9
      injection ev9 with e9 e8 e7
      injection e9 with e9
      injection e9 with e9
      subst e9
      have pc := hc9 1 _ rfl
      have zc := hz9 (i * 2 + 1)
      have hM := HP.out.setV HC.out.1 Hi.out Hev.out p.vl
      have HM := hide9 hM
      have hS9 : (fun W' => W'.cell? ⟨c, 4, none⟩ = some (.slice (some ⟨gb, 0, none⟩) (g.o c).at_.length cap) ∧ W'.heap[kb]? = some (.cells #[.int .i64 p.kd, .int .i64 p.k.1, .int .i64 p.k.2, .int .i64 p.pa.1, .int .i64 p.pa.2, .int .i64 p.af.1, .int .i64 p.af.2, .string p.nm, .string p.vl] 42)) (Us69u0.setCell ⟨gb, i * 2 + 1, none⟩ (.string p.vl)) := ⟨(show (Us69u0.setCell ⟨gb, i * 2 + 1, none⟩ (.string p.vl)).cell? ⟨c, 4, none⟩ = Us69u0.cell? ⟨c, 4, none⟩ from World.cell?_of_block (RowKit.Below.heap_setCell _ _ _ _ (fun (e : c = gb) => HN.out.1 e.symm))).trans (by rw [cell_of_row Us69u0 c 4 _ _ _ (HP.out.mem c HC.out.1), ← Hev.out]; rfl), (RowKit.Below.heap_setCell _ _ _ _ HN.out.2).trans HK.out⟩
      clear hM hc9 hz9 e8 e7
      go_simp
      refine hK.out _ _ (hS9) (fun hHeld2 => ?_)
      clear hK K hHeld
      have hHeld := hHeld2
      clear hHeld2
      (try simp only [Act.put, List.setIfInBounds_toArray, List.set_cons_zero, List.set_cons_succ])
      clear pc zc hS9
      refine wpAnyH_done (by kernel_rfl) ?_ _
      clear hHeld
      go_wp2
      (try rw [Exit.noGoto_ret])
      go_ret
      refine ⟨?_, HB.out.trans HM.out.2⟩
      have e1 : (stepF p (g.o c)).1 = 0 := (by unfold stepF; rw [if_neg (by rw [HKd.out]; decide), if_neg (by rw [HKd.out]; decide), if_pos HKd.out, if_neg (fun e => by rw [HHas.out] at e; cases e.1)])
      have e2 : (stepF p (g.o c)).2 = { g.o c with at_ := (g.o c).at_.set i (p.nm, p.vl) } := (by unfold stepF; rw [if_neg (by rw [HKd.out]; decide), if_neg (by rw [HKd.out]; decide), if_pos HKd.out, if_neg (fun e => by rw [HHas.out] at e; cases e.1), Hset.out])
      rw [HSt0.out, e1, if_neg (by decide)]
      refine StpP.ok ⟨HM.out.1, ?_⟩
      have h9 := HPp.out.with_ (n := c) (k := p.k) (F := fun f => (stepF p f).2) HC.out HCk.out (stepF_k p) g.av
      (try dsimp only at h9)
      rw [e2] at h9
      simp only [withL] at h9 ⊢
      exact h9

end Go.Proofs.Ytccpljllgpabnab

namespace Go.Proofs.Ytccpljllgpabnab
open Go.RowKit
set_option linter.unusedVariables false

theorem apply_all (G G2 : Nat → Prop) (t : VT) (v lv : Value) (L : List Pa) (w : World) (hv : VIs G w v t) (hl : LsE paCells 9 G2 w lv L) (hsz : t.sz ≤ 1048576) (hbn : BnA t) (hnm : ∀ p ∈ L, p.nm.size ≤ 281474976710656) :
    Calls Try.prog 6 #[v, lv] w fun e w' => ApP t L w e w' :=
  apply_any G G2 t v lv L w hv hl hsz hbn hnm fun p _ _ => ⟨fun e B wb bm bh top X g D T H w hm hp ho => setAttr_s p w hm hp ho e, fun e B wb bm bh top X g D T H w hm hp ho => clearAttr_s p w hm hp ho e⟩

end Go.Proofs.Ytccpljllgpabnab
