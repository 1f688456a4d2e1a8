/- awake. -/
import Derived.Test.YtccpljllgpabnaaPaN
namespace Go.Proofs.Ytccpljllgpabnaa
open Go.RowKit
set_option linter.unusedVariables false
set_option linter.unusedSimpArgs false

def pMk : Pa := ⟨3, (1, 0), (0, 0), (0, 0), ⟨#[112]⟩, ⟨#[]⟩⟩
def pPt : Pa := ⟨4, (1, 0), (0, 0), (0, 0), ⟨#[]⟩, ⟨#[]⟩⟩
def pZe : Pa := ⟨0, (0, 0), (0, 0), (0, 0), ⟨#[]⟩, ⟨#[]⟩⟩
def tRt : VT := .node (0, 0) ⟨#[114, 111, 111, 116]⟩ ⟨#[]⟩ [] []
def tKd : VT := .node (1, 0) ⟨#[112]⟩ ⟨#[]⟩ [] []
def tAw : VT := .node (0, 0) ⟨#[114, 111, 111, 116]⟩ ⟨#[]⟩ [] [tKd]
theorem app_awake : appR tRt [pMk, pPt] = (tAw, 2, 0) := by kernel_rfl
theorem chk_zero : chkP pZe = 1 := by decide +kernel
theorem bnRt : BnA tRt := fun x hx => by
  simp [tRt, flatD, flatDs] at hx
  subst hx
  exact ⟨by decide, fun y hy => by simp [VT.at_] at hy⟩
structure AwS (w : World) (tb : Nat) (aa : Option Addr) (ca b2 o2 ck : Nat) (W : World) : Prop where
  tr : W.heap[tb]? = some (.cells #[.int .i64 0, .int .i64 0, .string ⟨#[114, 111, 111, 116]⟩, .string ⟨#[]⟩, .slice aa 0 ca, .slice (some ⟨b2, o2, none⟩) 1 ck] 33)
  st : W.heap[w.heap.size]? = some (.cells #[.int .i64 1, .int .i64 0] 23)
  k0 : W.cell? ⟨b2, o2, none⟩ = some (.int .i64 1)
  k1 : W.cell? ⟨b2, o2 + 1, none⟩ = some (.int .i64 0)
  k2 : W.cell? ⟨b2, o2 + 2, none⟩ = some (.string ⟨#[112]⟩)
  lt : b2 < W.heap.size
  bel : Below w.heap.size w W
theorem AwS.below {w : World} {tb : Nat} {aa : Option Addr} {ca b2 o2 ck : Nat} {W W' : World} (h : AwS w tb aa ca b2 o2 ck W) (hb : Below W.heap.size W W') : AwS w tb aa ca b2 o2 ck W' := ⟨(hb.block _ (row_lt h.tr)).trans h.tr, (hb.block _ (row_lt h.st)).trans h.st, (hb.cell (p := ⟨b2, o2, none⟩) h.lt).trans h.k0, (hb.cell (p := ⟨b2, o2 + 1, none⟩) h.lt).trans h.k1, (hb.cell (p := ⟨b2, o2 + 2, none⟩) h.lt).trans h.k2, Nat.lt_of_lt_of_le h.lt hb.size, h.bel.trans (hb.mono h.bel.size)⟩
theorem two_patches (w : World) : LsE paCells 9 (fun _ => True) ((w.alloc (.cells #[.int .i64 1, .int .i64 0] 23)).alloc (.cells #[.int .i64 3, .int .i64 1, .int .i64 0, .int .i64 0, .int .i64 0, .int .i64 0, .int .i64 0, .string ⟨#[112]⟩, .string ⟨#[]⟩, .int .i64 4, .int .i64 1, .int .i64 0, .int .i64 0, .int .i64 0, .int .i64 0, .int .i64 0, .string ⟨#[]⟩, .string ⟨#[]⟩] 25)) (.slice (some ⟨w.heap.size + 1, 0, none⟩) 2 2) [pMk, pPt] := by
  have h9 : ((w.alloc (.cells #[.int .i64 1, .int .i64 0] 23)).alloc (.cells #[.int .i64 3, .int .i64 1, .int .i64 0, .int .i64 0, .int .i64 0, .int .i64 0, .int .i64 0, .string ⟨#[112]⟩, .string ⟨#[]⟩, .int .i64 4, .int .i64 1, .int .i64 0, .int .i64 0, .int .i64 0, .int .i64 0, .int .i64 0, .string ⟨#[]⟩, .string ⟨#[]⟩] 25)).heap[w.heap.size + 1]? = some (.cells #[.int .i64 3, .int .i64 1, .int .i64 0, .int .i64 0, .int .i64 0, .int .i64 0, .int .i64 0, .string ⟨#[112]⟩, .string ⟨#[]⟩, .int .i64 4, .int .i64 1, .int .i64 0, .int .i64 0, .int .i64 0, .int .i64 0, .int .i64 0, .string ⟨#[]⟩, .string ⟨#[]⟩] 25) := by
    have h8 := heap_alloc_new (w.alloc (.cells #[.int .i64 1, .int .i64 0] 23)) (.cells #[.int .i64 3, .int .i64 1, .int .i64 0, .int .i64 0, .int .i64 0, .int .i64 0, .int .i64 0, .string ⟨#[112]⟩, .string ⟨#[]⟩, .int .i64 4, .int .i64 1, .int .i64 0, .int .i64 0, .int .i64 0, .int .i64 0, .int .i64 0, .string ⟨#[]⟩, .string ⟨#[]⟩] 25)
    rw [show (w.alloc (.cells #[.int .i64 1, .int .i64 0] 23)).heap.size = w.heap.size + 1 by simp] at h8
    exact h8
  refine ⟨_, 2, rfl, Nat.le_refl _, by simp, .inr ⟨_, 0, rfl, trivial, row_lt h9, fun i hi j u hj => ?_⟩⟩
  have hi2 : i < 2 := hi
  have hj9 : j < 9 := by
    have := (List.getElem?_eq_some_iff.1 hj).1
    rwa [paCells_len] at this
  rw [cell_of_row _ _ _ _ _ _ h9]
  rcases (by omega : i = 0 ∨ i = 1) with rfl | rfl
  · rcases (by omega : j = 0 ∨ j = 1 ∨ j = 2 ∨ j = 3 ∨ j = 4 ∨ j = 5 ∨ j = 6 ∨ j = 7 ∨ j = 8) with rfl | rfl | rfl | rfl | rfl | rfl | rfl | rfl | rfl <;> exact hj
  · rcases (by omega : j = 0 ∨ j = 1 ∨ j = 2 ∨ j = 3 ∨ j = 4 ∨ j = 5 ∨ j = 6 ∨ j = 7 ∨ j = 8) with rfl | rfl | rfl | rfl | rfl | rfl | rfl | rfl | rfl <;> exact hj

set_option maxRecDepth 100000 in
set_option maxHeartbeats 4000000 in
theorem awake_pa (w : World) : Calls Try.prog 10 #[] w fun e w' => e = .returned (.bool true) ∧ Below w.heap.size w w' := by
  have hb2 : Below w.heap.size w ((w.alloc (.cells #[.int .i64 1, .int .i64 0] 23)).alloc (.cells #[.int .i64 3, .int .i64 1, .int .i64 0, .int .i64 0, .int .i64 0, .int .i64 0, .int .i64 0, .string ⟨#[112]⟩, .string ⟨#[]⟩, .int .i64 4, .int .i64 1, .int .i64 0, .int .i64 0, .int .i64 0, .int .i64 0, .int .i64 0, .string ⟨#[]⟩, .string ⟨#[]⟩] 25)) := ((Below.refl _ _).alloc (Nat.le_refl _) _).alloc (by simp) _
  have hst : ((w.alloc (.cells #[.int .i64 1, .int .i64 0] 23)).alloc (.cells #[.int .i64 3, .int .i64 1, .int .i64 0, .int .i64 0, .int .i64 0, .int .i64 0, .int .i64 0, .string ⟨#[112]⟩, .string ⟨#[]⟩, .int .i64 4, .int .i64 1, .int .i64 0, .int .i64 0, .int .i64 0, .int .i64 0, .int .i64 0, .string ⟨#[]⟩, .string ⟨#[]⟩] 25)).heap[w.heap.size]? = some (.cells #[.int .i64 1, .int .i64 0] 23) := (Below.heap_alloc _ _ _ (by simp)).trans (heap_alloc_new w _)
  have hl := two_patches w
  obtain ⟨W2, eW2⟩ : ∃ X, X = ((w.alloc (.cells #[.int .i64 1, .int .i64 0] 23)).alloc (.cells #[.int .i64 3, .int .i64 1, .int .i64 0, .int .i64 0, .int .i64 0, .int .i64 0, .int .i64 0, .string ⟨#[112]⟩, .string ⟨#[]⟩, .int .i64 4, .int .i64 1, .int .i64 0, .int .i64 0, .int .i64 0, .int .i64 0, .int .i64 0, .string ⟨#[]⟩, .string ⟨#[]⟩] 25)) := ⟨_, rfl⟩
  rw [← eW2] at hb2 hst hl
  have HB := hide9 hb2
  have HSt := hide9 hst
  have HL := hide9 hl
  have HE := hide9 eW2
  clear hb2 hst hl eW2
  have k0 : (w.alloc (.cells #[.int .i64 1, .int .i64 0] 23)).cell? ⟨w.heap.size, 0, none⟩ = some (.int .i64 1) := by rw [cell_of_row _ _ _ _ _ _ (heap_alloc_new w _)]; rfl
  have k1 : (w.alloc (.cells #[.int .i64 1, .int .i64 0] 23)).cell? ⟨w.heap.size, 1, none⟩ = some (.int .i64 0) := by rw [cell_of_row _ _ _ _ _ _ (heap_alloc_new w _)]; rfl
  go_enter Try.func10, Try.ntmps10
  go_wp2_with fail
  rw [← HE.out]
  clear HE k0 k1
  refine (apply_any (fun _ => False) (fun _ => True) tRt _ _ [pMk, pPt] W2 ⟨_, _, rfl, LsE.nil _ _ _, by simp [tRt, VT.at_], none, 0, rfl, Nat.le_refl _, by simp [tRt, VT.ks], .inl rfl⟩ HL.out (by decide +kernel) bnRt (fun p hp => ?nm) (fun p hp _ => ?sc)).mono ?_
  case nm => simp only [List.mem_cons, List.not_mem_nil, or_false] at hp; rcases hp with rfl | rfl <;> decide
  case sc => simp only [List.mem_cons, List.not_mem_nil, or_false] at hp; rcases hp with rfl | rfl <;> exact ⟨fun e => absurd e (by decide), fun e => absurd e (by decide)⟩
  rintro e w3 ⟨v, rfl, hv, hb⟩
  rw [app_awake] at hv ⊢
  obtain ⟨aa, ca, ak, ck, e1, fd⟩ := hv.form
  subst e1
  obtain ⟨b2, o2, e2, _, hlt, hk⟩ := fd.ks.kid (i := 0) (by decide)
  subst e2
  obtain ⟨xa, cx, xk, dx, q0, q1, q2, _, _, _, _⟩ := hk.cells
  have HB3 : Hid (Below w.heap.size w w3) := HB.out.trans (hb.mono HB.out.size)
  have HS3 : Hid (w3.heap[w.heap.size]? = some (.cells #[.int .i64 1, .int .i64 0] 23)) := (hb.block _ (row_lt HSt.out)).trans HSt.out
  have HQ : Hid (w3.cell? ⟨b2, o2, none⟩ = some (.int .i64 1) ∧ w3.cell? ⟨b2, o2 + 1, none⟩ = some (.int .i64 0) ∧ w3.cell? ⟨b2, o2 + 2, none⟩ = some (.string ⟨#[112]⟩) ∧ b2 < w3.heap.size) := ⟨q0, q1, q2, hlt⟩
  clear hv hb fd hk q0 q1 q2 hlt HB HSt HL
  have hz : (w3.alloc (.cells #[.int .i64 0, .int .i64 0, .string ⟨#[]⟩, .string ⟨#[]⟩, .slice none 0 0, .slice none 0 0] 33)).heap[w3.heap.size]? = some (.cells #[.int .i64 0, .int .i64 0, .string ⟨#[]⟩, .string ⟨#[]⟩, .slice none 0 0, .slice none 0 0] 33) := heap_alloc_new _ _
  have Hz := hide9 hz
  obtain ⟨W5, eW5⟩ : ∃ X, X = (w3.alloc (.cells #[.int .i64 0, .int .i64 0, .string ⟨#[]⟩, .string ⟨#[]⟩, .slice none 0 0, .slice none 0 0] 33)).setRow w3.heap.size #[.int .i64 0, .int .i64 0, .string ⟨#[114, 111, 111, 116]⟩, .string ⟨#[]⟩, .slice aa 0 ca, .slice (some ⟨b2, o2, none⟩) 1 ck] := ⟨_, rfl⟩
  have hb5 : Below w3.heap.size w3 W5 := (by rw [eW5]; exact ((Below.refl _ _).alloc (Nat.le_refl _) _).grown (grown_setRow _ _ _) (by simp) (fun k e => by cases e; exact Nat.le_refl _))
  obtain ⟨tb, etb⟩ : ∃ n, n = w3.heap.size := ⟨_, rfl⟩
  have HP : Hid (AwS w tb aa ca b2 o2 ck W5) := hide9 ⟨by rw [eW5, etb]; exact setRow_same hz, (hb5.block _ (row_lt HS3.out)).trans HS3.out, (hb5.cell (p := ⟨b2, o2, none⟩) HQ.out.2.2.2).trans HQ.out.1, (hb5.cell (p := ⟨b2, o2 + 1, none⟩) HQ.out.2.2.2).trans HQ.out.2.1, (hb5.cell (p := ⟨b2, o2 + 2, none⟩) HQ.out.2.2.2).trans HQ.out.2.2.1, Nat.lt_of_lt_of_le HQ.out.2.2.2 hb5.size, HB3.out.trans (hb5.mono HB3.out.size)⟩
  have HE5 := hide9 (And.intro eW5 etb)
  clear hz hb5 eW5 etb HQ HB3 HS3
  try simp only [tAw, VT.k, VT.tg, VT.tx, VT.at_, VT.ks, List.length_nil, List.length_cons]
  go_upto_region 3 with (refine wpList_store_row rfl 33 (.tmp 2) (.tmp 14) rfl w3.heap.size 33 #[.int .i64 0, .int .i64 0, .string ⟨#[]⟩, .string ⟨#[]⟩, .slice none 0 0, .slice none 0 0] #[.int .i64 0, .int .i64 0, .string ⟨#[114, 111, 111, 116]⟩, .string ⟨#[]⟩, .slice aa 0 ca, .slice (some ⟨b2, o2, none⟩) 1 ck] rfl rfl Hz.out sizeVN rfl (by simp [Value.oneCell']) ?_)
  rw [← HE5.out.1, ← HE5.out.2]
  clear HE5 Hz
  refine wp_region_held_drew (S := fun W' => AwS w tb aa ca b2 o2 ck W') (by kernel_rfl) (HP.out.below (Below.refl _ _).drew) (fun hHeld => ?_)
  obtain ⟨Uw1u0, eW⟩ : ∃ X, X = W5.drew := ⟨_, rfl⟩
  have hb : Below W5.heap.size W5 Uw1u0 := by rw [eW]; exact (Below.refl _ _).drew
  replace HP : Hid (AwS w tb aa ca b2 o2 ck Uw1u0) := HP.out.below hb
  rw [← eW] at hHeld ⊢
  clear eW hb
  refine tkW 0 (some 17) (v := ?_) ?_ hHeld ?_
  rotate_left
  · (intro ww _; go_simp; try with_reducible rfl)
  refine tkW 1 (some 18) (v := ?_) ?_ hHeld ?_
  rotate_left
  · (intro ww hSw; (try dsimp only at hSw); obtain ⟨r0, r1, r2, r3, r4, r5⟩ := row6 hSw.tr; have s0 : ww.cell? ⟨w.heap.size, 0, none⟩ = some (.int .i64 1) := (by rw [cell_of_row _ _ _ _ _ _ hSw.st]; rfl); have s1 : ww.cell? ⟨w.heap.size, 1, none⟩ = some (.int .i64 0) := (by rw [cell_of_row _ _ _ _ _ _ hSw.st]; rfl); have k0 := hSw.k0; have k1 := hSw.k1; have k2 := hSw.k2; have heq := eqlSt 1 0 1 0 ww; go_simp; try with_reducible rfl)
  refine tkW 2 (some 19) (v := ?_) ?_ hHeld ?_
  rotate_left
  · (intro ww _; go_simp; try with_reducible rfl)
  refine tkW 3 (some 20) (v := ?_) ?_ hHeld ?_
  rotate_left
  · (intro ww _; go_simp; try with_reducible rfl)
  refine tkW 4 (some 21) (v := ?_) ?_ hHeld ?_
  rotate_left
  · (intro ww hSw; (try dsimp only at hSw); obtain ⟨r0, r1, r2, r3, r4, r5⟩ := row6 hSw.tr; have s0 : ww.cell? ⟨w.heap.size, 0, none⟩ = some (.int .i64 1) := (by rw [cell_of_row _ _ _ _ _ _ hSw.st]; rfl); have s1 : ww.cell? ⟨w.heap.size, 1, none⟩ = some (.int .i64 0) := (by rw [cell_of_row _ _ _ _ _ _ hSw.st]; rfl); have k0 := hSw.k0; have k1 := hSw.k1; have k2 := hSw.k2; have heq := eqlSt 1 0 1 0 ww; go_simp; try with_reducible rfl)
  refine tkW 5 (some 22) (v := ?_) ?_ hHeld ?_
  rotate_left
  · (intro ww _; go_simp; try with_reducible rfl)
  refine tkW 6 (some 23) (v := ?_) ?_ hHeld ?_
  rotate_left
  · (intro ww _; go_simp; try with_reducible rfl)
  refine tkW 7 (some 24) (v := ?_) ?_ hHeld ?_
  rotate_left
  · (intro ww _; go_simp; try with_reducible rfl)
  refine tkW 8 (some 25) (v := ?_) ?_ hHeld ?_
  rotate_left
  · (intro ww hSw; (try dsimp only at hSw); obtain ⟨r0, r1, r2, r3, r4, r5⟩ := row6 hSw.tr; have s0 : ww.cell? ⟨w.heap.size, 0, none⟩ = some (.int .i64 1) := (by rw [cell_of_row _ _ _ _ _ _ hSw.st]; rfl); have s1 : ww.cell? ⟨w.heap.size, 1, none⟩ = some (.int .i64 0) := (by rw [cell_of_row _ _ _ _ _ _ hSw.st]; rfl); have k0 := hSw.k0; have k1 := hSw.k1; have k2 := hSw.k2; have heq := eqlSt 1 0 1 0 ww; go_simp; try with_reducible rfl)
  refine tkW 9 (some 26) (v := ?_) ?_ hHeld ?_
  rotate_left
  · (intro ww hSw; (try dsimp only at hSw); obtain ⟨r0, r1, r2, r3, r4, r5⟩ := row6 hSw.tr; have s0 : ww.cell? ⟨w.heap.size, 0, none⟩ = some (.int .i64 1) := (by rw [cell_of_row _ _ _ _ _ _ hSw.st]; rfl); have s1 : ww.cell? ⟨w.heap.size, 1, none⟩ = some (.int .i64 0) := (by rw [cell_of_row _ _ _ _ _ _ hSw.st]; rfl); have k0 := hSw.k0; have k1 := hSw.k1; have k2 := hSw.k2; have heq := eqlSt 1 0 1 0 ww; go_simp; try with_reducible rfl)
  refine tkW 10 (some 27) (v := ?_) ?_ hHeld ?_
  rotate_left
  · (intro ww hSw; (try dsimp only at hSw); obtain ⟨r0, r1, r2, r3, r4, r5⟩ := row6 hSw.tr; have s0 : ww.cell? ⟨w.heap.size, 0, none⟩ = some (.int .i64 1) := (by rw [cell_of_row _ _ _ _ _ _ hSw.st]; rfl); have s1 : ww.cell? ⟨w.heap.size, 1, none⟩ = some (.int .i64 0) := (by rw [cell_of_row _ _ _ _ _ _ hSw.st]; rfl); have k0 := hSw.k0; have k1 := hSw.k1; have k2 := hSw.k2; have heq := eqlSt 1 0 1 0 ww; go_simp; try with_reducible rfl)
  refine tkW 11 (some 28) (v := ?_) ?_ hHeld ?_
  rotate_left
  · (intro ww _; go_simp; try with_reducible rfl)
  refine tkW 12 (some 29) (v := ?_) ?_ hHeld ?_
  rotate_left
  · (intro ww _; go_simp; try with_reducible rfl)
  refine tkW 13 (some 30) (v := ?_) ?_ hHeld ?_
  rotate_left
  · (intro ww _; go_simp; try with_reducible rfl)
  refine tkW 14 (some 31) (v := ?_) ?_ hHeld ?_
  rotate_left
  · (intro ww hSw; (try dsimp only at hSw); obtain ⟨r0, r1, r2, r3, r4, r5⟩ := row6 hSw.tr; have s0 : ww.cell? ⟨w.heap.size, 0, none⟩ = some (.int .i64 1) := (by rw [cell_of_row _ _ _ _ _ _ hSw.st]; rfl); have s1 : ww.cell? ⟨w.heap.size, 1, none⟩ = some (.int .i64 0) := (by rw [cell_of_row _ _ _ _ _ _ hSw.st]; rfl); have k0 := hSw.k0; have k1 := hSw.k1; have k2 := hSw.k2; have heq := eqlSt 1 0 1 0 ww; go_simp; try with_reducible rfl)
  refine tkW 15 (some 32) (v := ?_) ?_ hHeld ?_
  rotate_left
  · (intro ww hSw; (try dsimp only at hSw); obtain ⟨r0, r1, r2, r3, r4, r5⟩ := row6 hSw.tr; have s0 : ww.cell? ⟨w.heap.size, 0, none⟩ = some (.int .i64 1) := (by rw [cell_of_row _ _ _ _ _ _ hSw.st]; rfl); have s1 : ww.cell? ⟨w.heap.size, 1, none⟩ = some (.int .i64 0) := (by rw [cell_of_row _ _ _ _ _ _ hSw.st]; rfl); have k0 := hSw.k0; have k1 := hSw.k1; have k2 := hSw.k2; have heq := eqlSt 1 0 1 0 ww; go_simp; try with_reducible rfl)
  refine tkW 16 (some 33) (v := ?_) ?_ hHeld ?_
  rotate_left
  · (intro ww _; go_simp; try with_reducible rfl)
  refine tkW 17 (some 34) (v := ?_) ?_ hHeld ?_
  rotate_left
  · (intro ww hSw; (try dsimp only at hSw); obtain ⟨r0, r1, r2, r3, r4, r5⟩ := row6 hSw.tr; have s0 : ww.cell? ⟨w.heap.size, 0, none⟩ = some (.int .i64 1) := (by rw [cell_of_row _ _ _ _ _ _ hSw.st]; rfl); have s1 : ww.cell? ⟨w.heap.size, 1, none⟩ = some (.int .i64 0) := (by rw [cell_of_row _ _ _ _ _ _ hSw.st]; rfl); have k0 := hSw.k0; have k1 := hSw.k1; have k2 := hSw.k2; have heq := eqlSt 1 0 1 0 ww; go_simp; try with_reducible rfl)
  refine tkW 18 (some 35) (v := ?_) ?_ hHeld ?_
  rotate_left
  · (intro ww hSw; (try dsimp only at hSw); obtain ⟨r0, r1, r2, r3, r4, r5⟩ := row6 hSw.tr; have s0 : ww.cell? ⟨w.heap.size, 0, none⟩ = some (.int .i64 1) := (by rw [cell_of_row _ _ _ _ _ _ hSw.st]; rfl); have s1 : ww.cell? ⟨w.heap.size, 1, none⟩ = some (.int .i64 0) := (by rw [cell_of_row _ _ _ _ _ _ hSw.st]; rfl); have k0 := hSw.k0; have k1 := hSw.k1; have k2 := hSw.k2; have heq := eqlSt 1 0 1 0 ww; go_simp; try with_reducible rfl)
  refine tkW 19 (some 36) (v := ?_) ?_ hHeld ?_
  rotate_left
  · (intro ww hSw; (try dsimp only at hSw); obtain ⟨r0, r1, r2, r3, r4, r5⟩ := row6 hSw.tr; have s0 : ww.cell? ⟨w.heap.size, 0, none⟩ = some (.int .i64 1) := (by rw [cell_of_row _ _ _ _ _ _ hSw.st]; rfl); have s1 : ww.cell? ⟨w.heap.size, 1, none⟩ = some (.int .i64 0) := (by rw [cell_of_row _ _ _ _ _ _ hSw.st]; rfl); have k0 := hSw.k0; have k1 := hSw.k1; have k2 := hSw.k2; have heq := eqlSt 1 0 1 0 ww; go_simp; try with_reducible rfl)
  refine tkW 20 (some 37) (v := ?_) ?_ hHeld ?_
  rotate_left
  · (intro ww _; go_simp; try with_reducible rfl)
  refine tkW 21 (some 38) (v := ?_) ?_ hHeld ?_
  rotate_left
  · (intro ww _; go_simp; try with_reducible rfl)
  refine tkW 22 (some 39) (v := ?_) ?_ hHeld ?_
  rotate_left
  · (intro ww _; go_simp; try with_reducible rfl)
  refine tkW 23 (some 40) (v := ?_) ?_ hHeld ?_
  rotate_left
  · (intro ww hSw; (try dsimp only at hSw); obtain ⟨r0, r1, r2, r3, r4, r5⟩ := row6 hSw.tr; have s0 : ww.cell? ⟨w.heap.size, 0, none⟩ = some (.int .i64 1) := (by rw [cell_of_row _ _ _ _ _ _ hSw.st]; rfl); have s1 : ww.cell? ⟨w.heap.size, 1, none⟩ = some (.int .i64 0) := (by rw [cell_of_row _ _ _ _ _ _ hSw.st]; rfl); have k0 := hSw.k0; have k1 := hSw.k1; have k2 := hSw.k2; have heq := eqlSt 1 0 1 0 ww; go_simp; try with_reducible rfl)
  refine tkW 24 (some 41) (v := ?_) ?_ hHeld ?_
  rotate_left
  · (intro ww hSw; (try dsimp only at hSw); obtain ⟨r0, r1, r2, r3, r4, r5⟩ := row6 hSw.tr; have s0 : ww.cell? ⟨w.heap.size, 0, none⟩ = some (.int .i64 1) := (by rw [cell_of_row _ _ _ _ _ _ hSw.st]; rfl); have s1 : ww.cell? ⟨w.heap.size, 1, none⟩ = some (.int .i64 0) := (by rw [cell_of_row _ _ _ _ _ _ hSw.st]; rfl); have k0 := hSw.k0; have k1 := hSw.k1; have k2 := hSw.k2; have heq := eqlSt 1 0 1 0 ww; go_simp; try with_reducible rfl)
  refine tkW 25 (some 42) (v := ?_) ?_ hHeld ?_
  rotate_left
  · (intro ww _; go_simp; try with_reducible rfl)
  refine tkW 26 (some 43) (v := ?_) ?_ hHeld ?_
  rotate_left
  · (intro ww hSw; (try dsimp only at hSw); obtain ⟨r0, r1, r2, r3, r4, r5⟩ := row6 hSw.tr; have s0 : ww.cell? ⟨w.heap.size, 0, none⟩ = some (.int .i64 1) := (by rw [cell_of_row _ _ _ _ _ _ hSw.st]; rfl); have s1 : ww.cell? ⟨w.heap.size, 1, none⟩ = some (.int .i64 0) := (by rw [cell_of_row _ _ _ _ _ _ hSw.st]; rfl); have k0 := hSw.k0; have k1 := hSw.k1; have k2 := hSw.k2; have heq := eqlSt 1 0 1 0 ww; go_simp; try with_reducible rfl)
  refine tkW 27 (some 44) (v := ?_) ?_ hHeld ?_
  rotate_left
  · (intro ww hSw; (try dsimp only at hSw); obtain ⟨r0, r1, r2, r3, r4, r5⟩ := row6 hSw.tr; have s0 : ww.cell? ⟨w.heap.size, 0, none⟩ = some (.int .i64 1) := (by rw [cell_of_row _ _ _ _ _ _ hSw.st]; rfl); have s1 : ww.cell? ⟨w.heap.size, 1, none⟩ = some (.int .i64 0) := (by rw [cell_of_row _ _ _ _ _ _ hSw.st]; rfl); have k0 := hSw.k0; have k1 := hSw.k1; have k2 := hSw.k2; have heq := eqlSt 1 0 1 0 ww; go_simp; try with_reducible rfl)
  refine tkW 28 (some 45) (v := ?_) ?_ hHeld ?_
  rotate_left
  · (intro ww _; go_simp; try with_reducible rfl)
  refine tkW 29 (some 46) (v := ?_) ?_ hHeld ?_
  rotate_left
  · (intro ww _; go_simp; try with_reducible rfl)
  refine tkW 30 (some 47) (v := ?_) ?_ hHeld ?_
  rotate_left
  · (intro ww hSw; (try dsimp only at hSw); obtain ⟨r0, r1, r2, r3, r4, r5⟩ := row6 hSw.tr; have s0 : ww.cell? ⟨w.heap.size, 0, none⟩ = some (.int .i64 1) := (by rw [cell_of_row _ _ _ _ _ _ hSw.st]; rfl); have s1 : ww.cell? ⟨w.heap.size, 1, none⟩ = some (.int .i64 0) := (by rw [cell_of_row _ _ _ _ _ _ hSw.st]; rfl); have k0 := hSw.k0; have k1 := hSw.k1; have k2 := hSw.k2; have heq := eqlSt 1 0 1 0 ww; go_simp; try with_reducible rfl)
  refine wpAnyH_ready (rs := [31]) (by kernel_rfl) (by simp) ?_
  refine AllReadyH.cons (o := ⟨some 48, _, _, _, _, _⟩) rfl (fun K hK => ?_) AllReadyH.nil
  go_simp
  refine (checkP_any pZe _ (by decide)).mono ?_
  rintro e Uw1u1 ⟨rfl, hb⟩
  rw [chk_zero]
  (try go_wp2_with fail)
  refine hK.out _ _ (hHeld.below hb) (fun hHeld2 => ?_)
  clear hK K hHeld
  have hHeld := hHeld2
  clear hHeld2
  (try simp only [Act.put, List.setIfInBounds_toArray, List.set_cons_zero, List.set_cons_succ])
  replace HP : Hid (AwS w tb aa ca b2 o2 ck Uw1u1) := HP.out.below hb
  clear hb
  refine tkW 32 (some 49) (v := ?_) ?_ hHeld ?_
  rotate_left
  · (intro ww hSw; (try dsimp only at hSw); obtain ⟨r0, r1, r2, r3, r4, r5⟩ := row6 hSw.tr; have s0 : ww.cell? ⟨w.heap.size, 0, none⟩ = some (.int .i64 1) := (by rw [cell_of_row _ _ _ _ _ _ hSw.st]; rfl); have s1 : ww.cell? ⟨w.heap.size, 1, none⟩ = some (.int .i64 0) := (by rw [cell_of_row _ _ _ _ _ _ hSw.st]; rfl); have k0 := hSw.k0; have k1 := hSw.k1; have k2 := hSw.k2; have heq := eqlSt 1 0 1 0 ww; go_simp; try with_reducible rfl)
  refine tkW 33 (some 50) (v := ?_) ?_ hHeld ?_
  rotate_left
  · (intro ww _; go_simp; try with_reducible rfl)
  refine tkW 34 (some 0) (v := ?_) ?_ hHeld ?_
  rotate_left
  · (intro ww _; go_simp; try with_reducible rfl)
  refine wpAnyH_done (by kernel_rfl) ?_ _
  clear hHeld
  go_wp2
  go_ret
  exact ⟨rfl, HP.out.bel⟩

end Go.Proofs.Ytccpljllgpabnaa
