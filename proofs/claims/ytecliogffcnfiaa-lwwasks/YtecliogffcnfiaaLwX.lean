/- The document's Get and Attrs. -/
import Derived.Test.YtecliogffcnfiaaLwM
import Derived.Test.YtecliogffcnfiaaLwG
namespace Go.Proofs.Ytecliogffcnfiaa
open Go.RowKit
set_option linter.unusedVariables false
set_option linter.unusedSimpArgs false

theorem txt_inj {a b : ByteArray} (h : a.toList = b.toList) : a = b := of_decide_eq_true (by rw [← txt_eq]; simp [h])
theorem keyR_is {x : Rg} {k : Ky} (h : x.nd.1 = k.1.1 ∧ x.nd.2 = k.1.2) (h2 : x.nm = k.2) : keyR x = k := Prod.ext (Prod.ext h.1 h.2) h2
theorem get_at {R : List Rg} {i : Nat} {x : Rg} {k : Ky} (hx : R[i]? = some x) (hk : keyR x = k) (hn : ∀ y ∈ R.take i, keyR y ≠ k) : getR R k = some x := by
  obtain ⟨h, e⟩ := List.getElem?_eq_some_iff.1 hx
  unfold getR
  have h1 : R = R.take i ++ R.drop i := (List.take_append_drop i R).symm
  rw [h1, List.find?_append, List.find?_eq_none.2 (fun y hy => by simpa using hn y hy), List.drop_eq_getElem_cons h, e]
  simp [hk]
theorem no_next {R : List Rg} {i : Nat} {x : Rg} {k : Ky} (hx : R[i]? = some x) (hn : ∀ y ∈ R.take i, keyR y ≠ k) (hk : keyR x ≠ k) : ∀ y ∈ R.take (i + 1), keyR y ≠ k := by
  obtain ⟨h, e⟩ := List.getElem?_eq_some_iff.1 hx
  rw [List.take_succ_eq_append_getElem h, e]
  intro y hy
  rcases List.mem_append.1 hy with h1 | h1
  · exact hn y h1
  · rw [List.mem_singleton.1 h1]; exact hk

set_option maxRecDepth 100000 in
set_option maxHeartbeats 8000000 in
theorem refGet_any (G : Nat → Prop) (v : Value) (R : List Rg) (k : Ky) (w : World) (h : LsE rgCells 7 G w v R) :
    Calls Try.prog 6 #[v, .agg #[.int .i64 k.1.1, .int .i64 k.1.2], .string k.2] w fun e w' => e = .returned (.tuple #[rgV (atR R k), .bool (hasR R k)]) ∧ Below w.heap.size w w' := by
  obtain ⟨a1, c1, e1⟩ := h.form
  subst e1
  have hlen := h.len
  obtain ⟨W1, eW⟩ : ∃ X, X = (w.alloc (.cells (stCells k.1).toArray 24)).alloc (.cells [.int .i64 0, .int .i64 0, .string ⟨#[]⟩, .int .i64 0, .int .i64 0, .string ⟨#[]⟩, .bool false].toArray 26) := ⟨_, rfl⟩
  have HW : Hid (Below w.heap.size w W1) := by rw [eW]; exact ((Below.refl _ _).alloc (Nat.le_refl _) _).alloc (by simp) _
  have HX0 : Hid (BxC w.heap.size (stCells k.1) 24 W1 ∧ BxC (w.heap.size + 1) [.int .i64 0, .int .i64 0, .string ⟨#[]⟩, .int .i64 0, .int .i64 0, .string ⟨#[]⟩, .bool false] 26 W1) := by rw [eW]; exact BxC.new2 w _ _ _ _
  have HLs : Hid (LsE rgCells 7 G W1 (.slice a1 R.length c1) R) := h.below HW.out
  clear h
  go_enter Try.func6, Try.ntmps6
  go_wp2_with fail
  have eW2 := eW
  simp only [stCells] at eW2
  rw [← eW2]
  clear eW2 eW
  obtain ⟨bx, ebx⟩ : ∃ b, b = w.heap.size := ⟨_, rfl⟩
  obtain ⟨b6, eb6⟩ : ∃ b, b = w.heap.size + 1 := ⟨_, rfl⟩
  have HQ : Hid (BxC bx (stCells k.1) 24 W1) := by rw [ebx]; exact HX0.out.1
  have HZ6 : Hid (BxC b6 [.int .i64 0, .int .i64 0, .string ⟨#[]⟩, .int .i64 0, .int .i64 0, .string ⟨#[]⟩, .bool false] 26 W1) := by rw [eb6]; exact HX0.out.2
  have HG6 : Hid (w.heap.size ≤ b6) := by (show _ ≤ _; omega)
  rw [← eb6]
  rw [← ebx]
  clear HX0 ebx eb6
  go_loopw [8] (fun iv wr => ∃ i : Nat, iv = .int .i64 (i : Int) ∧ i ≤ R.length ∧ Hid (Below W1.heap.size W1 wr) ∧ Hid (∀ y ∈ R.take i, keyR y ≠ k)) (fun iv _ => R.length - (intOf iv).toNat)
  case atStart => exact ⟨0, rfl, Nat.zero_le _, Below.refl _ _, fun y hy => by simp at hy⟩
  case round =>
    obtain ⟨i, rfl, hil, HB, HNo⟩ := hrel
    by_cases hlt : i < R.length
    · obtain ⟨b, o, cap, ev, _, hbl, hrow⟩ := HLs.out.row7 (i := i) hlt
      injection ev with ev1 ev2 ev3
      subst ev1
      subst ev3
      obtain ⟨x, ex⟩ : ∃ x, x = R[i] := ⟨_, rfl⟩
      rw [← ex] at hrow
      have HxE : Hid (R[i]? = some x) := (by show _ = _; rw [ex]; exact List.getElem?_eq_getElem hlt)
      have HG : Hid (b < W1.heap.size) := hbl
      have HX0 : Hid (W1.cell? ⟨b, o + i * 7, none⟩ = some (.int .i64 x.nd.1)) := hrow 0 _ rfl
      have HX1 : Hid (W1.cell? ⟨b, o + i * 7 + 1, none⟩ = some (.int .i64 x.nd.2)) := hrow 1 _ rfl
      have HX2 : Hid (W1.cell? ⟨b, o + i * 7 + 2, none⟩ = some (.string x.nm)) := hrow 2 _ rfl
      have HX3 : Hid (W1.cell? ⟨b, o + i * 7 + 3, none⟩ = some (.int .i64 x.at_.1)) := hrow 3 _ rfl
      have HX4 : Hid (W1.cell? ⟨b, o + i * 7 + 4, none⟩ = some (.int .i64 x.at_.2)) := hrow 4 _ rfl
      have HX5 : Hid (W1.cell? ⟨b, o + i * 7 + 5, none⟩ = some (.string x.vl)) := hrow 5 _ rfl
      have HX6 : Hid (W1.cell? ⟨b, o + i * 7 + 6, none⟩ = some (.bool x.gn)) := hrow 6 _ rfl
      have k1 : (i : Int) < (R.length : Int) := by omega
      have k0 : (0 : Int) ≤ (i : Int) := by omega
      clear ex hrow hbl ev2
      by_cases hnd : x.nd.1 = k.1.1 ∧ x.nd.2 = k.1.2
      · have HN : Hid (x.nd.1 = k.1.1 ∧ x.nd.2 = k.1.2) := hnd
        by_cases hnm : x.nm = k.2
        · have HM : Hid (x.nm = k.2) := hnm
          clear hnd hnm
          go_wp2_with fail
          refine wp_region_held_drew (S := fun W' => Below W1.heap.size W1 W') (by kernel_rfl) HB.out.drew (fun hHeld => ?_)
          obtain ⟨Uf15u0, eW⟩ : ∃ X, X = wr.drew := ⟨_, rfl⟩
          have hb : Below wr.heap.size wr Uf15u0 := by rw [eW]; exact (Below.refl _ _).drew
          replace HB : Hid (Below W1.heap.size W1 Uf15u0) := HB.out.trans (hb.mono HB.out.size)
          rw [← eW] at hHeld ⊢
          clear eW hb
          refine tkW 0 (some 15) (v := ?_) ?_ hHeld ?_
          rotate_left
          · (intro ww _; go_simp; try with_reducible rfl)
          refine tkW 1 (some 16) (v := ?_) ?_ hHeld ?_
          rotate_left
          · (intro ww _; go_simp; try with_reducible rfl)
          refine tkW 2 (some 17) (v := ?_) ?_ hHeld ?_
          rotate_left
          · (intro ww hSw; (try dsimp only at hSw); go_simp; try with_reducible rfl)
          refine tkW 3 (some 18) (v := ?_) ?_ hHeld ?_
          rotate_left
          · (intro ww _; go_simp; try with_reducible rfl)
          refine tkW 4 (some 19) (v := ?_) ?_ hHeld ?_
          rotate_left
          · (intro ww hSw; (try dsimp only at hSw); have a0 : ww.cell? ⟨b, o + i * 7, none⟩ = some (.int .i64 x.nd.1) := (hSw.cell (p := ⟨b, o + i * 7, none⟩) HG.out).trans HX0.out; have a1 : ww.cell? ⟨b, o + i * 7 + 1, none⟩ = some (.int .i64 x.nd.2) := (hSw.cell (p := ⟨b, o + i * 7 + 1, none⟩) HG.out).trans HX1.out; go_simp; try with_reducible rfl)
          refine tkW 5 (some 20) (v := ?_) ?_ hHeld ?_
          rotate_left
          · (intro ww hSw; (try dsimp only at hSw); have q0 : ww.cell? ⟨bx, 0, none⟩ = some (.int .i64 k.1.1) := (hSw.cell (p := ⟨bx, 0, none⟩) HQ.out.lt).trans (HQ.out.cell 0 _ rfl); have q1 : ww.cell? ⟨bx, 1, none⟩ = some (.int .i64 k.1.2) := (hSw.cell (p := ⟨bx, 1, none⟩) HQ.out.lt).trans (HQ.out.cell 1 _ rfl); go_simp; try with_reducible rfl)
          refine tkW 6 (some 21) (v := .bool true) ?_ hHeld ?_
          · (intro ww hSw; (try dsimp only at hSw); have e1 := HN.out.1; have e2 := HN.out.2; go_simp; try simp [e1, e2])
          refine tkW 7 (some 22) (v := ?_) ?_ hHeld ?_
          rotate_left
          · (intro ww _; go_simp; try with_reducible rfl)
          refine tkW 8 (some 23) (v := ?_) ?_ hHeld ?_
          rotate_left
          · (intro ww _; go_simp; try with_reducible rfl)
          refine tkW 9 (some 24) (v := ?_) ?_ hHeld ?_
          rotate_left
          · (intro ww _; go_simp; try with_reducible rfl)
          refine tkW 10 (some 25) (v := ?_) ?_ hHeld ?_
          rotate_left
          · (intro ww hSw; (try dsimp only at hSw); go_simp; try with_reducible rfl)
          refine tkW 11 (some 26) (v := ?_) ?_ hHeld ?_
          rotate_left
          · (intro ww _; go_simp; try with_reducible rfl)
          refine tkW 12 (some 27) (v := ?_) ?_ hHeld ?_
          rotate_left
          · (intro ww hSw; (try dsimp only at hSw); have a2 : ww.cell? ⟨b, o + i * 7 + 2, none⟩ = some (.string x.nm) := (hSw.cell (p := ⟨b, o + i * 7 + 2, none⟩) HG.out).trans HX2.out; go_simp; try with_reducible rfl)
          refine tkW 13 (some 28) (v := ?_) ?_ hHeld ?_
          rotate_left
          · (intro ww _; go_simp; try with_reducible rfl)
          refine tkW 14 (some 29) (v := .bool true) ?_ hHeld ?_
          · (intro ww hSw; (try dsimp only at hSw); have hn := HM.out; go_simp)
          refine tkW 15 (some 30) (v := ?_) ?_ hHeld ?_
          rotate_left
          · (intro ww _; go_simp; try with_reducible rfl)
          refine wpAnyH_done (by kernel_rfl) ?_ _
          clear hHeld
          have a0 : Uf15u0.cell? ⟨b, o + i * 7, none⟩ = some (.int .i64 x.nd.1) := (HB.out.cell (p := ⟨b, o + i * 7, none⟩) HG.out).trans HX0.out
          have a1 : Uf15u0.cell? ⟨b, o + i * 7 + 1, none⟩ = some (.int .i64 x.nd.2) := (HB.out.cell (p := ⟨b, o + i * 7 + 1, none⟩) HG.out).trans HX1.out
          have a2 : Uf15u0.cell? ⟨b, o + i * 7 + 2, none⟩ = some (.string x.nm) := (HB.out.cell (p := ⟨b, o + i * 7 + 2, none⟩) HG.out).trans HX2.out
          have a3 : Uf15u0.cell? ⟨b, o + i * 7 + 3, none⟩ = some (.int .i64 x.at_.1) := (HB.out.cell (p := ⟨b, o + i * 7 + 3, none⟩) HG.out).trans HX3.out
          have a4 : Uf15u0.cell? ⟨b, o + i * 7 + 4, none⟩ = some (.int .i64 x.at_.2) := (HB.out.cell (p := ⟨b, o + i * 7 + 4, none⟩) HG.out).trans HX4.out
          have a5 : Uf15u0.cell? ⟨b, o + i * 7 + 5, none⟩ = some (.string x.vl) := (HB.out.cell (p := ⟨b, o + i * 7 + 5, none⟩) HG.out).trans HX5.out
          have a6 : Uf15u0.cell? ⟨b, o + i * 7 + 6, none⟩ = some (.bool x.gn) := (HB.out.cell (p := ⟨b, o + i * 7 + 6, none⟩) HG.out).trans HX6.out
          have HR9 : Hid (BxC b6 [.int .i64 0, .int .i64 0, .string ⟨#[]⟩, .int .i64 0, .int .i64 0, .string ⟨#[]⟩, .bool false] 26 Uf15u0) := HZ6.out.keep (HB.out.block _ HZ6.out.lt)
          go_wp2_with (refine wpList_store_row rfl 26 (.tmp 6) (.tmp 34) rfl b6 26 #[.int .i64 0, .int .i64 0, .string ⟨#[]⟩, .int .i64 0, .int .i64 0, .string ⟨#[]⟩, .bool false] (rgCells x).toArray rfl rfl HR9.out sizeReg rfl (by simp [Value.oneCell', rgCells]) ?_)
          have HQ9 : Hid ((Uf15u0.setRow b6 (rgCells x).toArray).heap[b6]? = some (.cells (rgCells x).toArray 26)) := setRow_same HR9.out
          have HB9 : Hid (Below w.heap.size w (Uf15u0.setRow b6 (rgCells x).toArray)) := (HW.out.trans (HB.out.mono HW.out.size)).trans ((Touch.of_grown (F := fun j => j = b6) (grown_setRow _ _ _) fun j e _ => by cases e; rfl).below (fun j e => by have := HG6.out; omega) (HW.out.trans (HB.out.mono HW.out.size)).size)
          (try simp only [Exit.inBlock, Exit.then])
          refine bodyPost_ret (results_cell_row2 rfl _ _ b6 _ _ _ _ rfl HQ9.out Try.underlying26 rfl (by kernel_rfl) rfl) rfl ?_
          have HA : Hid (atR R k = x ∧ hasR R k = true) := (by have h9 := get_at HxE.out (keyR_is HN.out HM.out) HNo.out; unfold atR hasR; rw [h9]; exact ⟨rfl, rfl⟩)
          exact ⟨by rw [HA.out.1, HA.out.2]; rfl, HB9.out⟩
        · have HM : Hid (¬ x.nm = k.2) := hnm
          have HNe : Hid (keyR x ≠ k) := fun e => hnm (congrArg Prod.snd e)
          clear hnd hnm
          go_wp2_with fail
          refine wp_region_held_drew (S := fun W' => Below W1.heap.size W1 W') (by kernel_rfl) HB.out.drew (fun hHeld => ?_)
          obtain ⟨Um16u0, eW⟩ : ∃ X, X = wr.drew := ⟨_, rfl⟩
          have hb : Below wr.heap.size wr Um16u0 := by rw [eW]; exact (Below.refl _ _).drew
          replace HB : Hid (Below W1.heap.size W1 Um16u0) := HB.out.trans (hb.mono HB.out.size)
          rw [← eW] at hHeld ⊢
          clear eW hb
          refine tkW 0 (some 15) (v := ?_) ?_ hHeld ?_
          rotate_left
          · (intro ww _; go_simp; try with_reducible rfl)
          refine tkW 1 (some 16) (v := ?_) ?_ hHeld ?_
          rotate_left
          · (intro ww _; go_simp; try with_reducible rfl)
          refine tkW 2 (some 17) (v := ?_) ?_ hHeld ?_
          rotate_left
          · (intro ww hSw; (try dsimp only at hSw); go_simp; try with_reducible rfl)
          refine tkW 3 (some 18) (v := ?_) ?_ hHeld ?_
          rotate_left
          · (intro ww _; go_simp; try with_reducible rfl)
          refine tkW 4 (some 19) (v := ?_) ?_ hHeld ?_
          rotate_left
          · (intro ww hSw; (try dsimp only at hSw); have a0 : ww.cell? ⟨b, o + i * 7, none⟩ = some (.int .i64 x.nd.1) := (hSw.cell (p := ⟨b, o + i * 7, none⟩) HG.out).trans HX0.out; have a1 : ww.cell? ⟨b, o + i * 7 + 1, none⟩ = some (.int .i64 x.nd.2) := (hSw.cell (p := ⟨b, o + i * 7 + 1, none⟩) HG.out).trans HX1.out; go_simp; try with_reducible rfl)
          refine tkW 5 (some 20) (v := ?_) ?_ hHeld ?_
          rotate_left
          · (intro ww hSw; (try dsimp only at hSw); have q0 : ww.cell? ⟨bx, 0, none⟩ = some (.int .i64 k.1.1) := (hSw.cell (p := ⟨bx, 0, none⟩) HQ.out.lt).trans (HQ.out.cell 0 _ rfl); have q1 : ww.cell? ⟨bx, 1, none⟩ = some (.int .i64 k.1.2) := (hSw.cell (p := ⟨bx, 1, none⟩) HQ.out.lt).trans (HQ.out.cell 1 _ rfl); go_simp; try with_reducible rfl)
          refine tkW 6 (some 21) (v := .bool true) ?_ hHeld ?_
          · (intro ww hSw; (try dsimp only at hSw); have e1 := HN.out.1; have e2 := HN.out.2; go_simp; try simp [e1, e2])
          refine tkW 7 (some 22) (v := ?_) ?_ hHeld ?_
          rotate_left
          · (intro ww _; go_simp; try with_reducible rfl)
          refine tkW 8 (some 23) (v := ?_) ?_ hHeld ?_
          rotate_left
          · (intro ww _; go_simp; try with_reducible rfl)
          refine tkW 9 (some 24) (v := ?_) ?_ hHeld ?_
          rotate_left
          · (intro ww _; go_simp; try with_reducible rfl)
          refine tkW 10 (some 25) (v := ?_) ?_ hHeld ?_
          rotate_left
          · (intro ww hSw; (try dsimp only at hSw); go_simp; try with_reducible rfl)
          refine tkW 11 (some 26) (v := ?_) ?_ hHeld ?_
          rotate_left
          · (intro ww _; go_simp; try with_reducible rfl)
          refine tkW 12 (some 27) (v := ?_) ?_ hHeld ?_
          rotate_left
          · (intro ww hSw; (try dsimp only at hSw); have a2 : ww.cell? ⟨b, o + i * 7 + 2, none⟩ = some (.string x.nm) := (hSw.cell (p := ⟨b, o + i * 7 + 2, none⟩) HG.out).trans HX2.out; go_simp; try with_reducible rfl)
          refine tkW 13 (some 28) (v := ?_) ?_ hHeld ?_
          rotate_left
          · (intro ww _; go_simp; try with_reducible rfl)
          refine tkW 14 (some 29) (v := .bool false) ?_ hHeld ?_
          · (intro ww hSw; (try dsimp only at hSw); have hn := HM.out; go_simp; exact fun e => hn (txt_inj e))
          refine tkW 15 (some 30) (v := ?_) ?_ hHeld ?_
          rotate_left
          · (intro ww _; go_simp; try with_reducible rfl)
          refine wpAnyH_done (by kernel_rfl) ?_ _
          clear hHeld
          go_wp2
          go_roundw
          case rel => exact ⟨i + 1, by go_num, by omega, HB, no_next HxE.out HNo.out HNe.out⟩
          case measure => simp [intOf]; omega
      · have HN : Hid (¬ (x.nd.1 = k.1.1 ∧ x.nd.2 = k.1.2)) := hnd
        have HNe : Hid (keyR x ≠ k) := fun e => hnd ⟨congrArg (fun z : Ky => z.1.1) e, congrArg (fun z : Ky => z.1.2) e⟩
        clear hnd
        go_wp2_with fail
        refine wp_region_held_drew (S := fun W' => Below W1.heap.size W1 W') (by kernel_rfl) HB.out.drew (fun hHeld => ?_)
        obtain ⟨Un17u0, eW⟩ : ∃ X, X = wr.drew := ⟨_, rfl⟩
        have hb : Below wr.heap.size wr Un17u0 := by rw [eW]; exact (Below.refl _ _).drew
        replace HB : Hid (Below W1.heap.size W1 Un17u0) := HB.out.trans (hb.mono HB.out.size)
        rw [← eW] at hHeld ⊢
        clear eW hb
        refine tkW 0 (some 15) (v := ?_) ?_ hHeld ?_
        rotate_left
        · (intro ww _; go_simp; try with_reducible rfl)
        refine tkW 1 (some 16) (v := ?_) ?_ hHeld ?_
        rotate_left
        · (intro ww _; go_simp; try with_reducible rfl)
        refine tkW 2 (some 17) (v := ?_) ?_ hHeld ?_
        rotate_left
        · (intro ww hSw; (try dsimp only at hSw); go_simp; try with_reducible rfl)
        refine tkW 3 (some 18) (v := ?_) ?_ hHeld ?_
        rotate_left
        · (intro ww _; go_simp; try with_reducible rfl)
        refine tkW 4 (some 19) (v := ?_) ?_ hHeld ?_
        rotate_left
        · (intro ww hSw; (try dsimp only at hSw); have a0 : ww.cell? ⟨b, o + i * 7, none⟩ = some (.int .i64 x.nd.1) := (hSw.cell (p := ⟨b, o + i * 7, none⟩) HG.out).trans HX0.out; have a1 : ww.cell? ⟨b, o + i * 7 + 1, none⟩ = some (.int .i64 x.nd.2) := (hSw.cell (p := ⟨b, o + i * 7 + 1, none⟩) HG.out).trans HX1.out; go_simp; try with_reducible rfl)
        refine tkW 5 (some 20) (v := ?_) ?_ hHeld ?_
        rotate_left
        · (intro ww hSw; (try dsimp only at hSw); have q0 : ww.cell? ⟨bx, 0, none⟩ = some (.int .i64 k.1.1) := (hSw.cell (p := ⟨bx, 0, none⟩) HQ.out.lt).trans (HQ.out.cell 0 _ rfl); have q1 : ww.cell? ⟨bx, 1, none⟩ = some (.int .i64 k.1.2) := (hSw.cell (p := ⟨bx, 1, none⟩) HQ.out.lt).trans (HQ.out.cell 1 _ rfl); go_simp; try with_reducible rfl)
        refine tkW 6 (some 21) (v := .bool false) ?_ hHeld ?_
        · (intro ww hSw; (try dsimp only at hSw); have hn := HN.out; go_simp; exact fun e1 e2 => hn ⟨e1, e2⟩)
        refine tkW 7 (some 22) (v := ?_) ?_ hHeld ?_
        rotate_left
        · (intro ww _; go_simp; try with_reducible rfl)
        refine tkU 8 (some 23) hHeld ?_
        refine tkU 9 (some 24) hHeld ?_
        refine tkU 10 (some 25) hHeld ?_
        refine tkU 11 (some 26) hHeld ?_
        refine tkU 12 (some 27) hHeld ?_
        refine tkU 13 (some 28) hHeld ?_
        refine tkU 14 (some 29) hHeld ?_
        refine tkW 15 (some 30) (v := ?_) ?_ hHeld ?_
        rotate_left
        · (intro ww _; go_simp; try with_reducible rfl)
        refine wpAnyH_done (by kernel_rfl) ?_ _
        clear hHeld
        go_wp2
        go_roundw
        case rel => exact ⟨i + 1, by go_num, by omega, HB, no_next HxE.out HNo.out HNe.out⟩
        case measure => simp [intOf]; omega
    · have k1 : ¬ (i : Int) < (R.length : Int) := by omega
      have HA : Hid (atR R k = zeroR ∧ hasR R k = false) := (by
        have h9 : getR R k = none := List.find?_eq_none.2 (fun y hy => by (have := HNo.out y (by rw [List.take_of_length_le (by omega)]; exact hy); simpa using this))
        unfold atR hasR
        rw [h9]
        exact ⟨rfl, rfl⟩)
      have HR9 : Hid (BxC b6 [.int .i64 0, .int .i64 0, .string ⟨#[]⟩, .int .i64 0, .int .i64 0, .string ⟨#[]⟩, .bool false] 26 wr) := HZ6.out.keep (HB.out.block _ HZ6.out.lt)
      go_wp2_with (refine wpList_store_row rfl 26 (.tmp 6) (.tmp 35) rfl b6 26 #[.int .i64 0, .int .i64 0, .string ⟨#[]⟩, .int .i64 0, .int .i64 0, .string ⟨#[]⟩, .bool false] #[.int .i64 0, .int .i64 0, .string ⟨#[]⟩, .int .i64 0, .int .i64 0, .string ⟨#[]⟩, .bool false] rfl rfl HR9.out sizeReg rfl (by simp [Value.oneCell', rgCells]) ?_)
      have HQ9 : Hid ((wr.setRow b6 #[.int .i64 0, .int .i64 0, .string ⟨#[]⟩, .int .i64 0, .int .i64 0, .string ⟨#[]⟩, .bool false]).heap[b6]? = some (.cells #[.int .i64 0, .int .i64 0, .string ⟨#[]⟩, .int .i64 0, .int .i64 0, .string ⟨#[]⟩, .bool false] 26)) := setRow_same HR9.out
      have HB9 : Hid (Below w.heap.size w (wr.setRow b6 #[.int .i64 0, .int .i64 0, .string ⟨#[]⟩, .int .i64 0, .int .i64 0, .string ⟨#[]⟩, .bool false])) := (HW.out.trans (HB.out.mono HW.out.size)).trans ((Touch.of_grown (F := fun j => j = b6) (grown_setRow _ _ _) fun j e _ => by cases e; rfl).below (fun j e => by have := HG6.out; omega) (HW.out.trans (HB.out.mono HW.out.size)).size)
      (try simp only [Exit.inBlock, Exit.then])
      refine bodyPost_ret (results_cell_row2 rfl _ _ b6 _ _ _ _ rfl HQ9.out Try.underlying26 rfl (by kernel_rfl) rfl) rfl ?_
      exact ⟨by rw [HA.out.1, HA.out.2]; rfl, HB9.out⟩

theorem att_next {R : List Rg} {i : Nat} {x : Rg} (s : St) (hx : R[i]? = some x) : attL (ofR (R.take (i + 1)) s) = if x.nd = s ∧ atB x = true then attL (ofR (R.take i) s) ++ [(x.nm, x.vl)] else attL (ofR (R.take i) s) := by
  obtain ⟨h, e⟩ := List.getElem?_eq_some_iff.1 hx
  rw [List.take_succ_eq_append_getElem h, e]
  unfold ofR
  rw [List.filter_append]
  by_cases hn : x.nd = s
  · rw [show [x].filter (fun r => decide (r.nd = s)) = [x] by simp [hn], attL_snoc]
    simp [hn]
  · rw [show [x].filter (fun r => decide (r.nd = s)) = [] by simp [hn], List.append_nil]
    simp [hn]

set_option maxRecDepth 100000 in
set_option maxHeartbeats 8000000 in
theorem refAttrs_any (G : Nat → Prop) (v : Value) (R : List Rg) (s : St) (w : World) (h : LsE rgCells 7 G w v R) (hl : R.length ≤ 4096) :
    Calls Try.prog 8 #[v, .agg #[.int .i64 s.1, .int .i64 s.2]] w fun e w' => ∃ u, e = .returned u ∧ OwnAt w.heap.size w' u (attsR R s) ∧ Below w.heap.size w w' := by
  obtain ⟨iat, hiat, hz0, hz1, hz2⟩ := info_parts infoAt
  obtain ⟨a1, c1, e1⟩ := h.form
  subst e1
  obtain ⟨W1, eW⟩ : ∃ X, X = w.alloc (.cells (stCells s).toArray 24) := ⟨_, rfl⟩
  have HW : Hid (Below w.heap.size w W1) := by rw [eW]; exact (Below.refl _ _).alloc (Nat.le_refl _) _
  have HX0 : Hid (BxC w.heap.size (stCells s) 24 W1) := by rw [eW]; exact BxC.new w _ _
  have HLs : Hid (LsE rgCells 7 G W1 (.slice a1 R.length c1) R) := h.below HW.out
  clear h
  obtain ⟨W2, eW2⟩ : ∃ X, X = W1.alloc (.cells #[] 42) := ⟨_, rfl⟩
  have HBu0 : Hid (BuR atCells 2 42 W1 (.slice (some ⟨W1.heap.size, 0, none⟩) 0 0) [] W2) := by rw [eW2]; exact BuR.newA W1
  have es1 : W1.heap.size = w.heap.size + 1 := by rw [eW]; simp
  rw [es1] at HBu0
  rw [eW] at eW2
  have HE2 : Hid (W2 = (w.alloc (.cells (stCells s).toArray 24)).alloc (.cells #[] 42)) := eW2
  clear eW2 eW es1
  go_enter Try.func8, Try.ntmps8
  go_wp2_with fail
  have eW2 := HE2.out
  simp only [stCells] at eW2
  rw [← eW2]
  clear eW2 HE2
  obtain ⟨bx, ebx⟩ : ∃ b, b = w.heap.size := ⟨_, rfl⟩
  have HQ : Hid (BxC bx (stCells s) 24 W1) := by rw [ebx]; exact HX0.out
  rw [← ebx] at HBu0 ⊢
  clear HX0 ebx
  go_loopw [5, 6] (fun ov iv wr => ∃ i : Nat, iv = .int .i64 (i : Int) ∧ i ≤ R.length ∧ ∃ D, Hid (attL (ofR (R.take i) s) = D) ∧ ∃ gv cv, ov = .slice (some ⟨gv, 0, none⟩) D.length cv ∧ Hid (BuR atCells 2 42 W1 (.slice (some ⟨gv, 0, none⟩) D.length cv) D wr)) (fun _ iv _ => R.length - (intOf iv).toNat)
  case atStart => exact ⟨0, rfl, Nat.zero_le _, [], rfl, _, _, rfl, HBu0⟩
  case round =>
    clear HBu0
    obtain ⟨i, rfl, hil, D, HD, gv, cv, rfl, HBu⟩ := hrel
    have HDl : Hid (D.length ≤ 4096) := (by have h1 := attL_len (ofR (R.take i) s); have h2 := of_length (R.take i) s; have h3 := HD.out; rw [List.length_take] at h2; show _ ≤ _; rw [← h3]; omega)
    by_cases hlt : i < R.length
    · obtain ⟨b, o, cap, ev, _, hbl, hrow⟩ := HLs.out.row7 (i := i) hlt
      injection ev with ev1 ev2 ev3
      subst ev1
      subst ev3
      obtain ⟨x, ex⟩ : ∃ x, x = R[i] := ⟨_, rfl⟩
      rw [← ex] at hrow
      have HxE : Hid (R[i]? = some x) := (by show _ = _; rw [ex]; exact List.getElem?_eq_getElem hlt)
      have HG : Hid (b < W1.heap.size) := hbl
      have HX0 : Hid (W1.cell? ⟨b, o + i * 7, none⟩ = some (.int .i64 x.nd.1)) := hrow 0 _ rfl
      have HX1 : Hid (W1.cell? ⟨b, o + i * 7 + 1, none⟩ = some (.int .i64 x.nd.2)) := hrow 1 _ rfl
      have HX2 : Hid (W1.cell? ⟨b, o + i * 7 + 2, none⟩ = some (.string x.nm)) := hrow 2 _ rfl
      have HX3 : Hid (W1.cell? ⟨b, o + i * 7 + 3, none⟩ = some (.int .i64 x.at_.1)) := hrow 3 _ rfl
      have HX4 : Hid (W1.cell? ⟨b, o + i * 7 + 4, none⟩ = some (.int .i64 x.at_.2)) := hrow 4 _ rfl
      have HX5 : Hid (W1.cell? ⟨b, o + i * 7 + 5, none⟩ = some (.string x.vl)) := hrow 5 _ rfl
      have HX6 : Hid (W1.cell? ⟨b, o + i * 7 + 6, none⟩ = some (.bool x.gn)) := hrow 6 _ rfl
      have k1 : (i : Int) < (R.length : Int) := by omega
      have k0 : (0 : Int) ≤ (i : Int) := by omega
      clear ex hrow hbl ev2
      have HNx0 := att_next s HxE.out
      rw [HD.out] at HNx0
      by_cases hnd : x.nd.1 = s.1 ∧ x.nd.2 = s.2
      · have HN : Hid (x.nd.1 = s.1 ∧ x.nd.2 = s.2) := hnd
        have hnds : x.nd = s := Prod.ext hnd.1 hnd.2
        by_cases hnm : x.nm.size = 0
        · have HNx : Hid (attL (ofR (R.take (i + 1)) s) = D) := (by show _ = _; rw [HNx0]; unfold atB; simp [hnm])
          have HM : Hid ((x.nm.toList == []) = true) := none_q hnm
          clear hnd hnm hnds HNx0
          go_wp2_with fail
          refine wp_region_held_drew (S := fun W' => Below W1.heap.size W1 W') (by kernel_rfl) HBu.out.bel.drew (fun hHeld => ?_)
          obtain ⟨Up18u0, eW⟩ : ∃ X, X = wr.drew := ⟨_, rfl⟩
          have hb : Below wr.heap.size wr Up18u0 := by rw [eW]; exact (Below.refl _ _).drew
          replace HBu : Hid (BuR atCells 2 42 W1 (.slice (some ⟨gv, 0, none⟩) D.length cv) D Up18u0) := HBu.out.below hb
          rw [← eW] at hHeld ⊢
          clear eW hb
          refine tkW 0 (some 14) (v := ?_) ?_ hHeld ?_
          rotate_left
          · (intro ww _; go_simp; try with_reducible rfl)
          refine tkW 1 (some 15) (v := ?_) ?_ hHeld ?_
          rotate_left
          · (intro ww _; go_simp; try with_reducible rfl)
          refine tkW 2 (some 16) (v := ?_) ?_ hHeld ?_
          rotate_left
          · (intro ww hSw; (try dsimp only at hSw); go_simp; try with_reducible rfl)
          refine tkW 3 (some 17) (v := ?_) ?_ hHeld ?_
          rotate_left
          · (intro ww _; go_simp; try with_reducible rfl)
          refine tkW 4 (some 18) (v := ?_) ?_ hHeld ?_
          rotate_left
          · (intro ww hSw; (try dsimp only at hSw); have a0 : ww.cell? ⟨b, o + i * 7, none⟩ = some (.int .i64 x.nd.1) := (hSw.cell (p := ⟨b, o + i * 7, none⟩) HG.out).trans HX0.out; have a1 : ww.cell? ⟨b, o + i * 7 + 1, none⟩ = some (.int .i64 x.nd.2) := (hSw.cell (p := ⟨b, o + i * 7 + 1, none⟩) HG.out).trans HX1.out; go_simp; try with_reducible rfl)
          refine tkW 5 (some 19) (v := ?_) ?_ hHeld ?_
          rotate_left
          · (intro ww hSw; (try dsimp only at hSw); have q0 : ww.cell? ⟨bx, 0, none⟩ = some (.int .i64 s.1) := (hSw.cell (p := ⟨bx, 0, none⟩) HQ.out.lt).trans (HQ.out.cell 0 _ rfl); have q1 : ww.cell? ⟨bx, 1, none⟩ = some (.int .i64 s.2) := (hSw.cell (p := ⟨bx, 1, none⟩) HQ.out.lt).trans (HQ.out.cell 1 _ rfl); go_simp; try with_reducible rfl)
          refine tkW 6 (some 20) (v := .bool true) ?_ hHeld ?_
          · (intro ww hSw; (try dsimp only at hSw); have e1 := HN.out.1; have e2 := HN.out.2; go_simp; try simp [e1, e2])
          refine tkW 7 (some 21) (v := ?_) ?_ hHeld ?_
          rotate_left
          · (intro ww _; go_simp; try with_reducible rfl)
          refine tkW 8 (some 22) (v := ?_) ?_ hHeld ?_
          rotate_left
          · (intro ww _; go_simp; try with_reducible rfl)
          refine tkW 9 (some 23) (v := ?_) ?_ hHeld ?_
          rotate_left
          · (intro ww _; go_simp; try with_reducible rfl)
          refine tkW 10 (some 24) (v := ?_) ?_ hHeld ?_
          rotate_left
          · (intro ww hSw; (try dsimp only at hSw); go_simp; try with_reducible rfl)
          refine tkW 11 (some 25) (v := ?_) ?_ hHeld ?_
          rotate_left
          · (intro ww _; go_simp; try with_reducible rfl)
          refine tkW 12 (some 26) (v := ?_) ?_ hHeld ?_
          rotate_left
          · (intro ww hSw; (try dsimp only at hSw); have a2 : ww.cell? ⟨b, o + i * 7 + 2, none⟩ = some (.string x.nm) := (hSw.cell (p := ⟨b, o + i * 7 + 2, none⟩) HG.out).trans HX2.out; go_simp; try with_reducible rfl)
          refine tkW 13 (some 27) (v := .bool false) ?_ hHeld ?_
          · (intro ww hSw; (try dsimp only at hSw); have q1 := HM.out; go_simp; try simp [q1])
          refine tkW 14 (some 28) (v := ?_) ?_ hHeld ?_
          rotate_left
          · (intro ww _; go_simp; try with_reducible rfl)
          refine tkW 15 (some 29) (v := ?_) ?_ hHeld ?_
          rotate_left
          · (intro ww _; go_simp; try with_reducible rfl)
          refine tkU 16 (some 30) hHeld ?_
          refine tkU 17 (some 31) hHeld ?_
          refine tkU 18 (some 32) hHeld ?_
          refine tkU 19 (some 33) hHeld ?_
          refine tkU 20 (some 34) hHeld ?_
          refine tkU 21 (some 35) hHeld ?_
          refine tkW 22 (some 36) (v := ?_) ?_ hHeld ?_
          rotate_left
          · (intro ww _; go_simp; try with_reducible rfl)
          refine wpAnyH_done (by kernel_rfl) ?_ _
          clear hHeld
          go_wp2
          go_roundw
          case rel => exact ⟨i + 1, by go_num, by omega, D, HNx, _, _, rfl, HBu⟩
          case measure => simp [intOf]; omega
        · have HM : Hid ((x.nm.toList == []) = false) := some_q hnm
          cases hg : x.gn with
          | true =>
            have HNx : Hid (attL (ofR (R.take (i + 1)) s) = D) := (by show _ = _; rw [HNx0]; unfold atB; simp [hg])
            rw [hg] at HX6
            clear hnd hnm hnds HNx0
            go_wp2_with fail
            refine wp_region_held_drew (S := fun W' => Below W1.heap.size W1 W') (by kernel_rfl) HBu.out.bel.drew (fun hHeld => ?_)
            obtain ⟨Uq19u0, eW⟩ : ∃ X, X = wr.drew := ⟨_, rfl⟩
            have hb : Below wr.heap.size wr Uq19u0 := by rw [eW]; exact (Below.refl _ _).drew
            replace HBu : Hid (BuR atCells 2 42 W1 (.slice (some ⟨gv, 0, none⟩) D.length cv) D Uq19u0) := HBu.out.below hb
            rw [← eW] at hHeld ⊢
            clear eW hb
            refine tkW 0 (some 14) (v := ?_) ?_ hHeld ?_
            rotate_left
            · (intro ww _; go_simp; try with_reducible rfl)
            refine tkW 1 (some 15) (v := ?_) ?_ hHeld ?_
            rotate_left
            · (intro ww _; go_simp; try with_reducible rfl)
            refine tkW 2 (some 16) (v := ?_) ?_ hHeld ?_
            rotate_left
            · (intro ww hSw; (try dsimp only at hSw); go_simp; try with_reducible rfl)
            refine tkW 3 (some 17) (v := ?_) ?_ hHeld ?_
            rotate_left
            · (intro ww _; go_simp; try with_reducible rfl)
            refine tkW 4 (some 18) (v := ?_) ?_ hHeld ?_
            rotate_left
            · (intro ww hSw; (try dsimp only at hSw); have a0 : ww.cell? ⟨b, o + i * 7, none⟩ = some (.int .i64 x.nd.1) := (hSw.cell (p := ⟨b, o + i * 7, none⟩) HG.out).trans HX0.out; have a1 : ww.cell? ⟨b, o + i * 7 + 1, none⟩ = some (.int .i64 x.nd.2) := (hSw.cell (p := ⟨b, o + i * 7 + 1, none⟩) HG.out).trans HX1.out; go_simp; try with_reducible rfl)
            refine tkW 5 (some 19) (v := ?_) ?_ hHeld ?_
            rotate_left
            · (intro ww hSw; (try dsimp only at hSw); have q0 : ww.cell? ⟨bx, 0, none⟩ = some (.int .i64 s.1) := (hSw.cell (p := ⟨bx, 0, none⟩) HQ.out.lt).trans (HQ.out.cell 0 _ rfl); have q1 : ww.cell? ⟨bx, 1, none⟩ = some (.int .i64 s.2) := (hSw.cell (p := ⟨bx, 1, none⟩) HQ.out.lt).trans (HQ.out.cell 1 _ rfl); go_simp; try with_reducible rfl)
            refine tkW 6 (some 20) (v := .bool true) ?_ hHeld ?_
            · (intro ww hSw; (try dsimp only at hSw); have e1 := HN.out.1; have e2 := HN.out.2; go_simp; try simp [e1, e2])
            refine tkW 7 (some 21) (v := ?_) ?_ hHeld ?_
            rotate_left
            · (intro ww _; go_simp; try with_reducible rfl)
            refine tkW 8 (some 22) (v := ?_) ?_ hHeld ?_
            rotate_left
            · (intro ww _; go_simp; try with_reducible rfl)
            refine tkW 9 (some 23) (v := ?_) ?_ hHeld ?_
            rotate_left
            · (intro ww _; go_simp; try with_reducible rfl)
            refine tkW 10 (some 24) (v := ?_) ?_ hHeld ?_
            rotate_left
            · (intro ww hSw; (try dsimp only at hSw); go_simp; try with_reducible rfl)
            refine tkW 11 (some 25) (v := ?_) ?_ hHeld ?_
            rotate_left
            · (intro ww _; go_simp; try with_reducible rfl)
            refine tkW 12 (some 26) (v := ?_) ?_ hHeld ?_
            rotate_left
            · (intro ww hSw; (try dsimp only at hSw); have a2 : ww.cell? ⟨b, o + i * 7 + 2, none⟩ = some (.string x.nm) := (hSw.cell (p := ⟨b, o + i * 7 + 2, none⟩) HG.out).trans HX2.out; go_simp; try with_reducible rfl)
            refine tkW 13 (some 27) (v := .bool true) ?_ hHeld ?_
            · (intro ww hSw; (try dsimp only at hSw); have q1 := HM.out; go_simp; try simp [q1])
            refine tkW 14 (some 28) (v := ?_) ?_ hHeld ?_
            rotate_left
            · (intro ww _; go_simp; try with_reducible rfl)
            refine tkW 15 (some 29) (v := ?_) ?_ hHeld ?_
            rotate_left
            · (intro ww _; go_simp; try with_reducible rfl)
            refine tkW 16 (some 30) (v := ?_) ?_ hHeld ?_
            rotate_left
            · (intro ww _; go_simp; try with_reducible rfl)
            refine tkW 17 (some 31) (v := ?_) ?_ hHeld ?_
            rotate_left
            · (intro ww _; go_simp; try with_reducible rfl)
            refine tkW 18 (some 32) (v := ?_) ?_ hHeld ?_
            rotate_left
            · (intro ww hSw; (try dsimp only at hSw); go_simp; try with_reducible rfl)
            refine tkW 19 (some 33) (v := ?_) ?_ hHeld ?_
            rotate_left
            · (intro ww _; go_simp; try with_reducible rfl)
            refine tkW 20 (some 34) (v := ?_) ?_ hHeld ?_
            rotate_left
            · (intro ww hSw; (try dsimp only at hSw); have a6 : ww.cell? ⟨b, o + i * 7 + 6, none⟩ = some (.bool true) := (hSw.cell (p := ⟨b, o + i * 7 + 6, none⟩) HG.out).trans HX6.out; go_simp; try with_reducible rfl)
            refine tkW 21 (some 35) (v := ?_) ?_ hHeld ?_
            rotate_left
            · (intro ww _; go_simp; try with_reducible rfl)
            refine tkW 22 (some 36) (v := ?_) ?_ hHeld ?_
            rotate_left
            · (intro ww _; go_simp; try with_reducible rfl)
            refine wpAnyH_done (by kernel_rfl) ?_ _
            clear hHeld
            go_wp2
            go_roundw
            case rel => exact ⟨i + 1, by go_num, by omega, D, HNx, _, _, rfl, HBu⟩
            case measure => simp [intOf]; omega
          | false =>
            have HNx : Hid (attL (ofR (R.take (i + 1)) s) = D ++ [(x.nm, x.vl)]) := (by show _ = _; rw [HNx0]; unfold atB; simp [hg, hnm, hnds])
            rw [hg] at HX6
            clear hnd hnm hnds HNx0
            go_wp2_with fail
            refine wp_region_held_drew (S := fun W' => Below W1.heap.size W1 W') (by kernel_rfl) HBu.out.bel.drew (fun hHeld => ?_)
            obtain ⟨Ur20u0, eW⟩ : ∃ X, X = wr.drew := ⟨_, rfl⟩
            have hb : Below wr.heap.size wr Ur20u0 := by rw [eW]; exact (Below.refl _ _).drew
            replace HBu : Hid (BuR atCells 2 42 W1 (.slice (some ⟨gv, 0, none⟩) D.length cv) D Ur20u0) := HBu.out.below hb
            rw [← eW] at hHeld ⊢
            clear eW hb
            refine tkW 0 (some 14) (v := ?_) ?_ hHeld ?_
            rotate_left
            · (intro ww _; go_simp; try with_reducible rfl)
            refine tkW 1 (some 15) (v := ?_) ?_ hHeld ?_
            rotate_left
            · (intro ww _; go_simp; try with_reducible rfl)
            refine tkW 2 (some 16) (v := ?_) ?_ hHeld ?_
            rotate_left
            · (intro ww hSw; (try dsimp only at hSw); go_simp; try with_reducible rfl)
            refine tkW 3 (some 17) (v := ?_) ?_ hHeld ?_
            rotate_left
            · (intro ww _; go_simp; try with_reducible rfl)
            refine tkW 4 (some 18) (v := ?_) ?_ hHeld ?_
            rotate_left
            · (intro ww hSw; (try dsimp only at hSw); have a0 : ww.cell? ⟨b, o + i * 7, none⟩ = some (.int .i64 x.nd.1) := (hSw.cell (p := ⟨b, o + i * 7, none⟩) HG.out).trans HX0.out; have a1 : ww.cell? ⟨b, o + i * 7 + 1, none⟩ = some (.int .i64 x.nd.2) := (hSw.cell (p := ⟨b, o + i * 7 + 1, none⟩) HG.out).trans HX1.out; go_simp; try with_reducible rfl)
            refine tkW 5 (some 19) (v := ?_) ?_ hHeld ?_
            rotate_left
            · (intro ww hSw; (try dsimp only at hSw); have q0 : ww.cell? ⟨bx, 0, none⟩ = some (.int .i64 s.1) := (hSw.cell (p := ⟨bx, 0, none⟩) HQ.out.lt).trans (HQ.out.cell 0 _ rfl); have q1 : ww.cell? ⟨bx, 1, none⟩ = some (.int .i64 s.2) := (hSw.cell (p := ⟨bx, 1, none⟩) HQ.out.lt).trans (HQ.out.cell 1 _ rfl); go_simp; try with_reducible rfl)
            refine tkW 6 (some 20) (v := .bool true) ?_ hHeld ?_
            · (intro ww hSw; (try dsimp only at hSw); have e1 := HN.out.1; have e2 := HN.out.2; go_simp; try simp [e1, e2])
            refine tkW 7 (some 21) (v := ?_) ?_ hHeld ?_
            rotate_left
            · (intro ww _; go_simp; try with_reducible rfl)
            refine tkW 8 (some 22) (v := ?_) ?_ hHeld ?_
            rotate_left
            · (intro ww _; go_simp; try with_reducible rfl)
            refine tkW 9 (some 23) (v := ?_) ?_ hHeld ?_
            rotate_left
            · (intro ww _; go_simp; try with_reducible rfl)
            refine tkW 10 (some 24) (v := ?_) ?_ hHeld ?_
            rotate_left
            · (intro ww hSw; (try dsimp only at hSw); go_simp; try with_reducible rfl)
            refine tkW 11 (some 25) (v := ?_) ?_ hHeld ?_
            rotate_left
            · (intro ww _; go_simp; try with_reducible rfl)
            refine tkW 12 (some 26) (v := ?_) ?_ hHeld ?_
            rotate_left
            · (intro ww hSw; (try dsimp only at hSw); have a2 : ww.cell? ⟨b, o + i * 7 + 2, none⟩ = some (.string x.nm) := (hSw.cell (p := ⟨b, o + i * 7 + 2, none⟩) HG.out).trans HX2.out; go_simp; try with_reducible rfl)
            refine tkW 13 (some 27) (v := .bool true) ?_ hHeld ?_
            · (intro ww hSw; (try dsimp only at hSw); have q1 := HM.out; go_simp; try simp [q1])
            refine tkW 14 (some 28) (v := ?_) ?_ hHeld ?_
            rotate_left
            · (intro ww _; go_simp; try with_reducible rfl)
            refine tkW 15 (some 29) (v := ?_) ?_ hHeld ?_
            rotate_left
            · (intro ww _; go_simp; try with_reducible rfl)
            refine tkW 16 (some 30) (v := ?_) ?_ hHeld ?_
            rotate_left
            · (intro ww _; go_simp; try with_reducible rfl)
            refine tkW 17 (some 31) (v := ?_) ?_ hHeld ?_
            rotate_left
            · (intro ww _; go_simp; try with_reducible rfl)
            refine tkW 18 (some 32) (v := ?_) ?_ hHeld ?_
            rotate_left
            · (intro ww hSw; (try dsimp only at hSw); go_simp; try with_reducible rfl)
            refine tkW 19 (some 33) (v := ?_) ?_ hHeld ?_
            rotate_left
            · (intro ww _; go_simp; try with_reducible rfl)
            refine tkW 20 (some 34) (v := ?_) ?_ hHeld ?_
            rotate_left
            · (intro ww hSw; (try dsimp only at hSw); have a6 : ww.cell? ⟨b, o + i * 7 + 6, none⟩ = some (.bool false) := (hSw.cell (p := ⟨b, o + i * 7 + 6, none⟩) HG.out).trans HX6.out; go_simp; try with_reducible rfl)
            refine tkW 21 (some 35) (v := ?_) ?_ hHeld ?_
            rotate_left
            · (intro ww _; go_simp; try with_reducible rfl)
            refine tkW 22 (some 36) (v := ?_) ?_ hHeld ?_
            rotate_left
            · (intro ww _; go_simp; try with_reducible rfl)
            refine wpAnyH_done (by kernel_rfl) ?_ _
            clear hHeld
            go_wp2_with fail
            refine wp_region_held_drew (S := fun W' => Below W1.heap.size W1 W') (by kernel_rfl) HBu.out.bel.drew (fun hHeld => ?_)
            obtain ⟨Ub21u0, eW⟩ : ∃ X, X = Ur20u0.drew := ⟨_, rfl⟩
            have hb : Below Ur20u0.heap.size Ur20u0 Ub21u0 := by rw [eW]; exact (Below.refl _ _).drew
            replace HBu : Hid (BuR atCells 2 42 W1 (.slice (some ⟨gv, 0, none⟩) D.length cv) D Ub21u0) := HBu.out.below hb
            rw [← eW] at hHeld ⊢
            clear eW hb
            refine tkW 0 (some 37) (v := ?_) ?_ hHeld ?_
            rotate_left
            · (intro ww _; go_simp; try with_reducible rfl)
            refine tkW 1 (some 38) (v := ?_) ?_ hHeld ?_
            rotate_left
            · (intro ww _; go_simp; try with_reducible rfl)
            refine tkW 2 (some 39) (v := ?_) ?_ hHeld ?_
            rotate_left
            · (intro ww _; go_simp; try with_reducible rfl)
            refine tkW 3 (some 40) (v := ?_) ?_ hHeld ?_
            rotate_left
            · (intro ww hSw; (try dsimp only at hSw); go_simp; try with_reducible rfl)
            refine tkW 4 (some 41) (v := ?_) ?_ hHeld ?_
            rotate_left
            · (intro ww _; go_simp; try with_reducible rfl)
            refine tkW 5 (some 42) (v := ?_) ?_ hHeld ?_
            rotate_left
            · (intro ww hSw; (try dsimp only at hSw); have a2 : ww.cell? ⟨b, o + i * 7 + 2, none⟩ = some (.string x.nm) := (hSw.cell (p := ⟨b, o + i * 7 + 2, none⟩) HG.out).trans HX2.out; go_simp; try with_reducible rfl)
            refine tkW 6 (some 43) (v := ?_) ?_ hHeld ?_
            rotate_left
            · (intro ww _; go_simp; try with_reducible rfl)
            refine tkW 7 (some 44) (v := ?_) ?_ hHeld ?_
            rotate_left
            · (intro ww _; go_simp; try with_reducible rfl)
            refine tkW 8 (some 45) (v := ?_) ?_ hHeld ?_
            rotate_left
            · (intro ww hSw; (try dsimp only at hSw); go_simp; try with_reducible rfl)
            refine tkW 9 (some 46) (v := ?_) ?_ hHeld ?_
            rotate_left
            · (intro ww _; go_simp; try with_reducible rfl)
            refine tkW 10 (some 47) (v := ?_) ?_ hHeld ?_
            rotate_left
            · (intro ww hSw; (try dsimp only at hSw); have a5 : ww.cell? ⟨b, o + i * 7 + 5, none⟩ = some (.string x.vl) := (hSw.cell (p := ⟨b, o + i * 7 + 5, none⟩) HG.out).trans HX5.out; go_simp; try with_reducible rfl)
            refine tkW 11 (some 48) (v := ?_) ?_ hHeld ?_
            rotate_left
            · (intro ww hSw; (try dsimp only at hSw); go_simp; try with_reducible rfl)
            refine wpAnyH_ready (rs := [12]) (by kernel_rfl) (by simp) ?_
            refine AllReadyH.cons (o := ⟨some 49, _, _, _, _, _⟩) rfl (fun K hK => ?_) AllReadyH.nil
            have hbx : Below Ub21u0.heap.size Ub21u0 (Ub21u0.alloc (.cells #[.string x.nm, .string x.vl] 42)) := (Below.refl _ _).alloc (Nat.le_refl _) _
            go_simp
            refine hK.out _ _ (hHeld.trans (hbx.mono hHeld.size)) (fun hHeld2 => ?_)
            clear hK K hHeld
            have hHeld := hHeld2
            clear hHeld2
            (try simp only [Act.put, List.setIfInBounds_toArray, List.set_cons_zero, List.set_cons_succ])
            obtain ⟨Ub21u1, eW⟩ : ∃ X, X = Ub21u0.alloc (.cells #[.string x.nm, .string x.vl] 42) := ⟨_, rfl⟩
            have hb : Below Ub21u0.heap.size Ub21u0 Ub21u1 := by rw [eW]; exact (Below.refl _ _).alloc (Nat.le_refl _) _
            replace HBu : Hid (BuR atCells 2 42 W1 (.slice (some ⟨gv, 0, none⟩) D.length cv) D Ub21u1) := HBu.out.below hb
            have HV : Hid (Ub21u1.heap[Ub21u0.heap.size]? = some (.cells #[.string x.nm, .string x.vl] 42)) := by rw [eW]; exact heap_alloc_new _ _
            rw [← eW] at hHeld ⊢
            clear eW
            clear hbx
            obtain ⟨vb, enb⟩ : ∃ b, b = Ub21u0.heap.size := ⟨_, rfl⟩
            rw [← enb] at HV ⊢
            clear enb
            clear hb
            refine wpAnyH_ready (rs := [13]) (by kernel_rfl) (by simp) ?_
            refine AllReadyH.cons (o := ⟨some 50, _, _, _, _, _⟩) rfl (fun K hK => ?_) AllReadyH.nil
            refine step_append_own_at rfl (.tmp 37) (.tmp 49) 34 rfl W1.heap.size 42 iat (.agg #[.string ⟨#[]⟩, .string ⟨#[]⟩]) 2 32 Try.underlying34 hiat hz0 hz1 hz2 rfl (by decide) (.slice (some ⟨gv, 0, none⟩) D.length cv) D.length (flatE atCells D) rfl HBu.out.own ⟨vb, 0, none⟩ 1 1 [.string x.nm, .string x.vl] rfl rfl (fun j u hj => by (rw [Addr.add_lit, cell_of_row Ub21u1 vb _ _ _ _ HV.out, Nat.zero_add, List.getElem?_toArray]; exact hj)) (by simp [Value.oneCell']) (by have := HDl.out; unfold maxLen; omega) (by have := HDl.out; omega) HBu.out.bel.size ?_
            intro v2 Ub21u2 hown hgr hat
            obtain ⟨g2, c2, e2⟩ : ∃ g c, v2 = .slice (some ⟨g, 0, none⟩) (D.length + 1) c := (ownsRow_succ hown)
            subst e2
            have HBu2 : Hid (BuR atCells 2 42 W1 (.slice (some ⟨g2, 0, none⟩) (D.length + 1) c2) (D ++ [(x.nm, x.vl)]) Ub21u2) := HBu.out.push (x := (x.nm, x.vl)) hown hgr
            have hS2 : Below W1.heap.size W1 Ub21u2 := HBu2.out.bel
            clear hown hgr hat
            refine hK.out _ _ (hS2) (fun hHeld2 => ?_)
            clear hK K hHeld
            have hHeld := hHeld2
            clear hHeld2
            (try simp only [Act.put, List.setIfInBounds_toArray, List.set_cons_zero, List.set_cons_succ])
            clear hS2 HBu HV
            refine tkW 14 (some 5) (v := ?_) ?_ hHeld ?_
            rotate_left
            · (intro ww _; go_simp; try with_reducible rfl)
            refine wpAnyH_done (by kernel_rfl) ?_ _
            clear hHeld
            go_wp2
            go_roundw
            case rel => exact ⟨i + 1, by go_num, by omega, D ++ [(x.nm, x.vl)], HNx, g2, c2, by (rw [List.length_append]; rfl), by (rw [List.length_append]; exact HBu2)⟩
            case measure => simp [intOf]; omega
      · have HN : Hid (¬ (x.nd.1 = s.1 ∧ x.nd.2 = s.2)) := hnd
        have HNx : Hid (attL (ofR (R.take (i + 1)) s) = D) := (by show _ = _; rw [HNx0, if_neg (fun h9 => hnd (by rw [h9.1]; exact ⟨rfl, rfl⟩))])
        clear hnd HNx0
        go_wp2_with fail
        refine wp_region_held_drew (S := fun W' => Below W1.heap.size W1 W') (by kernel_rfl) HBu.out.bel.drew (fun hHeld => ?_)
        obtain ⟨Ut22u0, eW⟩ : ∃ X, X = wr.drew := ⟨_, rfl⟩
        have hb : Below wr.heap.size wr Ut22u0 := by rw [eW]; exact (Below.refl _ _).drew
        replace HBu : Hid (BuR atCells 2 42 W1 (.slice (some ⟨gv, 0, none⟩) D.length cv) D Ut22u0) := HBu.out.below hb
        rw [← eW] at hHeld ⊢
        clear eW hb
        refine tkW 0 (some 14) (v := ?_) ?_ hHeld ?_
        rotate_left
        · (intro ww _; go_simp; try with_reducible rfl)
        refine tkW 1 (some 15) (v := ?_) ?_ hHeld ?_
        rotate_left
        · (intro ww _; go_simp; try with_reducible rfl)
        refine tkW 2 (some 16) (v := ?_) ?_ hHeld ?_
        rotate_left
        · (intro ww hSw; (try dsimp only at hSw); go_simp; try with_reducible rfl)
        refine tkW 3 (some 17) (v := ?_) ?_ hHeld ?_
        rotate_left
        · (intro ww _; go_simp; try with_reducible rfl)
        refine tkW 4 (some 18) (v := ?_) ?_ hHeld ?_
        rotate_left
        · (intro ww hSw; (try dsimp only at hSw); have a0 : ww.cell? ⟨b, o + i * 7, none⟩ = some (.int .i64 x.nd.1) := (hSw.cell (p := ⟨b, o + i * 7, none⟩) HG.out).trans HX0.out; have a1 : ww.cell? ⟨b, o + i * 7 + 1, none⟩ = some (.int .i64 x.nd.2) := (hSw.cell (p := ⟨b, o + i * 7 + 1, none⟩) HG.out).trans HX1.out; go_simp; try with_reducible rfl)
        refine tkW 5 (some 19) (v := ?_) ?_ hHeld ?_
        rotate_left
        · (intro ww hSw; (try dsimp only at hSw); have q0 : ww.cell? ⟨bx, 0, none⟩ = some (.int .i64 s.1) := (hSw.cell (p := ⟨bx, 0, none⟩) HQ.out.lt).trans (HQ.out.cell 0 _ rfl); have q1 : ww.cell? ⟨bx, 1, none⟩ = some (.int .i64 s.2) := (hSw.cell (p := ⟨bx, 1, none⟩) HQ.out.lt).trans (HQ.out.cell 1 _ rfl); go_simp; try with_reducible rfl)
        refine tkW 6 (some 20) (v := .bool false) ?_ hHeld ?_
        · (intro ww hSw; (try dsimp only at hSw); have hn := HN.out; go_simp; exact fun e1 e2 => hn ⟨e1, e2⟩)
        refine tkW 7 (some 21) (v := ?_) ?_ hHeld ?_
        rotate_left
        · (intro ww _; go_simp; try with_reducible rfl)
        refine tkU 8 (some 22) hHeld ?_
        refine tkU 9 (some 23) hHeld ?_
        refine tkU 10 (some 24) hHeld ?_
        refine tkU 11 (some 25) hHeld ?_
        refine tkU 12 (some 26) hHeld ?_
        refine tkU 13 (some 27) hHeld ?_
        refine tkW 14 (some 28) (v := ?_) ?_ hHeld ?_
        rotate_left
        · (intro ww _; go_simp; try with_reducible rfl)
        refine tkW 15 (some 29) (v := ?_) ?_ hHeld ?_
        rotate_left
        · (intro ww _; go_simp; try with_reducible rfl)
        refine tkU 16 (some 30) hHeld ?_
        refine tkU 17 (some 31) hHeld ?_
        refine tkU 18 (some 32) hHeld ?_
        refine tkU 19 (some 33) hHeld ?_
        refine tkU 20 (some 34) hHeld ?_
        refine tkU 21 (some 35) hHeld ?_
        refine tkW 22 (some 36) (v := ?_) ?_ hHeld ?_
        rotate_left
        · (intro ww _; go_simp; try with_reducible rfl)
        refine wpAnyH_done (by kernel_rfl) ?_ _
        clear hHeld
        go_wp2
        go_roundw
        case rel => exact ⟨i + 1, by go_num, by omega, D, HNx, _, _, rfl, HBu⟩
        case measure => simp [intOf]; omega
    · have k1 : ¬ (i : Int) < (R.length : Int) := by omega
      have HE : Hid (D = attsR R s) := (by have h9 := HD.out; rw [List.take_of_length_le (by omega)] at h9; exact h9.symm)
      go_wp2
      go_ret
      have h8 := HBu.out
      have h9 := HE.out
      subst h9
      exact ⟨_, rfl, h8.own.low HW.out.size, HW.out.trans (h8.bel.mono HW.out.size)⟩

end Go.Proofs.Ytecliogffcnfiaa
