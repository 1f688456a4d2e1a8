/- What put and checkNew do. -/
import Derived.Test.YthndgmnckpimmaaCaC
namespace Go.Proofs.Ythndgmnckpimmaa
open Go.RowKit
set_option linter.unusedVariables false
set_option linter.unusedSimpArgs false

def BelW (w X : World) : Prop := Below w.heap.size w X
theorem BelW.below {w X Y : World} (h : BelW w X) (hb : Below X.heap.size X Y) : BelW w Y := Below.trans h (hb.mono (Below.size h))
theorem cell_lt {W : World} {b i : Nat} {v : Value} (h : W.cell? ⟨b, i, none⟩ = some v) : b < W.heap.size := by
  rw [← Nat.not_le]
  intro hge
  have : W.heap[b]? = none := Array.getElem?_eq_none hge
  simp [World.cell?, this] at h
theorem BufIs.bmb {F : Nat → Prop} {w : World} {bb : Nat} {room : Int} {mb : Nat} {D : List (Ch × Value)} (h : BufIs F w bb room mb D) : bb ≠ mb := by
  intro e
  obtain ⟨es, cl, h1, _⟩ := h.hmap
  have := h.row
  rw [e, h1] at this
  cases this
theorem BufIs.dmb {F : Nat → Prop} {w : World} {bb : Nat} {room : Int} {mb : Nat} {D : List (Ch × Value)} (h : BufIs F w bb room mb D) {B : Nat} {v : Value} {d : List Int} (ho : OwnI B w v d) : v.ownBlock ≠ some mb := by
  intro e
  obtain ⟨es, cl, h1, _⟩ := h.hmap
  obtain ⟨cur, h2⟩ := ownsRow_type ho mb e
  rw [h1] at h2
  cases h2
/-- A map that was written in one block, and that alone. -/
theorem BufIs.turn {F F' : Nat → Prop} {w w' : World} {bb : Nat} {room : Int} {mb : Nat} {D D' : List (Ch × Value)} (h : BufIs F w bb room mb D) (hm : MapIs w' mb D') (hg : w.grownBy w' (some mb)) (hd : ∀ x ∈ D', OwnI 0 w x.2 x.1.deps ∧ ∀ k, x.2.ownBlock = some k → F' k) (ok : HoldOk D') (hF : ∀ k, F k → F' k) (hl : ∀ k, F' k → k < w'.heap.size) : BufIs F' w' bb room mb D' where
  row := (hg.block _ (Array.getElem?_eq_some_iff.1 h.row).1 (fun e => h.bmb (by cases e; rfl))).trans h.row
  hmap := hm
  hdep := fun x hx => OwnI.keepF (hd x hx).1 fun k e => hg.block k (World.ownsRow.lt (hd x hx).1 k e).2 (fun e2 => h.dmb (hd x hx).1 (by cases e2; exact e))
  ok := ok
  fl := hF _ h.fl
  fm := hF _ h.fm
  fd := fun x hx => (hd x hx).2
  lt := hl
/-- What put leaves. -/
def PutR (F : Nat → Prop) (w : World) (bb : Nat) (room : Int) (mb : Nat) (D : List (Ch × Value)) (c : Ch) (w' : World) : Prop := ∃ F' dv, BufIs F' w' bb room mb (D ++ [(c, dv)]) ∧ (∀ k, F k → F' k) ∧ (∀ k, F' k → F k ∨ w.heap.size ≤ k) ∧ Touch F w w'
theorem PutR.cell1 {F : Nat → Prop} {w : World} {bb : Nat} {room : Int} {mb : Nat} {D : List (Ch × Value)} {c : Ch} {w' : World} (h : PutR F w bb room mb D c w') : w'.cell? ⟨bb, 1, none⟩ = some (.map (some mb)) := by obtain ⟨_, _, h, _⟩ := h; exact h.cell1
theorem getP_none {D : List (Ch × Value)} {r s : Int} (h : getP D r s = none) : ∀ x ∈ D, ¬ (x.1.ar = r ∧ x.1.seq = s) := fun x hx => by
  have := List.find?_eq_none.1 h x hx
  simpa [isOwn] using this
theorem getP_some {D : List (Ch × Value)} {r s : Int} {x : Ch × Value} (h : getP D r s = some x) : x ∈ D ∧ x.1.ar = r ∧ x.1.seq = s := ⟨List.mem_of_find?_eq_some h, by have := List.find?_some h; simpa [isOwn] using this⟩
theorem HoldOk.snoc {D : List (Ch × Value)} (ok : HoldOk D) {c : Ch} {dv : Value} (hc : checkCh c = 0 ∧ Sized c) (hn : getP D c.ar c.seq = none) : HoldOk (D ++ [(c, dv)]) := by
  refine ⟨List.pairwise_append.2 ⟨ok.apart, List.pairwise_singleton _ _, fun x hx y hy => ?_⟩, fun x hx => ?_⟩
  · rw [List.mem_singleton] at hy
    subst hy
    exact getP_none hn x hx
  · rcases List.mem_append.1 hx with hx | hx
    · exact ok.right x hx
    · rw [List.mem_singleton] at hx
      subst hx
      exact hc
theorem putR_of {F : Nat → Prop} {w W W' : World} {bb : Nat} {room : Int} {mb : Nat} {D : List (Ch × Value)} {c : Ch} {dv : Value} (h : BufIs F W bb room mb D) (hm : MapIs W' mb (D ++ [(c, dv)])) (hg : W.grownBy W' (some mb)) (ho : OwnI (w.heap.size + 1) W dv c.deps) (hc : checkCh c = 0 ∧ Sized c) (hn : getP D c.ar c.seq = none) (hb : BelW w W) (hF : ∀ k, F k → k < w.heap.size) : PutR F w bb room mb D c W' := by
  have hb' : Below w.heap.size w W := hb
  refine ⟨fun k => F k ∨ dv.ownBlock = some k, dv, h.turn hm hg (fun x hx => ?_) (h.ok.snoc hc hn) (fun k hk => .inl hk) (fun k hk => ?_), fun k hk => .inl hk, fun k hk => ?_, (Touch.of_below hb').trans (Touch.of_grown (F := F) hg fun k e _ => ?_) fun j hj => .inl hj⟩
  · rcases List.mem_append.1 hx with hx | hx
    · exact ⟨h.hdep x hx, fun k e => .inl (h.fd x hx k e)⟩
    · rw [List.mem_singleton] at hx
      subst hx
      exact ⟨ho.low (Nat.zero_le _), fun k e => .inr e⟩
  · rcases hk with hk | hk
    · exact Nat.lt_of_lt_of_le (h.lt k hk) hg.size
    · exact Nat.lt_of_lt_of_le (World.ownsRow.lt ho k hk).2 hg.size
  · rcases hk with hk | hk
    · exact .inl hk
    · exact .inr (Nat.le_of_succ_le (World.ownsRow.lt ho k hk).1)
  · cases e
    exact h.fm

set_option maxRecDepth 100000 in
set_option maxHeartbeats 4000000 in
theorem put_any (F : Nat → Prop) (bb : Nat) (room : Int) (mb : Nat) (D : List (Ch × Value)) (ac ar sq : Int) (dv : Value) (kd nc nr pc pr fc fr : Int) (nm vl : ByteArray) (ds : List Int) (w : World) (h : BufIs F w bb room mb D) (hd : IsI w dv ds) (hc : checkCh (⟨ac, ar, sq, ds, kd, nc, nr, pc, pr, fc, fr, nm, vl⟩ : Ch) = 0 ∧ Sized (⟨ac, ar, sq, ds, kd, nc, nr, pc, pr, fc, fr, nm, vl⟩ : Ch)) (hn : getP D ar sq = none) :
    Calls Try.prog 38 #[.pointer (some ⟨bb, 0, none⟩), .agg #[.int .i64 ac, .int .i64 ar, .int .i64 sq, dv, .int .i64 kd, .int .i64 nc, .int .i64 nr, .int .i64 pc, .int .i64 pr, .int .i64 fc, .int .i64 fr, .string nm, .string vl]] w fun e w' => (∃ v, e = .returned v) ∧ PutR F w bb room mb D (⟨ac, ar, sq, ds, kd, nc, nr, pc, pr, fc, fr, nm, vl⟩ : Ch) w' := by
  have HFl : Hid (∀ k, F k → k < w.heap.size) := h.lt
  have HCk : Hid (checkCh (⟨ac, ar, sq, ds, kd, nc, nr, pc, pr, fc, fr, nm, vl⟩ : Ch) = 0 ∧ Sized (⟨ac, ar, sq, ds, kd, nc, nr, pc, pr, fc, fr, nm, vl⟩ : Ch)) := hc
  have HN : Hid (getP D ar sq = none) := hn
  obtain ⟨a0, c0, e0⟩ := hd.form
  subst e0
  obtain ⟨W0, eW⟩ : ∃ X, X = w.alloc (.cells #[.int .i64 ac, .int .i64 ar, .int .i64 sq, .slice a0 ds.length c0, .int .i64 kd, .int .i64 nc, .int .i64 nr, .int .i64 pc, .int .i64 pr, .int .i64 fc, .int .i64 fr, .string nm, .string vl] 35) := ⟨_, rfl⟩
  have hb0 : Below w.heap.size w W0 := by rw [eW]; exact (Below.refl _ _).alloc (Nat.le_refl _) _
  have HB : Hid (BelW w W0) := hb0
  have HK : Hid (W0.heap[w.heap.size]? = some (.cells #[.int .i64 ac, .int .i64 ar, .int .i64 sq, .slice a0 ds.length c0, .int .i64 kd, .int .i64 nc, .int .i64 nr, .int .i64 pc, .int .i64 pr, .int .i64 fc, .int .i64 fr, .string nm, .string vl] 35)) := by rw [eW]; exact heap_alloc_new _ _
  have HL : Hid (BufIs F W0 bb room mb D) := h.below hb0
  have HI : Hid (IsI W0 (.slice a0 ds.length c0) ds) := hd.below hb0
  clear h hd hb0 hc hn
  go_enter Try.func38, Try.ntmps38
  go_wp2
  rw [← eW]
  clear eW
  refine wp_region_held_drew (S := fun W' => W'.heap[w.heap.size]? = some (.cells #[.int .i64 ac, .int .i64 ar, .int .i64 sq, .slice a0 ds.length c0, .int .i64 kd, .int .i64 nc, .int .i64 nr, .int .i64 pc, .int .i64 pr, .int .i64 fc, .int .i64 fr, .string nm, .string vl] 35) ∧ W'.cell? ⟨bb, 1, none⟩ = some (.map (some mb))) (by kernel_rfl) ⟨HK.out, HL.out.cell1⟩ (fun hHeld => ?_)
  obtain ⟨Ua1u0, eW⟩ : ∃ X, X = W0.drew := ⟨_, rfl⟩
  have hb : Below W0.heap.size W0 Ua1u0 := by rw [eW]; exact (Below.refl _ _).drew
  replace HL : Hid (BufIs F Ua1u0 bb room mb D) := HL.out.below hb
  replace HB : Hid (BelW w Ua1u0) := HB.out.below hb
  replace HI : Hid (IsI Ua1u0 (.slice a0 ds.length c0) ds) := HI.out.below hb
  rw [← eW] at hHeld ⊢
  clear eW hb
  refine wpAnyH_take (i := 0) (oi := ⟨some 4, _, _, _, _, _⟩) (v := ?va1ux0) rfl (by kernel_rfl) (by kernel_rfl) (by kernel_rfl) (fun _ _ _ h => h) (Or.inl ⟨by rfl, ?hya1ux0⟩) hHeld ?resta1ux0
  case hya1ux0 => (intro w _; go_simp; try with_reducible rfl)
  simp only [Act.put, List.setIfInBounds_toArray, List.set_cons_zero, List.set_cons_succ]
  refine wpAnyH_take (i := 1) (oi := ⟨some 5, _, _, _, _, _⟩) (v := ?va1ux1) rfl (by kernel_rfl) (by kernel_rfl) (by kernel_rfl) (fun _ _ _ h => h) (Or.inl ⟨by rfl, ?hya1ux1⟩) hHeld ?resta1ux1
  case hya1ux1 => (intro w hSw; (try dsimp only at hSw); obtain ⟨hk, hc1⟩ := hSw; obtain ⟨k_0, k_1, k_2, k_3, k_4, k_5, k_6, k_7, k_8, k_9, k_10, k_11, k_12⟩ := row_cells hk; go_simp; try with_reducible rfl)
  simp only [Act.put, List.setIfInBounds_toArray, List.set_cons_zero, List.set_cons_succ]
  refine wpAnyH_take (i := 2) (oi := ⟨some 6, _, _, _, _, _⟩) (v := ?va1ux2) rfl (by kernel_rfl) (by kernel_rfl) (by kernel_rfl) (fun _ _ _ h => h) (Or.inl ⟨by rfl, ?hya1ux2⟩) hHeld ?resta1ux2
  case hya1ux2 => (intro w _; go_simp; try with_reducible rfl)
  simp only [Act.put, List.setIfInBounds_toArray, List.set_cons_zero, List.set_cons_succ]
  refine wpAnyH_take (i := 3) (oi := ⟨some 7, _, _, _, _, _⟩) (v := ?va1ux3) rfl (by kernel_rfl) (by kernel_rfl) (by kernel_rfl) (fun _ _ _ h => h) (Or.inl ⟨by rfl, ?hya1ux3⟩) hHeld ?resta1ux3
  case hya1ux3 => (intro w hSw; (try dsimp only at hSw); obtain ⟨hk, hc1⟩ := hSw; obtain ⟨k_0, k_1, k_2, k_3, k_4, k_5, k_6, k_7, k_8, k_9, k_10, k_11, k_12⟩ := row_cells hk; go_simp; try with_reducible rfl)
  simp only [Act.put, List.setIfInBounds_toArray, List.set_cons_zero, List.set_cons_succ]
  refine wpAnyH_take (i := 4) (oi := ⟨some 8, _, _, _, _, _⟩) (v := ?va1ux4) rfl (by kernel_rfl) (by kernel_rfl) (by kernel_rfl) (fun _ _ _ h => h) (Or.inl ⟨by rfl, ?hya1ux4⟩) hHeld ?resta1ux4
  case hya1ux4 => (intro w hSw; (try dsimp only at hSw); obtain ⟨hk, hc1⟩ := hSw; obtain ⟨k_0, k_1, k_2, k_3, k_4, k_5, k_6, k_7, k_8, k_9, k_10, k_11, k_12⟩ := row_cells hk; go_simp; try with_reducible rfl)
  simp only [Act.put, List.setIfInBounds_toArray, List.set_cons_zero, List.set_cons_succ]
  refine wpAnyH_take (i := 6) (oi := ⟨some 10, _, _, _, _, _⟩) (v := ?va1ux6) rfl (by kernel_rfl) (by kernel_rfl) (by kernel_rfl) (fun _ _ _ h => h) (Or.inl ⟨by rfl, ?hya1ux6⟩) hHeld ?resta1ux6
  case hya1ux6 => (intro w hSw; (try dsimp only at hSw); obtain ⟨hk, hc1⟩ := hSw; obtain ⟨k_0, k_1, k_2, k_3, k_4, k_5, k_6, k_7, k_8, k_9, k_10, k_11, k_12⟩ := row_cells hk; go_simp; try with_reducible rfl)
  simp only [Act.put, List.setIfInBounds_toArray, List.set_cons_zero, List.set_cons_succ]
  refine wpAnyH_ready (rs := [5]) (by kernel_rfl) (by simp) ?_
  refine AllReadyH.cons (o := ⟨some 9, _, _, _, _, _⟩) rfl (fun K hK => ?_) AllReadyH.nil
  go_simp
  refine (placeOf_any ac ar sq (.slice a0 ds.length c0) kd nc nr pc pr fc fr nm vl _).mono ?_
  rintro e Ua1u1 ⟨rfl, hb⟩
  (try go_wp2_with fail)
  refine hK.out _ _ (⟨(hb.block _ (Array.getElem?_eq_some_iff.1 hHeld.1).1).trans hHeld.1, (hb.cell (p := ⟨bb, 1, none⟩) (cell_lt hHeld.2)).trans hHeld.2⟩) (fun hHeld2 => ?_)
  clear hK K hHeld
  have hHeld := hHeld2
  clear hHeld2
  (try simp only [Act.put, List.setIfInBounds_toArray, List.set_cons_zero, List.set_cons_succ])
  replace HL : Hid (BufIs F Ua1u1 bb room mb D) := HL.out.below hb
  replace HB : Hid (BelW w Ua1u1) := HB.out.below hb
  replace HI : Hid (IsI Ua1u1 (.slice a0 ds.length c0) ds) := HI.out.below hb
  clear hb
  refine wpAnyH_ready (rs := [7]) (by kernel_rfl) (by simp) ?_
  refine AllReadyH.cons (o := ⟨some 11, _, _, _, _, _⟩) rfl (fun K hK => ?_) AllReadyH.nil
  have hW := (Array.getElem?_eq_some_iff.1 hHeld.1).1
  go_simp
  refine (copyCh_any ac ar sq (.slice a0 ds.length c0) kd nc nr pc pr fc fr nm vl ds _ HI.out).mono ?_
  rintro e Ua1u2 ⟨v2, rfl, ho, hb⟩
  (try go_wp2_with fail)
  refine hK.out _ _ (⟨(hb.block _ (Array.getElem?_eq_some_iff.1 hHeld.1).1).trans hHeld.1, (hb.cell (p := ⟨bb, 1, none⟩) (cell_lt hHeld.2)).trans hHeld.2⟩) (fun hHeld2 => ?_)
  clear hK K hHeld
  have hHeld := hHeld2
  clear hHeld2
  (try simp only [Act.put, List.setIfInBounds_toArray, List.set_cons_zero, List.set_cons_succ])
  replace HL : Hid (BufIs F Ua1u2 bb room mb D) := HL.out.below hb
  replace HB : Hid (BelW w Ua1u2) := HB.out.below hb
  replace HI : Hid (IsI Ua1u2 (.slice a0 ds.length c0) ds) := HI.out.below hb
  obtain ⟨a2, c2, e2⟩ := ho.form
  subst e2
  have HO : Hid (OwnI (w.heap.size + 1) Ua1u2 (.slice a2 ds.length c2) ds) := ho.low (by omega)
  clear ho hW
  clear hb
  refine wpAnyH_ready (rs := [8]) (by kernel_rfl) (by simp) ?_
  refine AllReadyH.cons (o := ⟨none, _, _, _, _, _⟩) rfl (fun K hK => ?_) AllReadyH.nil
  obtain ⟨Ua1u3, hst, hm2, hg2, hz2⟩ := store_pl HL.out.hmap (⟨ac, ar, sq, ds, kd, nc, nr, pc, pr, fc, fr, nm, vl⟩ : Ch) (.slice a2 ds.length c2) HN.out
  have hst2 : (Instr.mapUpdate 74 (.map (some mb)) (plV ar sq) (.agg #[.int .i64 ac, .int .i64 ar, .int .i64 sq, .slice a2 ds.length c2, .int .i64 kd, .int .i64 nc, .int .i64 nr, .int .i64 pc, .int .i64 pr, .int .i64 fc, .int .i64 fr, .string nm, .string vl])).run Try.prog Ua1u2 = .ok () Ua1u3 := hst
  clear hst
  have HR : Hid (PutR F w bb room mb D (⟨ac, ar, sq, ds, kd, nc, nr, pc, pr, fc, fr, nm, vl⟩ : Ch) Ua1u3) := putR_of HL.out hm2 hg2 HO.out HCk.out HN.out HB.out HFl.out
  have hk1 : Ua1u3.heap[w.heap.size]? = some (.cells #[.int .i64 ac, .int .i64 ar, .int .i64 sq, .slice a0 ds.length c0, .int .i64 kd, .int .i64 nc, .int .i64 nr, .int .i64 pc, .int .i64 pr, .int .i64 fc, .int .i64 fr, .string nm, .string vl] 35) := (hg2.block _ (Array.getElem?_eq_some_iff.1 hHeld.1).1 (fun e => by have h1 := HFl.out mb HL.out.fm; cases e; omega)).trans hHeld.1
  have hc1 : Ua1u3.cell? ⟨bb, 1, none⟩ = some (.map (some mb)) := HR.out.cell1
  go_simp
  refine hK.out _ _ (⟨hk1, hc1⟩) (fun hHeld2 => ?_)
  clear hK K hHeld
  have hHeld := hHeld2
  clear hHeld2
  (try simp only [Act.put, List.setIfInBounds_toArray, List.set_cons_zero, List.set_cons_succ])
  clear HL HI HO HB hst2 hm2 hg2 hz2 hk1 hc1
  refine wpAnyH_done (by kernel_rfl) ?_ _
  clear hHeld
  go_wp2
  go_end0
  exact ⟨⟨_, rfl⟩, HR.out⟩

end Go.Proofs.Ythndgmnckpimmaa
