/- The tree of a Doc with nothing in it; does the program answer? -/
import Derived.Test.YtngglnlphlembaaVtG
import Derived.Deep.Cut
namespace Go.Proofs.Ytngglnlphlembaa
open Go.RowKit
set_option linter.unusedVariables false
set_option linter.unusedSimpArgs false

theorem Touch.setNew {F : Nat → Prop} {w W : World} (h : Touch F w W) {b : Nat} (hb : w.heap.size ≤ b) (i : Nat) (v : Value) : Touch F w (W.setCell ⟨b, i, none⟩ v) := ⟨h.os, h.tape, h.output, by simp [World.setCell]; exact h.size, fun k hk hF => (RowKit.Below.heap_setCell _ _ _ _ (fun (e : k = b) => by omega)).trans (h.block k hk hF)⟩
theorem Touch.setRowNew {F : Nat → Prop} {w W : World} (h : Touch F w W) {b : Nat} (hb : w.heap.size ≤ b) (c : Array Value) : Touch F w (W.setRow b c) := ⟨h.os, h.tape, h.output, by simp; exact h.size, fun k hk hF => (setRow_other W b k c (by omega)).trans (h.block k hk hF)⟩
theorem Touch.belowW {F : Nat → Prop} {w W W' : World} (h : Touch F w W) (hb : Below W.heap.size W W') : Touch F w W' := Touch.trans h (Touch.of_below (F := F) hb) (fun j q => .inl q)
theorem row6f {W : World} {b : Nat} {cs : Array Value} {ty : TypeId} (h : W.heap[b]? = some (.cells cs ty)) (j : Nat) : W.frozen? ⟨b, j, none⟩ = false := frozen_of_row W b j _ _ h
theorem row_set6 {W : World} {b : Nat} {x0 x1 x2 x3 x4 x5 v0 v1 v2 v3 v4 v5 : Value} {ty : TypeId} (h : W.heap[b]? = some (.cells #[x0, x1, x2, x3, x4, x5] ty)) : ((((((W.setCell ⟨b, 0, none⟩ (v0)).setCell ⟨b, 1, none⟩ (v1)).setCell ⟨b, 2, none⟩ (v2)).setCell ⟨b, 3, none⟩ (v3)).setCell ⟨b, 4, none⟩ (v4)).setCell ⟨b, 5, none⟩ (v5)).heap[b]? = some (.cells #[v0, v1, v2, v3, v4, v5] ty) := by
  have h1 := heap_setCell_same W b 0 _ _ v0 h
  have h2 := heap_setCell_same _ b 1 _ _ v1 h1
  have h3 := heap_setCell_same _ b 2 _ _ v2 h2
  have h4 := heap_setCell_same _ b 3 _ _ v3 h3
  have h5 := heap_setCell_same _ b 4 _ _ v4 h4
  have h6 := heap_setCell_same _ b 5 _ _ v5 h5
  simpa using h6

theorem len_set {w : World} {b : Nat} {D : List St} (h : MapIs id kU w b D) : (Builtin.len_ #[64] 3 #[.map (some b)]).run Try.prog w = .ok (.int .i64 (D.length : Int)) w := by
  obtain ⟨es, cl, hb, he⟩ := h
  have hz : es.size = D.length := by
    have h1 := congrArg List.length he.ent
    simpa only [List.length_map, Array.length_toList] using h1
  simp [Builtin.len_, run_underlying Try.underlying64, run_underlying Try.underlying3, MapKept.run_getObj_map hb, hz, Result.andThen]
  rfl

theorem sizeVN : (Try.prog.info? 27).map (·.size) = some 6 := by kernel_rfl

/-- What stands while the root grows. -/
structure GrS (w : World) (pb ab nb : Nat) (s : St) (W : World) : Prop where
  key : W.heap[w.heap.size + 1]? = some (.cells #[.int .i64 s.1, .int .i64 s.2] 23)
  res : W.heap[w.heap.size + 2]? = some (.cells #[.int .i64 0, .int .i64 0, .string ⟨#[]⟩, .string ⟨#[]⟩, .slice none 0 0, .slice none 0 0] 27)
  doc : W.heap[nb]? = some (.cells #[.slice none 0 0, .slice none 0 0, .slice none 0 0, .slice none 0 0] 48)
  tch : Touch (fun k => k = pb ∨ k = ab) w W
  hi : w.heap.size + 2 < nb
theorem GrS.below {w W W' : World} {pb ab nb : Nat} {s : St} (h : GrS w pb ab nb s W) (hb : Below W.heap.size W W') : GrS w pb ab nb s W' := ⟨(hb.block _ (row_lt h.key)).trans h.key, (hb.block _ (row_lt h.res)).trans h.res, (hb.block _ (row_lt h.doc)).trans h.doc, h.tch.belowW hb, h.hi⟩
theorem GrS.setRow {w W : World} {pb ab nb b : Nat} {s : St} {c : Array Value} (h : GrS w pb ab nb s W) (hb : nb < b) : GrS w pb ab nb s (W.setRow b c) := by
  have hh := h.hi
  have hk : ∀ k, k ≠ b → (W.setRow b c).heap[k]? = W.heap[k]? := fun k hk => setRow_other W b k c hk
  have hs := h.tch.size
  exact ⟨(hk _ (by omega)).trans h.key, (hk _ (by omega)).trans h.res, (hk _ (by omega)).trans h.doc, ⟨h.tch.os, h.tch.tape, h.tch.output, by simp; exact hs, fun k hl hF => (hk k (by omega)).trans (h.tch.block k hl hF)⟩, h.hi⟩

set_option maxRecDepth 100000 in
set_option maxHeartbeats 8000000 in
theorem grow_first (pb ab : Nat) (s : St) (tg : ByteArray) (w : World) (hp : MapIs Prod.fst Prod.snd w pb ([] : List (St × Value))) (ha : MapIs id kU w ab ([] : List St)) (hne : pb ≠ ab) :
    Calls Try.prog 23 #[.agg #[.map (some pb), .map (some ab)], .agg #[.int .i64 s.1, .int .i64 s.2], .string tg] w fun e w' => e = .returned (.tuple #[.agg #[.int .i64 s.1, .int .i64 s.2, .string tg, .string ⟨#[]⟩, .slice none 0 0, .slice none 0 0], .bool true]) ∧ Touch (fun k => k = pb ∨ k = ab) w w' := by
  obtain ⟨W0, eW0⟩ : ∃ X, X = (((w.alloc (.cells #[.map (some pb), .map (some ab)] 66)).alloc (.cells #[.int .i64 s.1, .int .i64 s.2] 23)).alloc (.cells #[.int .i64 0, .int .i64 0, .string ⟨#[]⟩, .string ⟨#[]⟩, .slice none 0 0, .slice none 0 0] 27)) := ⟨_, rfl⟩
  have hb0 : Below w.heap.size w W0 := (by rw [eW0]; exact (((Below.refl _ _).alloc (Nat.le_refl _) _).alloc (by simp <;> omega) _).alloc (by simp <;> omega) _)
  have hs0 : W0.heap.size = w.heap.size + 3 := (by rw [eW0]; simp)
  have hA0 : W0.heap[w.heap.size]? = some (.cells #[.map (some pb), .map (some ab)] 66) := (by rw [eW0, Below.heap_alloc _ _ _ (by simp <;> omega), Below.heap_alloc _ _ _ (by simp <;> omega)]; exact heap_alloc_new _ _)
  have hA1 : W0.heap[w.heap.size + 1]? = some (.cells #[.int .i64 s.1, .int .i64 s.2] 23) := (by rw [eW0, Below.heap_alloc _ _ _ (by simp <;> omega)]; have h9 := heap_alloc_new (w.alloc (.cells #[.map (some pb), .map (some ab)] 66)) (.cells #[.int .i64 s.1, .int .i64 s.2] 23); rw [show (w.alloc (.cells #[.map (some pb), .map (some ab)] 66)).heap.size = w.heap.size + 1 by simp] at h9; exact h9)
  have hA2 : W0.heap[w.heap.size + 2]? = some (.cells #[.int .i64 0, .int .i64 0, .string ⟨#[]⟩, .string ⟨#[]⟩, .slice none 0 0, .slice none 0 0] 27) := (by rw [eW0]; have h9 := heap_alloc_new ((w.alloc (.cells #[.map (some pb), .map (some ab)] 66)).alloc (.cells #[.int .i64 s.1, .int .i64 s.2] 23)) (.cells #[.int .i64 0, .int .i64 0, .string ⟨#[]⟩, .string ⟨#[]⟩, .slice none 0 0, .slice none 0 0] 27); rw [show ((w.alloc (.cells #[.map (some pb), .map (some ab)] 66)).alloc (.cells #[.int .i64 s.1, .int .i64 s.2] 23)).heap.size = w.heap.size + 2 by simp] at h9; exact h9)
  have hpl := hp.lt
  have hal := ha.lt
  have p0 := hp.keep (hb0.block _ hp.lt)
  have a0 := ha.keep (hb0.block _ ha.lt)
  have hln := len_set a0
  obtain ⟨Wm, hup, hgr, hsz, _⟩ := store_st 64 70 uSet a0 s
  have hup2 : (Instr.mapUpdate 64 (.map (some ab)) (.agg #[.int .i64 s.1, .int .i64 s.2]) (.agg #[])).run Try.prog W0 = .ok () Wm := hup
  have hk : ∀ k, k < W0.heap.size → k ≠ ab → Wm.heap[k]? = W0.heap[k]? := fun k h1 h2 => hgr.block k h1 (fun e => by injection e with e; exact h2 e)
  have hM0 := (hk _ (by omega) (by omega)).trans hA0
  have hM1 := (hk _ (by omega) (by omega)).trans hA1
  have hM2 := (hk _ (by omega) (by omega)).trans hA2
  have pm := p0.keep (hk pb (by omega) hne)
  have ht : Touch (fun k => k = pb ∨ k = ab) w Wm := Touch.trans (Touch.of_below hb0) (Touch.of_grown (F := fun k => k = pb ∨ k = ab) hgr (fun k e _ => by cases e; exact .inr rfl)) (fun j q => .inl q)
  have g0 : Wm.cell? ⟨w.heap.size, 0, none⟩ = some (.map (some pb)) := (by rw [cell_of_row _ _ _ _ _ _ hM0]; rfl)
  have g1 : Wm.cell? ⟨w.heap.size + 1, 0, none⟩ = some (.int .i64 s.1) := (by rw [cell_of_row _ _ _ _ _ _ hM1]; rfl)
  have g2 : Wm.cell? ⟨w.heap.size + 1, 1, none⟩ = some (.int .i64 s.2) := (by rw [cell_of_row _ _ _ _ _ _ hM1]; rfl)
  have HPm := hide9 pm
  have HMs : Hid (Wm.heap.size = w.heap.size + 3) := (by show _ = _; rw [hsz, hs0])
  have HM12 := hide9 (And.intro hM1 (And.intro hM2 ht))
  have Hne : Hid (pb < w.heap.size) := hpl
  rw [eW0] at hln hup2
  clear hup hgr hsz hk hM0 hM1 hM2 ht pm p0 a0 hA0 hA1 hA2 hb0 hs0 hp ha eW0 hpl hal
  go_enter Try.func23, Try.ntmps23
  go_wp2_with fail
  clear g0 g1 g2 hln hup2
  refine (of_first pb s _ HPm.out).mono ?_
  rintro e W5 ⟨rfl, hd5, ht5⟩
  obtain ⟨nb, enb⟩ : ∃ b, b = Wm.heap.size + 1 := ⟨_, rfl⟩
  rw [← enb] at hd5 ⊢
  have HG : Hid (GrS w pb ab nb s W5) := ⟨(ht5.block _ (row_lt HM12.out.1) (by have := Hne.out; omega)).trans HM12.out.1, (ht5.block _ (row_lt HM12.out.2.1) (by have := Hne.out; omega)).trans HM12.out.2.1, hd5, Touch.trans HM12.out.2.2 ht5 (fun j q => .inl (.inl q)), by have := HMs.out; omega⟩
  clear hd5 ht5 HPm HM12 HMs enb
  go_wp2
  refine wp_region_held_drew (S := fun W' => GrS w pb ab nb s W') (by kernel_rfl) (HG.out.below (Below.refl _ _).drew) (fun hHeld => ?_)
  obtain ⟨Ug1u0, eW⟩ : ∃ X, X = W5.drew := ⟨_, rfl⟩
  have hb : Below W5.heap.size W5 Ug1u0 := by rw [eW]; exact (Below.refl _ _).drew
  replace HG : Hid (GrS w pb ab nb s Ug1u0) := HG.out.below hb
  rw [← eW] at hHeld ⊢
  clear eW hb
  refine tkW 0 (some 31) (v := ?_) ?_ hHeld ?_
  rotate_left
  · (intro ww hSw; (try dsimp only at hSw); have c0 : ww.cell? ⟨w.heap.size + 1, 0, none⟩ = some (.int .i64 s.1) := (by rw [cell_of_row _ _ _ _ _ _ hSw.key]; rfl); have c1 : ww.cell? ⟨w.heap.size + 1, 1, none⟩ = some (.int .i64 s.2) := (by rw [cell_of_row _ _ _ _ _ _ hSw.key]; rfl); go_simp; try with_reducible rfl)
  refine tkW 1 (some 32) (v := ?_) ?_ hHeld ?_
  rotate_left
  · (intro ww _; go_simp; try with_reducible rfl)
  refine tkW 2 (some 33) (v := ?_) ?_ hHeld ?_
  rotate_left
  · (intro ww _; go_simp; try with_reducible rfl)
  refine tkW 3 (some 34) (v := ?_) ?_ hHeld ?_
  rotate_left
  · (intro ww hSw; (try dsimp only at hSw); go_simp; try with_reducible rfl)
  refine tkW 4 (some 35) (v := ?_) ?_ hHeld ?_
  rotate_left
  · (intro ww _; go_simp; try with_reducible rfl)
  refine tkW 5 (some 36) (v := ?_) ?_ hHeld ?_
  rotate_left
  · (intro ww hSw; (try dsimp only at hSw); have d3 : ww.cell? ⟨nb, 3, none⟩ = some (.slice none 0 0) := (by rw [cell_of_row _ _ _ _ _ _ hSw.doc]; rfl); go_simp; try with_reducible rfl)
  refine tkW 7 (some 38) (v := ?_) ?_ hHeld ?_
  rotate_left
  · (intro ww _; go_simp; try with_reducible rfl)
  refine tkW 8 (some 39) (v := ?_) ?_ hHeld ?_
  rotate_left
  · (intro ww hSw; (try dsimp only at hSw); go_simp; try with_reducible rfl)
  refine tkW 9 (some 40) (v := ?_) ?_ hHeld ?_
  rotate_left
  · (intro ww _; go_simp; try with_reducible rfl)
  refine tkW 10 (some 41) (v := ?_) ?_ hHeld ?_
  rotate_left
  · (intro ww hSw; (try dsimp only at hSw); have d3 : ww.cell? ⟨nb, 3, none⟩ = some (.slice none 0 0) := (by rw [cell_of_row _ _ _ _ _ _ hSw.doc]; rfl); go_simp; try with_reducible rfl)
  refine wpAnyH_ready (rs := [6, 13]) (by kernel_rfl) (by simp) ?_
  refine AllReadyH.cons (o := ⟨some 37, _, _, _, _, _⟩) rfl (fun K hK => ?_) (AllReadyH.cons (o := ⟨some 9, _, _, _, _, _⟩) rfl (fun K hK => ?_) AllReadyH.nil)
  · go_simp
    refine (text_nil _).mono ?_
    rintro e w9 ⟨rfl, hw⟩
    replace hw := hw.symm
    subst hw
    (try go_wp2_with fail)
    refine hK.out _ _ (hHeld) (fun hHeld2 => ?_)
    clear hK K hHeld
    have hHeld := hHeld2
    clear hHeld2
    (try simp only [Act.put, List.setIfInBounds_toArray, List.set_cons_zero, List.set_cons_succ])
    refine wpAnyH_ready (rs := [11, 13]) (by kernel_rfl) (by simp) ?_
    refine AllReadyH.cons (o := ⟨some 42, _, _, _, _, _⟩) rfl (fun K hK => ?_) (AllReadyH.cons (o := ⟨some 9, _, _, _, _, _⟩) rfl (fun K hK => ?_) AllReadyH.nil)
    · go_simp
      refine (attrs_nil _).mono ?_
      rintro e w9 ⟨rfl, hw⟩
      replace hw := hw.symm
      subst hw
      (try go_wp2_with fail)
      refine hK.out _ _ (hHeld) (fun hHeld2 => ?_)
      clear hK K hHeld
      have hHeld := hHeld2
      clear hHeld2
      (try simp only [Act.put, List.setIfInBounds_toArray, List.set_cons_zero, List.set_cons_succ])
      refine tkW 12 (some 43) (v := ?_) ?_ hHeld ?_
      rotate_left
      · (intro ww hSw; (try dsimp only at hSw); go_simp; try with_reducible rfl)
      refine wpAnyH_ready (rs := [13]) (by kernel_rfl) (by simp) ?_
      refine AllReadyH.cons (o := ⟨some 9, _, _, _, _, _⟩) rfl (fun K hK => ?_) AllReadyH.nil
      have HG0 := HG
      have hbx : Below Ug1u0.heap.size Ug1u0 (Ug1u0.alloc (.cells #[.int .i64 0, .int .i64 0, .string ⟨#[]⟩, .string ⟨#[]⟩, .slice none 0 0, .slice none 0 0] 27)) := (Below.refl _ _).alloc (Nat.le_refl _) _
      go_simp
      refine hK.out _ _ (hHeld.below hbx) (fun hHeld2 => ?_)
      clear hK K hHeld
      have hHeld := hHeld2
      clear hHeld2
      (try simp only [Act.put, List.setIfInBounds_toArray, List.set_cons_zero, List.set_cons_succ])
      obtain ⟨Ug1u3, eW⟩ : ∃ X, X = Ug1u0.alloc (.cells #[.int .i64 0, .int .i64 0, .string ⟨#[]⟩, .string ⟨#[]⟩, .slice none 0 0, .slice none 0 0] 27) := ⟨_, rfl⟩
      have hb : Below Ug1u0.heap.size Ug1u0 Ug1u3 := by rw [eW]; exact (Below.refl _ _).alloc (Nat.le_refl _) _
      replace HG : Hid (GrS w pb ab nb s Ug1u3) := HG.out.below hb
      have HZ : Hid (Ug1u3.heap[Ug1u0.heap.size]? = some (.cells #[.int .i64 0, .int .i64 0, .string ⟨#[]⟩, .string ⟨#[]⟩, .slice none 0 0, .slice none 0 0] 27)) := by rw [eW]; exact heap_alloc_new _ _
      rw [← eW] at hHeld ⊢
      clear eW
      clear hbx
      obtain ⟨xb, enb⟩ : ∃ b, b = Ug1u0.heap.size := ⟨_, rfl⟩
      have Hxb : Hid (nb < xb) := (by show _ < _; rw [enb]; exact row_lt HG0.out.doc)
      rw [← enb] at HZ ⊢
      clear enb
      clear HG0
      clear hb
      refine wpAnyH_ready (rs := [14]) (by kernel_rfl) (by simp) ?_
      refine AllReadyH.cons (o := ⟨none, _, _, _, _, _⟩) rfl (fun K hK => ?_) AllReadyH.nil
      refine step_store_row rfl 27 (.tmp 9) (.tmp 43) rfl xb 27 #[.int .i64 0, .int .i64 0, .string ⟨#[]⟩, .string ⟨#[]⟩, .slice none 0 0, .slice none 0 0] #[.int .i64 s.1, .int .i64 s.2, .string tg, .string ⟨#[]⟩, .slice none 0 0, .slice none 0 0] rfl rfl HZ.out sizeVN rfl (by simp [Value.oneCell']) ?_
      refine hK.out _ _ (hHeld.setRow Hxb.out) (fun hHeld2 => ?_)
      clear hK K hHeld
      have hHeld := hHeld2
      clear hHeld2
      (try simp only [Act.put, List.setIfInBounds_toArray, List.set_cons_zero, List.set_cons_succ])
      obtain ⟨Ug1u4, eWn⟩ : ∃ X, X = Ug1u3.setRow xb #[.int .i64 s.1, .int .i64 s.2, .string tg, .string ⟨#[]⟩, .slice none 0 0, .slice none 0 0] := ⟨_, rfl⟩
      rw [← eWn] at hHeld ⊢
      replace HG : Hid (GrS w pb ab nb s Ug1u4) := (by rw [eWn]; exact HG.out.setRow Hxb.out)
      have HN : Hid (Ug1u4.heap[xb]? = some (.cells #[.int .i64 s.1, .int .i64 s.2, .string tg, .string ⟨#[]⟩, .slice none 0 0, .slice none 0 0] 27)) := (by rw [eWn]; exact setRow_same HZ.out)
      clear eWn HZ
      refine wpAnyH_done (by kernel_rfl) ?_ _
      clear hHeld
      go_wp2
      refine wp_region_held_drew (S := fun W' => GrS w pb ab nb s W') (by kernel_rfl) (HG.out.below (Below.refl _ _).drew) (fun hHeld => ?_)
      obtain ⟨Uh2u0, eW⟩ : ∃ X, X = Ug1u4.drew := ⟨_, rfl⟩
      have hb : Below Ug1u4.heap.size Ug1u4 Uh2u0 := by rw [eW]; exact (Below.refl _ _).drew
      replace HG : Hid (GrS w pb ab nb s Uh2u0) := HG.out.below hb
      replace HN : Hid (Uh2u0.heap[xb]? = some (.cells #[.int .i64 s.1, .int .i64 s.2, .string tg, .string ⟨#[]⟩, .slice none 0 0, .slice none 0 0] 27)) := (hb.block _ (row_lt HN.out)).trans HN.out
      rw [← eW] at hHeld ⊢
      clear eW hb
      refine tkW 0 (some 44) (v := ?_) ?_ hHeld ?_
      rotate_left
      · (intro ww _; go_simp; try with_reducible rfl)
      refine tkW 1 (some 45) (v := ?_) ?_ hHeld ?_
      rotate_left
      · (intro ww hSw; (try dsimp only at hSw); go_simp; try with_reducible rfl)
      refine tkW 2 (some 46) (v := ?_) ?_ hHeld ?_
      rotate_left
      · (intro ww hSw; (try dsimp only at hSw); have d0 : ww.cell? ⟨nb, 0, none⟩ = some (.slice none 0 0) := (by rw [cell_of_row _ _ _ _ _ _ hSw.doc]; rfl); have d1 : ww.cell? ⟨nb, 1, none⟩ = some (.slice none 0 0) := (by rw [cell_of_row _ _ _ _ _ _ hSw.doc]; rfl); have d2 : ww.cell? ⟨nb, 2, none⟩ = some (.slice none 0 0) := (by rw [cell_of_row _ _ _ _ _ _ hSw.doc]; rfl); have d3 : ww.cell? ⟨nb, 3, none⟩ = some (.slice none 0 0) := (by rw [cell_of_row _ _ _ _ _ _ hSw.doc]; rfl); go_simp; try with_reducible rfl)
      refine tkW 3 (some 47) (v := ?_) ?_ hHeld ?_
      rotate_left
      · (intro ww hSw; (try dsimp only at hSw); have c0 : ww.cell? ⟨w.heap.size + 1, 0, none⟩ = some (.int .i64 s.1) := (by rw [cell_of_row _ _ _ _ _ _ hSw.key]; rfl); have c1 : ww.cell? ⟨w.heap.size + 1, 1, none⟩ = some (.int .i64 s.2) := (by rw [cell_of_row _ _ _ _ _ _ hSw.key]; rfl); go_simp; try with_reducible rfl)
      refine tkW 6 (some 50) (v := ?_) ?_ hHeld ?_
      rotate_left
      · (intro ww _; go_simp; try with_reducible rfl)
      refine wpAnyH_ready (rs := [4]) (by kernel_rfl) (by simp) ?_
      refine AllReadyH.cons (o := ⟨some 48, _, _, _, _, _⟩) rfl (fun K hK => ?_) AllReadyH.nil
      go_simp
      refine (kids_nil s _).mono ?_
      rintro e Uh2u1 ⟨rfl, hb⟩
      (try go_wp2_with fail)
      refine hK.out _ _ (hHeld.below hb) (fun hHeld2 => ?_)
      clear hK K hHeld
      have hHeld := hHeld2
      clear hHeld2
      (try simp only [Act.put, List.setIfInBounds_toArray, List.set_cons_zero, List.set_cons_succ])
      replace HG : Hid (GrS w pb ab nb s Uh2u1) := HG.out.below hb
      replace HN : Hid (Uh2u1.heap[xb]? = some (.cells #[.int .i64 s.1, .int .i64 s.2, .string tg, .string ⟨#[]⟩, .slice none 0 0, .slice none 0 0] 27)) := (hb.block _ (row_lt HN.out)).trans HN.out
      clear hb
      refine tkW 5 (some 49) (v := ?_) ?_ hHeld ?_
      rotate_left
      · (intro ww hSw; (try dsimp only at hSw); go_simp; try with_reducible rfl)
      refine wpAnyH_done (by kernel_rfl) ?_ _
      clear hHeld
      go_wp2
      go_loopw [50] (fun iv wr => iv = .int .i64 0 ∧ wr = Uh2u1) (fun _ _ => 0)
      case atStart => exact ⟨rfl, rfl⟩
      case round =>
        obtain ⟨rfl, rfl⟩ := hrel
        obtain ⟨n0, n1, n2, n3, n4, n5⟩ := row6 HN.out
        have HE : Hid ((wr.setRow (w.heap.size + 2) #[.int .i64 s.1, .int .i64 s.2, .string tg, .string ⟨#[]⟩, .slice none 0 0, .slice none 0 0]).heap[w.heap.size + 2]? = some (.cells #[.int .i64 s.1, .int .i64 s.2, .string tg, .string ⟨#[]⟩, .slice none 0 0, .slice none 0 0] 27)) := setRow_same HG.out.res
        have HT : Hid (Touch (fun k => k = pb ∨ k = ab) w (wr.setRow (w.heap.size + 2) #[.int .i64 s.1, .int .i64 s.2, .string tg, .string ⟨#[]⟩, .slice none 0 0, .slice none 0 0])) := HG.out.tch.setRowNew (by omega) _
        have HR := hide9 HG.out.res
        clear HG HN
        go_wp2_with (refine wpList_store_row rfl 27 (.tmp 6) (.tmp 94) rfl (w.heap.size + 2) 27 #[.int .i64 0, .int .i64 0, .string ⟨#[]⟩, .string ⟨#[]⟩, .slice none 0 0, .slice none 0 0] #[.int .i64 s.1, .int .i64 s.2, .string tg, .string ⟨#[]⟩, .slice none 0 0, .slice none 0 0] rfl rfl HR.out sizeVN rfl (by simp [Value.oneCell']) ?_)
        refine bodyPost_ret (results_cell_row2 rfl _ _ (w.heap.size + 2) _ _ _ _ rfl HE.out Try.underlying27 rfl sizeVN rfl) rfl ?_
        exact ⟨rfl, HT.out⟩
    · have HG0 := HG
      have hbx : Below Ug1u0.heap.size Ug1u0 (Ug1u0.alloc (.cells #[.int .i64 0, .int .i64 0, .string ⟨#[]⟩, .string ⟨#[]⟩, .slice none 0 0, .slice none 0 0] 27)) := (Below.refl _ _).alloc (Nat.le_refl _) _
      go_simp
      refine hK.out _ _ (hHeld.below hbx) (fun hHeld2 => ?_)
      clear hK K hHeld
      have hHeld := hHeld2
      clear hHeld2
      (try simp only [Act.put, List.setIfInBounds_toArray, List.set_cons_zero, List.set_cons_succ])
      obtain ⟨Ug1u5, eW⟩ : ∃ X, X = Ug1u0.alloc (.cells #[.int .i64 0, .int .i64 0, .string ⟨#[]⟩, .string ⟨#[]⟩, .slice none 0 0, .slice none 0 0] 27) := ⟨_, rfl⟩
      have hb : Below Ug1u0.heap.size Ug1u0 Ug1u5 := by rw [eW]; exact (Below.refl _ _).alloc (Nat.le_refl _) _
      replace HG : Hid (GrS w pb ab nb s Ug1u5) := HG.out.below hb
      have HZ : Hid (Ug1u5.heap[Ug1u0.heap.size]? = some (.cells #[.int .i64 0, .int .i64 0, .string ⟨#[]⟩, .string ⟨#[]⟩, .slice none 0 0, .slice none 0 0] 27)) := by rw [eW]; exact heap_alloc_new _ _
      rw [← eW] at hHeld ⊢
      clear eW
      clear hbx
      obtain ⟨xb, enb⟩ : ∃ b, b = Ug1u0.heap.size := ⟨_, rfl⟩
      have Hxb : Hid (nb < xb) := (by show _ < _; rw [enb]; exact row_lt HG0.out.doc)
      rw [← enb] at HZ ⊢
      clear enb
      clear HG0
      clear hb
      refine wpAnyH_ready (rs := [11]) (by kernel_rfl) (by simp) ?_
      refine AllReadyH.cons (o := ⟨some 42, _, _, _, _, _⟩) rfl (fun K hK => ?_) AllReadyH.nil
      go_simp
      refine (attrs_nil _).mono ?_
      rintro e w9 ⟨rfl, hw⟩
      replace hw := hw.symm
      subst hw
      (try go_wp2_with fail)
      refine hK.out _ _ (hHeld) (fun hHeld2 => ?_)
      clear hK K hHeld
      have hHeld := hHeld2
      clear hHeld2
      (try simp only [Act.put, List.setIfInBounds_toArray, List.set_cons_zero, List.set_cons_succ])
      refine tkW 12 (some 43) (v := ?_) ?_ hHeld ?_
      rotate_left
      · (intro ww hSw; (try dsimp only at hSw); go_simp; try with_reducible rfl)
      refine wpAnyH_ready (rs := [14]) (by kernel_rfl) (by simp) ?_
      refine AllReadyH.cons (o := ⟨none, _, _, _, _, _⟩) rfl (fun K hK => ?_) AllReadyH.nil
      refine step_store_row rfl 27 (.tmp 9) (.tmp 43) rfl xb 27 #[.int .i64 0, .int .i64 0, .string ⟨#[]⟩, .string ⟨#[]⟩, .slice none 0 0, .slice none 0 0] #[.int .i64 s.1, .int .i64 s.2, .string tg, .string ⟨#[]⟩, .slice none 0 0, .slice none 0 0] rfl rfl HZ.out sizeVN rfl (by simp [Value.oneCell']) ?_
      refine hK.out _ _ (hHeld.setRow Hxb.out) (fun hHeld2 => ?_)
      clear hK K hHeld
      have hHeld := hHeld2
      clear hHeld2
      (try simp only [Act.put, List.setIfInBounds_toArray, List.set_cons_zero, List.set_cons_succ])
      obtain ⟨Ug1u7, eWn⟩ : ∃ X, X = Ug1u5.setRow xb #[.int .i64 s.1, .int .i64 s.2, .string tg, .string ⟨#[]⟩, .slice none 0 0, .slice none 0 0] := ⟨_, rfl⟩
      rw [← eWn] at hHeld ⊢
      replace HG : Hid (GrS w pb ab nb s Ug1u7) := (by rw [eWn]; exact HG.out.setRow Hxb.out)
      have HN : Hid (Ug1u7.heap[xb]? = some (.cells #[.int .i64 s.1, .int .i64 s.2, .string tg, .string ⟨#[]⟩, .slice none 0 0, .slice none 0 0] 27)) := (by rw [eWn]; exact setRow_same HZ.out)
      clear eWn HZ
      refine wpAnyH_done (by kernel_rfl) ?_ _
      clear hHeld
      go_wp2
      refine wp_region_held_drew (S := fun W' => GrS w pb ab nb s W') (by kernel_rfl) (HG.out.below (Below.refl _ _).drew) (fun hHeld => ?_)
      obtain ⟨Uh3u0, eW⟩ : ∃ X, X = Ug1u7.drew := ⟨_, rfl⟩
      have hb : Below Ug1u7.heap.size Ug1u7 Uh3u0 := by rw [eW]; exact (Below.refl _ _).drew
      replace HG : Hid (GrS w pb ab nb s Uh3u0) := HG.out.below hb
      replace HN : Hid (Uh3u0.heap[xb]? = some (.cells #[.int .i64 s.1, .int .i64 s.2, .string tg, .string ⟨#[]⟩, .slice none 0 0, .slice none 0 0] 27)) := (hb.block _ (row_lt HN.out)).trans HN.out
      rw [← eW] at hHeld ⊢
      clear eW hb
      refine tkW 0 (some 44) (v := ?_) ?_ hHeld ?_
      rotate_left
      · (intro ww _; go_simp; try with_reducible rfl)
      refine tkW 1 (some 45) (v := ?_) ?_ hHeld ?_
      rotate_left
      · (intro ww hSw; (try dsimp only at hSw); go_simp; try with_reducible rfl)
      refine tkW 2 (some 46) (v := ?_) ?_ hHeld ?_
      rotate_left
      · (intro ww hSw; (try dsimp only at hSw); have d0 : ww.cell? ⟨nb, 0, none⟩ = some (.slice none 0 0) := (by rw [cell_of_row _ _ _ _ _ _ hSw.doc]; rfl); have d1 : ww.cell? ⟨nb, 1, none⟩ = some (.slice none 0 0) := (by rw [cell_of_row _ _ _ _ _ _ hSw.doc]; rfl); have d2 : ww.cell? ⟨nb, 2, none⟩ = some (.slice none 0 0) := (by rw [cell_of_row _ _ _ _ _ _ hSw.doc]; rfl); have d3 : ww.cell? ⟨nb, 3, none⟩ = some (.slice none 0 0) := (by rw [cell_of_row _ _ _ _ _ _ hSw.doc]; rfl); go_simp; try with_reducible rfl)
      refine tkW 3 (some 47) (v := ?_) ?_ hHeld ?_
      rotate_left
      · (intro ww hSw; (try dsimp only at hSw); have c0 : ww.cell? ⟨w.heap.size + 1, 0, none⟩ = some (.int .i64 s.1) := (by rw [cell_of_row _ _ _ _ _ _ hSw.key]; rfl); have c1 : ww.cell? ⟨w.heap.size + 1, 1, none⟩ = some (.int .i64 s.2) := (by rw [cell_of_row _ _ _ _ _ _ hSw.key]; rfl); go_simp; try with_reducible rfl)
      refine tkW 6 (some 50) (v := ?_) ?_ hHeld ?_
      rotate_left
      · (intro ww _; go_simp; try with_reducible rfl)
      refine wpAnyH_ready (rs := [4]) (by kernel_rfl) (by simp) ?_
      refine AllReadyH.cons (o := ⟨some 48, _, _, _, _, _⟩) rfl (fun K hK => ?_) AllReadyH.nil
      go_simp
      refine (kids_nil s _).mono ?_
      rintro e Uh3u1 ⟨rfl, hb⟩
      (try go_wp2_with fail)
      refine hK.out _ _ (hHeld.below hb) (fun hHeld2 => ?_)
      clear hK K hHeld
      have hHeld := hHeld2
      clear hHeld2
      (try simp only [Act.put, List.setIfInBounds_toArray, List.set_cons_zero, List.set_cons_succ])
      replace HG : Hid (GrS w pb ab nb s Uh3u1) := HG.out.below hb
      replace HN : Hid (Uh3u1.heap[xb]? = some (.cells #[.int .i64 s.1, .int .i64 s.2, .string tg, .string ⟨#[]⟩, .slice none 0 0, .slice none 0 0] 27)) := (hb.block _ (row_lt HN.out)).trans HN.out
      clear hb
      refine tkW 5 (some 49) (v := ?_) ?_ hHeld ?_
      rotate_left
      · (intro ww hSw; (try dsimp only at hSw); go_simp; try with_reducible rfl)
      refine wpAnyH_done (by kernel_rfl) ?_ _
      clear hHeld
      go_wp2
      go_loopw [50] (fun iv wr => iv = .int .i64 0 ∧ wr = Uh3u1) (fun _ _ => 0)
      case atStart => exact ⟨rfl, rfl⟩
      case round =>
        obtain ⟨rfl, rfl⟩ := hrel
        obtain ⟨n0, n1, n2, n3, n4, n5⟩ := row6 HN.out
        have HE : Hid ((wr.setRow (w.heap.size + 2) #[.int .i64 s.1, .int .i64 s.2, .string tg, .string ⟨#[]⟩, .slice none 0 0, .slice none 0 0]).heap[w.heap.size + 2]? = some (.cells #[.int .i64 s.1, .int .i64 s.2, .string tg, .string ⟨#[]⟩, .slice none 0 0, .slice none 0 0] 27)) := setRow_same HG.out.res
        have HT : Hid (Touch (fun k => k = pb ∨ k = ab) w (wr.setRow (w.heap.size + 2) #[.int .i64 s.1, .int .i64 s.2, .string tg, .string ⟨#[]⟩, .slice none 0 0, .slice none 0 0])) := HG.out.tch.setRowNew (by omega) _
        have HR := hide9 HG.out.res
        clear HG HN
        go_wp2_with (refine wpList_store_row rfl 27 (.tmp 6) (.tmp 94) rfl (w.heap.size + 2) 27 #[.int .i64 0, .int .i64 0, .string ⟨#[]⟩, .string ⟨#[]⟩, .slice none 0 0, .slice none 0 0] #[.int .i64 s.1, .int .i64 s.2, .string tg, .string ⟨#[]⟩, .slice none 0 0, .slice none 0 0] rfl rfl HR.out sizeVN rfl (by simp [Value.oneCell']) ?_)
        refine bodyPost_ret (results_cell_row2 rfl _ _ (w.heap.size + 2) _ _ _ _ rfl HE.out Try.underlying27 rfl sizeVN rfl) rfl ?_
        exact ⟨rfl, HT.out⟩
  · have HG0 := HG
    have hbx : Below Ug1u0.heap.size Ug1u0 (Ug1u0.alloc (.cells #[.int .i64 0, .int .i64 0, .string ⟨#[]⟩, .string ⟨#[]⟩, .slice none 0 0, .slice none 0 0] 27)) := (Below.refl _ _).alloc (Nat.le_refl _) _
    go_simp
    refine hK.out _ _ (hHeld.below hbx) (fun hHeld2 => ?_)
    clear hK K hHeld
    have hHeld := hHeld2
    clear hHeld2
    (try simp only [Act.put, List.setIfInBounds_toArray, List.set_cons_zero, List.set_cons_succ])
    obtain ⟨Ug1u8, eW⟩ : ∃ X, X = Ug1u0.alloc (.cells #[.int .i64 0, .int .i64 0, .string ⟨#[]⟩, .string ⟨#[]⟩, .slice none 0 0, .slice none 0 0] 27) := ⟨_, rfl⟩
    have hb : Below Ug1u0.heap.size Ug1u0 Ug1u8 := by rw [eW]; exact (Below.refl _ _).alloc (Nat.le_refl _) _
    replace HG : Hid (GrS w pb ab nb s Ug1u8) := HG.out.below hb
    have HZ : Hid (Ug1u8.heap[Ug1u0.heap.size]? = some (.cells #[.int .i64 0, .int .i64 0, .string ⟨#[]⟩, .string ⟨#[]⟩, .slice none 0 0, .slice none 0 0] 27)) := by rw [eW]; exact heap_alloc_new _ _
    rw [← eW] at hHeld ⊢
    clear eW
    clear hbx
    obtain ⟨xb, enb⟩ : ∃ b, b = Ug1u0.heap.size := ⟨_, rfl⟩
    have Hxb : Hid (nb < xb) := (by show _ < _; rw [enb]; exact row_lt HG0.out.doc)
    rw [← enb] at HZ ⊢
    clear enb
    clear HG0
    clear hb
    refine wpAnyH_ready (rs := [6]) (by kernel_rfl) (by simp) ?_
    refine AllReadyH.cons (o := ⟨some 37, _, _, _, _, _⟩) rfl (fun K hK => ?_) AllReadyH.nil
    go_simp
    refine (text_nil _).mono ?_
    rintro e w9 ⟨rfl, hw⟩
    replace hw := hw.symm
    subst hw
    (try go_wp2_with fail)
    refine hK.out _ _ (hHeld) (fun hHeld2 => ?_)
    clear hK K hHeld
    have hHeld := hHeld2
    clear hHeld2
    (try simp only [Act.put, List.setIfInBounds_toArray, List.set_cons_zero, List.set_cons_succ])
    refine wpAnyH_ready (rs := [11]) (by kernel_rfl) (by simp) ?_
    refine AllReadyH.cons (o := ⟨some 42, _, _, _, _, _⟩) rfl (fun K hK => ?_) AllReadyH.nil
    go_simp
    refine (attrs_nil _).mono ?_
    rintro e w9 ⟨rfl, hw⟩
    replace hw := hw.symm
    subst hw
    (try go_wp2_with fail)
    refine hK.out _ _ (hHeld) (fun hHeld2 => ?_)
    clear hK K hHeld
    have hHeld := hHeld2
    clear hHeld2
    (try simp only [Act.put, List.setIfInBounds_toArray, List.set_cons_zero, List.set_cons_succ])
    refine tkW 12 (some 43) (v := ?_) ?_ hHeld ?_
    rotate_left
    · (intro ww hSw; (try dsimp only at hSw); go_simp; try with_reducible rfl)
    refine wpAnyH_ready (rs := [14]) (by kernel_rfl) (by simp) ?_
    refine AllReadyH.cons (o := ⟨none, _, _, _, _, _⟩) rfl (fun K hK => ?_) AllReadyH.nil
    refine step_store_row rfl 27 (.tmp 9) (.tmp 43) rfl xb 27 #[.int .i64 0, .int .i64 0, .string ⟨#[]⟩, .string ⟨#[]⟩, .slice none 0 0, .slice none 0 0] #[.int .i64 s.1, .int .i64 s.2, .string tg, .string ⟨#[]⟩, .slice none 0 0, .slice none 0 0] rfl rfl HZ.out sizeVN rfl (by simp [Value.oneCell']) ?_
    refine hK.out _ _ (hHeld.setRow Hxb.out) (fun hHeld2 => ?_)
    clear hK K hHeld
    have hHeld := hHeld2
    clear hHeld2
    (try simp only [Act.put, List.setIfInBounds_toArray, List.set_cons_zero, List.set_cons_succ])
    obtain ⟨Ug1u11, eWn⟩ : ∃ X, X = Ug1u8.setRow xb #[.int .i64 s.1, .int .i64 s.2, .string tg, .string ⟨#[]⟩, .slice none 0 0, .slice none 0 0] := ⟨_, rfl⟩
    rw [← eWn] at hHeld ⊢
    replace HG : Hid (GrS w pb ab nb s Ug1u11) := (by rw [eWn]; exact HG.out.setRow Hxb.out)
    have HN : Hid (Ug1u11.heap[xb]? = some (.cells #[.int .i64 s.1, .int .i64 s.2, .string tg, .string ⟨#[]⟩, .slice none 0 0, .slice none 0 0] 27)) := (by rw [eWn]; exact setRow_same HZ.out)
    clear eWn HZ
    refine wpAnyH_done (by kernel_rfl) ?_ _
    clear hHeld
    go_wp2
    refine wp_region_held_drew (S := fun W' => GrS w pb ab nb s W') (by kernel_rfl) (HG.out.below (Below.refl _ _).drew) (fun hHeld => ?_)
    obtain ⟨Uh4u0, eW⟩ : ∃ X, X = Ug1u11.drew := ⟨_, rfl⟩
    have hb : Below Ug1u11.heap.size Ug1u11 Uh4u0 := by rw [eW]; exact (Below.refl _ _).drew
    replace HG : Hid (GrS w pb ab nb s Uh4u0) := HG.out.below hb
    replace HN : Hid (Uh4u0.heap[xb]? = some (.cells #[.int .i64 s.1, .int .i64 s.2, .string tg, .string ⟨#[]⟩, .slice none 0 0, .slice none 0 0] 27)) := (hb.block _ (row_lt HN.out)).trans HN.out
    rw [← eW] at hHeld ⊢
    clear eW hb
    refine tkW 0 (some 44) (v := ?_) ?_ hHeld ?_
    rotate_left
    · (intro ww _; go_simp; try with_reducible rfl)
    refine tkW 1 (some 45) (v := ?_) ?_ hHeld ?_
    rotate_left
    · (intro ww hSw; (try dsimp only at hSw); go_simp; try with_reducible rfl)
    refine tkW 2 (some 46) (v := ?_) ?_ hHeld ?_
    rotate_left
    · (intro ww hSw; (try dsimp only at hSw); have d0 : ww.cell? ⟨nb, 0, none⟩ = some (.slice none 0 0) := (by rw [cell_of_row _ _ _ _ _ _ hSw.doc]; rfl); have d1 : ww.cell? ⟨nb, 1, none⟩ = some (.slice none 0 0) := (by rw [cell_of_row _ _ _ _ _ _ hSw.doc]; rfl); have d2 : ww.cell? ⟨nb, 2, none⟩ = some (.slice none 0 0) := (by rw [cell_of_row _ _ _ _ _ _ hSw.doc]; rfl); have d3 : ww.cell? ⟨nb, 3, none⟩ = some (.slice none 0 0) := (by rw [cell_of_row _ _ _ _ _ _ hSw.doc]; rfl); go_simp; try with_reducible rfl)
    refine tkW 3 (some 47) (v := ?_) ?_ hHeld ?_
    rotate_left
    · (intro ww hSw; (try dsimp only at hSw); have c0 : ww.cell? ⟨w.heap.size + 1, 0, none⟩ = some (.int .i64 s.1) := (by rw [cell_of_row _ _ _ _ _ _ hSw.key]; rfl); have c1 : ww.cell? ⟨w.heap.size + 1, 1, none⟩ = some (.int .i64 s.2) := (by rw [cell_of_row _ _ _ _ _ _ hSw.key]; rfl); go_simp; try with_reducible rfl)
    refine tkW 6 (some 50) (v := ?_) ?_ hHeld ?_
    rotate_left
    · (intro ww _; go_simp; try with_reducible rfl)
    refine wpAnyH_ready (rs := [4]) (by kernel_rfl) (by simp) ?_
    refine AllReadyH.cons (o := ⟨some 48, _, _, _, _, _⟩) rfl (fun K hK => ?_) AllReadyH.nil
    go_simp
    refine (kids_nil s _).mono ?_
    rintro e Uh4u1 ⟨rfl, hb⟩
    (try go_wp2_with fail)
    refine hK.out _ _ (hHeld.below hb) (fun hHeld2 => ?_)
    clear hK K hHeld
    have hHeld := hHeld2
    clear hHeld2
    (try simp only [Act.put, List.setIfInBounds_toArray, List.set_cons_zero, List.set_cons_succ])
    replace HG : Hid (GrS w pb ab nb s Uh4u1) := HG.out.below hb
    replace HN : Hid (Uh4u1.heap[xb]? = some (.cells #[.int .i64 s.1, .int .i64 s.2, .string tg, .string ⟨#[]⟩, .slice none 0 0, .slice none 0 0] 27)) := (hb.block _ (row_lt HN.out)).trans HN.out
    clear hb
    refine tkW 5 (some 49) (v := ?_) ?_ hHeld ?_
    rotate_left
    · (intro ww hSw; (try dsimp only at hSw); go_simp; try with_reducible rfl)
    refine wpAnyH_done (by kernel_rfl) ?_ _
    clear hHeld
    go_wp2
    go_loopw [50] (fun iv wr => iv = .int .i64 0 ∧ wr = Uh4u1) (fun _ _ => 0)
    case atStart => exact ⟨rfl, rfl⟩
    case round =>
      obtain ⟨rfl, rfl⟩ := hrel
      obtain ⟨n0, n1, n2, n3, n4, n5⟩ := row6 HN.out
      have HE : Hid ((wr.setRow (w.heap.size + 2) #[.int .i64 s.1, .int .i64 s.2, .string tg, .string ⟨#[]⟩, .slice none 0 0, .slice none 0 0]).heap[w.heap.size + 2]? = some (.cells #[.int .i64 s.1, .int .i64 s.2, .string tg, .string ⟨#[]⟩, .slice none 0 0, .slice none 0 0] 27)) := setRow_same HG.out.res
      have HT : Hid (Touch (fun k => k = pb ∨ k = ab) w (wr.setRow (w.heap.size + 2) #[.int .i64 s.1, .int .i64 s.2, .string tg, .string ⟨#[]⟩, .slice none 0 0, .slice none 0 0])) := HG.out.tch.setRowNew (by omega) _
      have HR := hide9 HG.out.res
      clear HG HN
      go_wp2_with (refine wpList_store_row rfl 27 (.tmp 6) (.tmp 94) rfl (w.heap.size + 2) 27 #[.int .i64 0, .int .i64 0, .string ⟨#[]⟩, .string ⟨#[]⟩, .slice none 0 0, .slice none 0 0] #[.int .i64 s.1, .int .i64 s.2, .string tg, .string ⟨#[]⟩, .slice none 0 0, .slice none 0 0] rfl rfl HR.out sizeVN rfl (by simp [Value.oneCell']) ?_)
      refine bodyPost_ret (results_cell_row2 rfl _ _ (w.heap.size + 2) _ _ _ _ rfl HE.out Try.underlying27 rfl sizeVN rfl) rfl ?_
      exact ⟨rfl, HT.out⟩

end Go.Proofs.Ytngglnlphlembaa
