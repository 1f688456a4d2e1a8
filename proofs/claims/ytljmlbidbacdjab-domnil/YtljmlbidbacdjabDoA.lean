/- The dom: calls on nil, small calls. -/
import Derived.Test.YtljmlbidbacdjabVtF
import Derived.Test.YtljmlbidbacdjabVtW
import Derived.WideLaws
namespace Go.Proofs.Ytljmlbidbacdjab
open Go.RowKit Go.Shelf
set_option linter.unusedVariables false
set_option linter.unusedSimpArgs false

attribute [local go_sem] Oper.semAt_some

theorem row10 {W : World} {b : Nat} {x0 x1 x2 x3 x4 x5 x6 x7 x8 x9 : Value} {ty : TypeId} (h : W.heap[b]? = some (.cells #[x0, x1, x2, x3, x4, x5, x6, x7, x8, x9] ty)) : W.cell? ⟨b, 0, none⟩ = some x0 ∧ W.cell? ⟨b, 1, none⟩ = some x1 ∧ W.cell? ⟨b, 2, none⟩ = some x2 ∧ W.cell? ⟨b, 3, none⟩ = some x3 ∧ W.cell? ⟨b, 4, none⟩ = some x4 ∧ W.cell? ⟨b, 5, none⟩ = some x5 ∧ W.cell? ⟨b, 6, none⟩ = some x6 ∧ W.cell? ⟨b, 7, none⟩ = some x7 ∧ W.cell? ⟨b, 8, none⟩ = some x8 ∧ W.cell? ⟨b, 9, none⟩ = some x9 := by
  refine ⟨?_, ?_, ?_, ?_, ?_, ?_, ?_, ?_, ?_, ?_⟩ <;> (rw [cell_of_row W b _ _ _ _ h]; rfl)
theorem row2o {W : World} {b : Nat} {x0 x1 : Value} {ty : TypeId} (h : W.heap[b]? = some (.cells #[x0, x1] ty)) : W.cell? ⟨b, 0, none⟩ = some x0 ∧ W.cell? ⟨b, 1, none⟩ = some x1 := by
  refine ⟨?_, ?_⟩ <;> (rw [cell_of_row W b _ _ _ _ h]; rfl)
theorem row6o {W : World} {b : Nat} {x0 x1 x2 x3 x4 x5 : Value} {ty : TypeId} (h : W.heap[b]? = some (.cells #[x0, x1, x2, x3, x4, x5] ty)) : W.cell? ⟨b, 0, none⟩ = some x0 ∧ W.cell? ⟨b, 1, none⟩ = some x1 ∧ W.cell? ⟨b, 2, none⟩ = some x2 ∧ W.cell? ⟨b, 3, none⟩ = some x3 ∧ W.cell? ⟨b, 4, none⟩ = some x4 ∧ W.cell? ⟨b, 5, none⟩ = some x5 := by
  refine ⟨?_, ?_, ?_, ?_, ?_, ?_⟩ <;> (rw [cell_of_row W b _ _ _ _ h]; rfl)
theorem loadVNo (w : World) (g : Nat) (v0 v1 v2 v3 v4 v5 : Value) (hg : w.heap[g]? = some (.cells #[v0, v1, v2, v3, v4, v5] 42)) : (loadVar 42 ⟨g, 0, none⟩).run Try.prog w = .ok (.agg #[v0, v1, v2, v3, v4, v5]) w := run_loadVar_row w g _ _ _ _ _ hg Try.underlying42 rfl (by kernel_rfl)
theorem loadSTo (w : World) (g : Nat) (v0 v1 : Value) (hg : w.heap[g]? = some (.cells #[v0, v1] 24)) : (loadVar 24 ⟨g, 0, none⟩).run Try.prog w = .ok (.agg #[v0, v1]) w := run_loadVar_row w g _ _ _ _ _ hg Try.underlying24 rfl (by kernel_rfl)
theorem results_one {fn : Func} {p : Tmp} {ty : TypeId} (h : fn.results = #[.cell p ty]) (tmps : Array Value) (w : World) (g : Nat) (cs : Array Value)
    (hp : tmps.getD p undef = .pointer (some ⟨g, 0, none⟩)) (e1 : (loadVar ty ⟨g, 0, none⟩).run Try.prog w = .ok (.agg cs) w) :
    (results fn tmps).run Try.prog w = .ok (.agg cs) w := by
  have hp' : tmps[p]?.getD undef = .pointer (some ⟨g, 0, none⟩) := by simpa using hp
  simp [results, h, hp', asAddr, e1]

theorem apply_nil (v : Value) (w : World) : Calls Try.prog 4 #[.pointer none, v] w fun e w' => e = .returned (.tuple #[.int .i64 0, .int .i64 7]) ∧ Below w.heap.size w w' := by
  go_enter Try.func4, Try.ntmps4
  go_wp2
  go_ret2
  exact ⟨rfl, Below.refl _ _⟩

theorem attr_nil (m : ByteArray) (w : World) : Calls Try.prog 5 #[.pointer none, .string m] w fun e w' => e = .returned (.tuple #[.string ⟨#[]⟩, .bool false]) ∧ Below w.heap.size w w' := by
  go_enter Try.func5, Try.ntmps5
  go_wp2
  go_ret2
  exact ⟨rfl, Below.refl _ _⟩

theorem top_nil (w : World) : Calls Try.prog 7 #[.pointer none] w fun e w' => e = .returned (.pointer none) ∧ Below w.heap.size w w' := by
  go_enter Try.func7, Try.ntmps7
  go_wp2
  go_ret
  exact ⟨rfl, Below.refl _ _⟩

theorem clone_nil (w : World) : Calls Try.prog 8 #[.pointer none] w fun e w' => e = .returned (.pointer none) ∧ Below w.heap.size w w' := by
  go_enter Try.func8, Try.ntmps8
  go_wp2
  go_ret
  exact ⟨rfl, Below.refl _ _⟩

theorem len_nil (w : World) : Calls Try.prog 9 #[.pointer none] w fun e w' => e = .returned (.int .i64 0) ∧ Below w.heap.size w w' := by
  go_enter Try.func9, Try.ntmps9
  go_wp2
  go_ret
  exact ⟨rfl, Below.refl _ _⟩

theorem ntag_nil (w : World) : Calls Try.prog 14 #[.pointer none] w fun e w' => e = .returned (.string ⟨#[]⟩) ∧ Below w.heap.size w w' := by
  go_enter Try.func14, Try.ntmps14
  go_wp2
  go_ret
  exact ⟨rfl, Below.refl _ _⟩

theorem ntext_nil (w : World) : Calls Try.prog 15 #[.pointer none] w fun e w' => e = .returned (.string ⟨#[]⟩) ∧ Below w.heap.size w w' := by
  go_enter Try.func15, Try.ntmps15
  go_wp2
  go_ret
  exact ⟨rfl, Below.refl _ _⟩

theorem nattrs_nil (w : World) : Calls Try.prog 16 #[.pointer none] w fun e w' => e = .returned (.slice none 0 0) ∧ Below w.heap.size w w' := by
  go_enter Try.func16, Try.ntmps16
  go_wp2
  go_ret
  exact ⟨rfl, Below.refl _ _⟩

theorem nparent_nil (w : World) : Calls Try.prog 17 #[.pointer none] w fun e w' => e = .returned (.pointer none) ∧ Below w.heap.size w w' := by
  go_enter Try.func17, Try.ntmps17
  go_wp2
  go_ret
  exact ⟨rfl, Below.refl _ _⟩

theorem nfirst_nil (w : World) : Calls Try.prog 18 #[.pointer none] w fun e w' => e = .returned (.pointer none) ∧ Below w.heap.size w w' := by
  go_enter Try.func18, Try.ntmps18
  go_wp2
  go_ret
  exact ⟨rfl, Below.refl _ _⟩

theorem nlast_nil (w : World) : Calls Try.prog 19 #[.pointer none] w fun e w' => e = .returned (.pointer none) ∧ Below w.heap.size w w' := by
  go_enter Try.func19, Try.ntmps19
  go_wp2
  go_ret
  exact ⟨rfl, Below.refl _ _⟩

theorem nprev_nil (w : World) : Calls Try.prog 20 #[.pointer none] w fun e w' => e = .returned (.pointer none) ∧ Below w.heap.size w w' := by
  go_enter Try.func20, Try.ntmps20
  go_wp2
  go_ret
  exact ⟨rfl, Below.refl _ _⟩

theorem nnext_nil (w : World) : Calls Try.prog 21 #[.pointer none] w fun e w' => e = .returned (.pointer none) ∧ Below w.heap.size w w' := by
  go_enter Try.func21, Try.ntmps21
  go_wp2
  go_ret
  exact ⟨rfl, Below.refl _ _⟩

theorem find_nil (s : St) (w : World) : Calls Try.prog 6 #[.pointer none, .agg #[.int .i64 s.1, .int .i64 s.2]] w fun e w' => e = .returned (.pointer none) ∧ Below w.heap.size w w' := by
  go_enter Try.func6, Try.ntmps6
  go_wp2
  go_ret
  exact ⟨rfl, (Below.refl _ _).alloc (Nat.le_refl _) _⟩

theorem links_nil (w : World) : Calls Try.prog 10 #[.pointer none] w fun e w' => e = .returned (.slice none 0 0) ∧ Below w.heap.size w w' := by
  go_enter Try.func10, Try.ntmps10
  go_wp2_with fail
  refine (top_nil _).mono ?_
  rintro e w1 ⟨rfl, hb⟩
  have HB := hide9 hb
  clear hb
  go_wp2
  go_loopw [3, 4] (fun v n wr => v = .slice none 0 0 ∧ n = .pointer none ∧ Hid (Below w.heap.size w wr)) (fun _ _ _ => 0)
  case atStart => exact ⟨rfl, rfl, HB⟩
  case round =>
    clear HB
    obtain ⟨rfl, rfl, HB⟩ := hrel
    go_wp2
    go_ret
    exact ⟨rfl, HB.out⟩

set_option maxRecDepth 100000 in
set_option maxHeartbeats 4000000 in
theorem newNode_any (G : Nat → Prop) (t : VT) (v : Value) (w : World) (h : VIs G w v t) :
    Calls Try.prog 72 #[v] w fun e w' => ∃ nb va vc, e = .returned (.pointer (some ⟨nb, 0, none⟩)) ∧ w'.heap[nb]? = some (.cells #[.int .i64 t.k.1, .int .i64 t.k.2, .string t.tg, .string t.tx, (.slice va t.at_.length vc), .pointer none, .pointer none, .pointer none, .pointer none, .pointer none] 65) ∧ w.heap.size ≤ nb ∧ OwnE atCells 2 63 w.heap.size w' (.slice va t.at_.length vc) t.at_ ∧ Below w.heap.size w w' := by
  obtain ⟨aa, ca, ak, da, e1, fd⟩ := h.form
  subst e1
  obtain ⟨W0, eW⟩ : ∃ X, X = w.alloc (.cells #[.int .i64 t.k.1, .int .i64 t.k.2, .string t.tg, .string t.tx, .slice aa t.at_.length ca, .slice ak t.ks.length da] 42) := ⟨_, rfl⟩
  have hb0 : Below w.heap.size w W0 := (by rw [eW]; exact (Below.refl _ _).alloc (Nat.le_refl _) _)
  have HR : Hid (W0.heap[w.heap.size]? = some (.cells #[.int .i64 t.k.1, .int .i64 t.k.2, .string t.tg, .string t.tx, .slice aa t.at_.length ca, .slice ak t.ks.length da] 42)) := (by show _ = _; rw [eW]; exact heap_alloc_new _ _)
  have HA : Hid (LsE atCells 2 G W0 (.slice aa t.at_.length ca) t.at_) := fd.at_.below hb0
  have Hal := hide9 fd.al
  have HL := hide9 hb0
  have HE := hide9 eW
  clear h hb0 eW fd
  go_enter Try.func72, Try.ntmps72
  go_upto_region 1 with fail
  rw [← HE.out]
  clear HE
  refine wp_region_held_drew (S := fun W' => Below W0.heap.size W0 W') (by kernel_rfl) (Below.refl _ _).drew (fun hHeld => ?_)
  obtain ⟨Un1u0, eW⟩ : ∃ X, X = W0.drew := ⟨_, rfl⟩
  have hb : Below W0.heap.size W0 Un1u0 := by rw [eW]; exact (Below.refl _ _).drew
  rw [← eW] at hHeld ⊢
  clear eW hb
  refine tkW 0 (some 3) (v := ?_) ?_ hHeld ?_
  rotate_left
  · (intro ww _; go_simp; try with_reducible rfl)
  refine tkW 1 (some 4) (v := ?_) ?_ hHeld ?_
  rotate_left
  · (intro ww hSw; (try dsimp only at hSw); obtain ⟨y0, y1, y2, y3, y4, y5⟩ := row6o ((hSw.block _ (row_lt HR.out)).trans HR.out); go_simp; try with_reducible rfl)
  refine tkW 2 (some 5) (v := ?_) ?_ hHeld ?_
  rotate_left
  · (intro ww _; go_simp; try with_reducible rfl)
  refine tkW 3 (some 6) (v := ?_) ?_ hHeld ?_
  rotate_left
  · (intro ww hSw; (try dsimp only at hSw); obtain ⟨y0, y1, y2, y3, y4, y5⟩ := row6o ((hSw.block _ (row_lt HR.out)).trans HR.out); go_simp; try with_reducible rfl)
  refine tkW 4 (some 7) (v := ?_) ?_ hHeld ?_
  rotate_left
  · (intro ww _; go_simp; try with_reducible rfl)
  refine tkW 5 (some 8) (v := ?_) ?_ hHeld ?_
  rotate_left
  · (intro ww hSw; (try dsimp only at hSw); obtain ⟨y0, y1, y2, y3, y4, y5⟩ := row6o ((hSw.block _ (row_lt HR.out)).trans HR.out); go_simp; try with_reducible rfl)
  refine tkW 6 (some 9) (v := ?_) ?_ hHeld ?_
  rotate_left
  · (intro ww _; go_simp; try with_reducible rfl)
  refine tkW 7 (some 10) (v := ?_) ?_ hHeld ?_
  rotate_left
  · (intro ww hSw; (try dsimp only at hSw); obtain ⟨y0, y1, y2, y3, y4, y5⟩ := row6o ((hSw.block _ (row_lt HR.out)).trans HR.out); go_simp; try with_reducible rfl)
  refine wpAnyH_ready (rs := [8]) (by kernel_rfl) (by simp) ?_
  refine AllReadyH.cons (o := ⟨some 11, _, _, _, _, _⟩) rfl (fun K hK => ?_) AllReadyH.nil
  go_simp
  refine (cloneAts G _ t.at_ _ (HA.out.below hHeld) Hal.out (flat_at _)).mono ?_
  rintro e Un1u1 ⟨av, rfl, ho, hb⟩
  obtain ⟨va, vc, ev⟩ := OwnE.form ho
  subst ev
  have hkp := hHeld.trans (hb.mono hHeld.size)
  have HO : Hid (OwnE atCells 2 63 W0.heap.size Un1u1 (.slice va t.at_.length vc) t.at_) := OwnE.low ho hHeld.size
  have HV9 : Hid (W0.heap.size ≤ Un1u1.heap.size) := hkp.size
  clear ho hb
  (try go_wp2_with fail)
  refine hK.out _ _ (hkp) (fun hHeld2 => ?_)
  clear hK K hHeld
  have hHeld := hHeld2
  clear hHeld2
  (try simp only [Act.put, List.setIfInBounds_toArray, List.set_cons_zero, List.set_cons_succ])
  clear hkp
  refine tkW 9 (some 12) (v := ?_) ?_ hHeld ?_
  rotate_left
  · (intro ww hSw; (try dsimp only at hSw); go_simp; try with_reducible rfl)
  refine wpAnyH_ready (rs := [10]) (by kernel_rfl) (by simp) ?_
  refine AllReadyH.cons (o := ⟨some 13, _, _, _, _, _⟩) rfl (fun K hK => ?_) AllReadyH.nil
  have hbx : Below Un1u1.heap.size Un1u1 (Un1u1.alloc (.cells #[.int .i64 t.k.1, .int .i64 t.k.2, .string t.tg, .string t.tx, (.slice va t.at_.length vc), .pointer none, .pointer none, .pointer none, .pointer none, .pointer none] 65)) := (Below.refl _ _).alloc (Nat.le_refl _) _
  go_simp
  refine hK.out _ _ (hHeld.trans (hbx.mono hHeld.size)) (fun hHeld2 => ?_)
  clear hK K hHeld
  have hHeld := hHeld2
  clear hHeld2
  (try simp only [Act.put, List.setIfInBounds_toArray, List.set_cons_zero, List.set_cons_succ])
  obtain ⟨Un1u2, eW⟩ : ∃ X, X = Un1u1.alloc (.cells #[.int .i64 t.k.1, .int .i64 t.k.2, .string t.tg, .string t.tx, (.slice va t.at_.length vc), .pointer none, .pointer none, .pointer none, .pointer none, .pointer none] 65) := ⟨_, rfl⟩
  have hb : Below Un1u1.heap.size Un1u1 Un1u2 := by rw [eW]; exact (Below.refl _ _).alloc (Nat.le_refl _) _
  clear hbx
  have HN : Hid (Un1u2.heap[Un1u1.heap.size]? = some (.cells #[.int .i64 t.k.1, .int .i64 t.k.2, .string t.tg, .string t.tx, (.slice va t.at_.length vc), .pointer none, .pointer none, .pointer none, .pointer none, .pointer none] 65)) := by rw [eW]; exact heap_alloc_new _ _
  replace HO := hide9 (OwnE.below HO.out hb)
  rw [← eW] at hHeld ⊢
  clear eW
  obtain ⟨nb, enb⟩ : ∃ b, b = Un1u1.heap.size := ⟨_, rfl⟩
  rw [← enb] at HN ⊢
  have Hnb : Hid (w.heap.size ≤ nb) := (by show _ ≤ _; rw [enb]; exact Nat.le_trans HL.out.size HV9.out)
  clear enb HV9
  clear hb
  refine tkW 11 (some 2) (v := ?_) ?_ hHeld ?_
  rotate_left
  · (intro ww _; go_simp; try with_reducible rfl)
  refine wpAnyH_done (by kernel_rfl) ?_ _
  have HZ : Hid (Below w.heap.size w Un1u2) := HL.out.trans (hHeld.mono HL.out.size)
  clear hHeld
  go_wp2
  (try rw [Exit.noGoto_ret])
  go_ret
  exact ⟨nb, va, vc, rfl, HN.out, Hnb.out, OwnE.low HO.out HL.out.size, HZ.out⟩

end Go.Proofs.Ytljmlbidbacdjab
