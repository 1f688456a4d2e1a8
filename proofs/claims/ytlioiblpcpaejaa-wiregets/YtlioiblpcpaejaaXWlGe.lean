/- The walk of WireGets. -/
import Derived.Test.YtlioiblpcpaejaaXM
import Derived.Test.YtlioiblpcpaejaaXWdH
namespace Go.Proofs.Ytlioiblpcpaejaa
open Go.RowKit
set_option linter.unusedVariables false
set_option linter.unusedSimpArgs false

theorem getF_deps (p : List UInt8) : (getF p).1.deps.length ≤ 64 := by
  unfold getF
  split
  · exact chan_deps p 0 0
  · show ([] : List Int).length ≤ 64; simp

set_option maxRecDepth 100000 in
set_option maxHeartbeats 8000000 in
theorem wireGets_walk (v : Value) (p : List UInt8) (w : World) (h1 : IsB w v p) (hl : p.length ≤ 140737488351232) :
    Calls Try.prog 4 #[v] w fun e w' => e = .returned (.bool true) ∧ Below w.heap.size w w' := by
  obtain ⟨av, cap, ev⟩ := h1.form
  subst ev
  have H1 : Hid (IsB w (.slice av p.length cap) p) := h1
  have hd := getF_deps p
  obtain ⟨⟨c, ee⟩, eG⟩ : ∃ r, getF p = r := ⟨_, rfl⟩
  rw [eG] at hd
  simp only at hd
  have G1 : Hid (∀ v W, IsB W v p → Calls Try.prog 12 #[v] W fun e w' => GotCh c ee W e w') := fun v W hW => by
    have := get_any v p W hW (by omega)
    rw [eG] at this
    exact this
  have G2 : Hid (∀ W, IsB W (.slice av p.length cap) p → Calls Try.prog 13 #[.slice av p.length cap] W fun e w' => GotCh c ee W e w') := fun W hW => by
    have := refGet_any av cap p W hW
    rw [eG] at this
    exact this
  have qe : (ee == ee) = true := by simp
  clear h1 eG
  go_enter Try.func4, Try.ntmps4
  go_wp2_with (at_builtin; refine wpList_copyE rfl _ _ rfl _ p rfl rfl H1.out (by omega) ?_; intro v1 w1 ho1 hb1)
  have B1 : Hid (Below w.heap.size w w1) := hb1
  have I1 : Hid (IsB w1 v1 p) := ho1.isB (by omega)
  clear ho1 hb1
  (try go_wp2_with fail)
  refine (G1.out _ _ I1.out).mono ?_
  rintro e w2 ⟨dv, rfl, o2, hb2⟩
  obtain ⟨a1, d1, e1⟩ := o2.form
  subst e1
  have B2 : Hid (Below w.heap.size w w2) := B1.out.trans (hb2.mono B1.out.size)
  have I2 : Hid (IsI w2 (.slice a1 c.deps.length d1) c.deps) := o2.isI (by omega)
  clear o2 hb2 B1 I1 G1
  simp only [chCells]
  go_upto_region 2 with (with_reducible refine wpList_store_new (P := Try.prog) ?hg 26 (.tmp 3) (.tmp 12) ?ho _ _ ?hx ?hy sizeChange ?hs ?h1 ?hrest; case hg => rfl; case ho => rfl; case hx => rfl; case hy => rfl; case hs => rfl; case h1 => first | rfl | simp [Value.oneCell'])
  obtain ⟨W3, eW⟩ : ∃ X, X = w2.alloc (.cells #[.int .i64 c.ac, .int .i64 c.ar, .int .i64 c.seq, .slice a1 c.deps.length d1, .int .i64 c.kind, .int .i64 c.nc, .int .i64 c.nr, .int .i64 c.pc, .int .i64 c.pr, .int .i64 c.fc, .int .i64 c.fr, .string c.name, .string c.value] 26) := ⟨_, rfl⟩
  have BA : Hid (Below w2.heap.size w2 W3) := by rw [eW]; exact (Below.refl _ _).alloc (Nat.le_refl _) _
  have B3 : Hid (Below w.heap.size w W3) := B2.out.trans (BA.out.mono B2.out.size)
  have I3 : Hid (IsI W3 (.slice a1 c.deps.length d1) c.deps) := I2.out.below BA.out
  have R3 : Hid (W3.heap[w2.heap.size]? = some (.cells #[.int .i64 c.ac, .int .i64 c.ar, .int .i64 c.seq, .slice a1 c.deps.length d1, .int .i64 c.kind, .int .i64 c.nc, .int .i64 c.nr, .int .i64 c.pc, .int .i64 c.pr, .int .i64 c.fc, .int .i64 c.fr, .string c.name, .string c.value] 26)) := by rw [eW]; exact heap_alloc_new _ _
  rw [← eW]
  clear eW BA B2 I2
  generalize w2.heap.size = g3 at *
  go_wp2_with fail
  refine (G2.out _ (H1.out.below B3.out)).mono ?_
  rintro e w4 ⟨dv, rfl, o4, hb4⟩
  obtain ⟨a2, d2, e2⟩ := o4.form
  subst e2
  have B4 : Hid (Below w.heap.size w w4) := B3.out.trans (hb4.mono B3.out.size)
  have I4 : Hid (IsI w4 (.slice a1 c.deps.length d1) c.deps) := I3.out.below hb4
  have J4 : Hid (IsI w4 (.slice a2 c.deps.length d2) c.deps) := o4.isI (by omega)
  have R4 : Hid (w4.heap[g3]? = some (.cells #[.int .i64 c.ac, .int .i64 c.ar, .int .i64 c.seq, .slice a1 c.deps.length d1, .int .i64 c.kind, .int .i64 c.nc, .int .i64 c.nr, .int .i64 c.pc, .int .i64 c.pr, .int .i64 c.fc, .int .i64 c.fr, .string c.name, .string c.value] 26)) := row_below R3.out hb4
  clear o4 hb4 B3 I3 R3 G2
  simp only [chCells]
  go_upto_region 3 with (with_reducible refine wpList_store_new (P := Try.prog) ?hg 26 (.tmp 5) (.tmp 17) ?ho _ _ ?hx ?hy sizeChange ?hs ?h1 ?hrest; case hg => rfl; case ho => rfl; case hx => rfl; case hy => rfl; case hs => rfl; case h1 => first | rfl | simp [Value.oneCell'])
  obtain ⟨W5, eW⟩ : ∃ X, X = w4.alloc (.cells #[.int .i64 c.ac, .int .i64 c.ar, .int .i64 c.seq, .slice a2 c.deps.length d2, .int .i64 c.kind, .int .i64 c.nc, .int .i64 c.nr, .int .i64 c.pc, .int .i64 c.pr, .int .i64 c.fc, .int .i64 c.fr, .string c.name, .string c.value] 26) := ⟨_, rfl⟩
  have BA : Hid (Below w4.heap.size w4 W5) := by rw [eW]; exact (Below.refl _ _).alloc (Nat.le_refl _) _
  have B5 : Hid (Below w.heap.size w W5) := B4.out.trans (BA.out.mono B4.out.size)
  have I5 : Hid (IsI W5 (.slice a1 c.deps.length d1) c.deps) := I4.out.below BA.out
  have J5 : Hid (IsI W5 (.slice a2 c.deps.length d2) c.deps) := J4.out.below BA.out
  have R5 : Hid (W5.heap[g3]? = some (.cells #[.int .i64 c.ac, .int .i64 c.ar, .int .i64 c.seq, .slice a1 c.deps.length d1, .int .i64 c.kind, .int .i64 c.nc, .int .i64 c.nr, .int .i64 c.pc, .int .i64 c.pr, .int .i64 c.fc, .int .i64 c.fr, .string c.name, .string c.value] 26)) := row_below R4.out BA.out
  have S5 : Hid (W5.heap[w4.heap.size]? = some (.cells #[.int .i64 c.ac, .int .i64 c.ar, .int .i64 c.seq, .slice a2 c.deps.length d2, .int .i64 c.kind, .int .i64 c.nc, .int .i64 c.nr, .int .i64 c.pc, .int .i64 c.pr, .int .i64 c.fc, .int .i64 c.fr, .string c.name, .string c.value] 26)) := by rw [eW]; exact heap_alloc_new _ _
  rw [← eW]
  clear eW BA B4 I4 J4 R4
  generalize w4.heap.size = g5 at *
  go_step
  refine wpList_load_row rfl 26 (.tmp 3) rfl g3 _ _ _ rfl R5.out Try.underlying26 rfl sizeChange ?_
  (try simp only [Act.put, List.setIfInBounds_toArray, List.set_cons_zero, List.set_cons_succ])
  refine wpList_load_row rfl 26 (.tmp 5) rfl g5 _ _ _ rfl S5.out Try.underlying26 rfl sizeChange ?_
  (try simp only [Act.put, List.setIfInBounds_toArray, List.set_cons_zero, List.set_cons_succ])
  go_wp2_with fail
  refine (refSameCh_eq _ _ _ _ _ _ _ _ _ _ _ _ _ _ c.deps _ I5.out J5.out).mono ?_
  rintro e w6 ⟨rfl, hb6⟩
  have B6 : Hid (Below w.heap.size w w6) := B5.out.trans (hb6.mono B5.out.size)
  clear hb6 B5 I5 J5 R5 S5
  go_wp2_with fail
  refine (wawake_any _).mono ?_
  rintro e w7 ⟨rfl, hb7⟩
  have B7 : Hid (Below w.heap.size w w7) := B6.out.trans (hb7.mono B6.out.size)
  clear hb7 B6
  go_wp2
  go_ret
  exact ⟨rfl, B7.out⟩

end Go.Proofs.Ytlioiblpcpaejaa
