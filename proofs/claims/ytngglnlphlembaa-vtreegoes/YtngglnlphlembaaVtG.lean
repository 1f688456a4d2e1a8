/- Of a Doc with nothing in it. -/
import Derived.Test.YtngglnlphlembaaVtF
import Derived.Test.YtngglnlphlembaaTk
import Derived.Deep.RegionHeld
namespace Go.Proofs.Ytngglnlphlembaa
open Go.RowKit
set_option linter.unusedVariables false
set_option linter.unusedSimpArgs false

theorem results_cell_row2 {P : Program} {fn : Func} {p u : Tmp} {ty : TypeId} (h : fn.results = #[.cell p ty, .tmp u]) (tmps : Array Value) (w : World) (g : Nat) (t : TypeId) (cs : Array Value) (fr : Nat × Nat) (d : TypeDesc)
    (hp : tmps.getD p undef = .pointer (some ⟨g, 0, none⟩)) (hg : w.heap[g]? = some (.cells cs t fr))
    (hu : P.underlying ty = some d) (hd : (match d with | .struct _ | .array _ _ => true | _ => false) = true) (hi : (P.info? ty).map (·.size) = some cs.size) {k : Value} (hk : tmps.getD u undef = k) :
    (results fn tmps).run P w = .ok (.tuple #[.agg cs, k]) w := by
  rw [results_cell_tmp h, hp, hk]
  simp [asAddr, run_loadVar_row w g t ty cs fr d hg hu hd hi]

set_option maxHeartbeats 1000000 in
theorem text_nil (w : World) : Calls Try.prog 33 #[.slice none 0 0] w fun e w' => e = .returned (.string ⟨#[]⟩) ∧ w' = w := by
  go_enter Try.func33, Try.ntmps33
  go_wp2
  go_loopw [7] (fun iv wr => iv = .int .i64 0 ∧ wr = w) (fun _ _ => 0)
  case atStart => exact ⟨rfl, rfl⟩
  case round =>
    obtain ⟨rfl, rfl⟩ := hrel
    go_wp2
    go_ret
    exact ⟨rfl, rfl⟩

set_option maxHeartbeats 1000000 in
theorem attrs_nil (w : World) : Calls Try.prog 34 #[.slice none 0 0] w fun e w' => e = .returned (.slice none 0 0) ∧ w' = w := by
  go_enter Try.func34, Try.ntmps34
  go_wp2
  go_loopw [3, 8] (fun ov iv wr => ov = .slice none 0 0 ∧ iv = .int .i64 0 ∧ wr = w) (fun _ _ _ => 0)
  case atStart => exact ⟨rfl, rfl, rfl⟩
  case round =>
    obtain ⟨rfl, rfl, rfl⟩ := hrel
    go_wp2
    go_ret
    exact ⟨rfl, rfl⟩

set_option maxHeartbeats 1000000 in
theorem index_nil (f : Value) (w : World) : Calls Try.prog 41 #[.slice none 0 0, f] w fun e w' => e = .returned (.int .i64 (-1)) ∧ w' = w := by
  go_enter Try.func41, Try.ntmps41
  go_wp2
  go_loopw [8] (fun iv wr => iv = .int .i64 0 ∧ wr = w) (fun _ _ => 0)
  case atStart => exact ⟨rfl, rfl⟩
  case round =>
    obtain ⟨rfl, rfl⟩ := hrel
    go_wp2
    go_ret
    exact ⟨rfl, rfl⟩

set_option maxHeartbeats 1000000 in
theorem kids_nil (s : St) (w : World) : Calls Try.prog 35 #[.agg #[.slice none 0 0, .slice none 0 0, .slice none 0 0, .slice none 0 0], .agg #[.int .i64 s.1, .int .i64 s.2]] w fun e w' => e = .returned (.slice none 0 0) ∧ Below w.heap.size w w' := by
  have HB : Hid (Below w.heap.size w ((w.alloc (.cells #[.slice none 0 0, .slice none 0 0, .slice none 0 0, .slice none 0 0] 48)).alloc (.cells #[.int .i64 s.1, .int .i64 s.2] 23))) := ((Below.refl _ _).alloc (Nat.le_refl _) _).alloc (by simp) _
  go_enter Try.func35, Try.ntmps35
  go_wp2_with fail
  refine (index_nil _ _).mono ?_
  rintro e w' ⟨rfl, hw⟩
  replace hw := hw.symm
  subst hw
  go_wp2
  go_ret
  exact ⟨rfl, HB.out⟩

set_option maxRecDepth 100000 in
set_option maxHeartbeats 4000000 in
theorem split_nil (w : World) : Calls Try.prog 22 #[.agg #[.slice none 0 0, .slice none 0 0, .slice none 0 0, .slice none 0 0]] w fun e w' => e = .returned (.map (some (w.heap.size + 1))) ∧ w' = (w.alloc (.cells #[.slice none 0 0, .slice none 0 0, .slice none 0 0, .slice none 0 0] 48)).alloc (.map #[] 0) := by
  have hmm := @run_makeMap Try.prog
  go_enter Try.func22, Try.ntmps22
  go_wp2
  go_loopw [20] (fun iv wr => iv = .int .i64 0 ∧ wr = (w.alloc (.cells #[.slice none 0 0, .slice none 0 0, .slice none 0 0, .slice none 0 0] 48)).alloc (.map #[] 0)) (fun _ _ => 0)
  case atStart => exact ⟨rfl, rfl⟩
  case round =>
    obtain ⟨rfl, rfl⟩ := hrel
    go_wp2
    go_loopw [42] (fun iv wr => iv = .int .i64 0 ∧ wr = (w.alloc (.cells #[.slice none 0 0, .slice none 0 0, .slice none 0 0, .slice none 0 0] 48)).alloc (.map #[] 0)) (fun _ _ => 0)
    case atStart => exact ⟨rfl, rfl⟩
    case round =>
      obtain ⟨rfl, rfl⟩ := hrel
      go_wp2
      go_loopw [64] (fun iv wr => iv = .int .i64 0 ∧ wr = (w.alloc (.cells #[.slice none 0 0, .slice none 0 0, .slice none 0 0, .slice none 0 0] 48)).alloc (.map #[] 0)) (fun _ _ => 0)
      case atStart => exact ⟨rfl, rfl⟩
      case round =>
        obtain ⟨rfl, rfl⟩ := hrel
        go_wp2
        go_loopw [92] (fun iv wr => iv = .int .i64 0 ∧ wr = (w.alloc (.cells #[.slice none 0 0, .slice none 0 0, .slice none 0 0, .slice none 0 0] 48)).alloc (.map #[] 0)) (fun _ _ => 0)
        case atStart => exact ⟨rfl, rfl⟩
        case round =>
          obtain ⟨rfl, rfl⟩ := hrel
          go_wp2
          go_ret
          exact ⟨rfl, rfl⟩
theorem uParts : Try.prog.underlying 62 = some (.map 23 78) := by kernel_rfl
theorem zDoc (w : World) : (zeroValue 78).run Try.prog w = .ok (.pointer none) w := by kernel_rfl

set_option maxRecDepth 100000 in
set_option maxHeartbeats 4000000 in
theorem of_first (b : Nat) (s : St) (w : World) (h : MapIs Prod.fst Prod.snd w b ([] : List (St × Value))) : Calls Try.prog 31 #[.map (some b), .agg #[.int .i64 s.1, .int .i64 s.2]] w fun e w' => e = .returned (.pointer (some ⟨w.heap.size + 1, 0, none⟩)) ∧ w'.heap[w.heap.size + 1]? = some (.cells #[.slice none 0 0, .slice none 0 0, .slice none 0 0, .slice none 0 0] 48) ∧ Touch (fun k => k = b) w w' := by
  obtain ⟨W1, eW1⟩ : ∃ X, X = w.alloc (.cells #[.int .i64 s.1, .int .i64 s.2] 23) := ⟨_, rfl⟩
  obtain ⟨W2, eW2⟩ : ∃ X, X = W1.alloc (.cells #[.slice none 0 0, .slice none 0 0, .slice none 0 0, .slice none 0 0] 48) := ⟨_, rfl⟩
  have hb1 : Below w.heap.size w W1 := by rw [eW1]; exact (Below.refl _ _).alloc (Nat.le_refl _) _
  have hs1 : W1.heap.size = w.heap.size + 1 := by rw [eW1]; simp
  have hb2 : Below W1.heap.size W1 W2 := by rw [eW2]; exact (Below.refl _ _).alloc (Nat.le_refl _) _
  have hD : W2.heap[w.heap.size + 1]? = some (.cells #[.slice none 0 0, .slice none 0 0, .slice none 0 0, .slice none 0 0] 48) := by rw [eW2, ← hs1]; exact heap_alloc_new _ _
  have hK : W2.heap[w.heap.size]? = some (.cells #[.int .i64 s.1, .int .i64 s.2] 23) := by rw [hb2.block _ (by omega), eW1]; exact heap_alloc_new _ _
  have m1 := h.keep (hb1.block _ h.lt)
  have m2 := m1.keep (hb2.block _ m1.lt)
  have hl1 : (Instr.lookup 62 (.map (some b)) (.agg #[.int .i64 s.1, .int .i64 s.2]) false).run Try.prog W1 = .ok (.pointer none) W1 := look1_st 62 78 (.pointer none) uParts zDoc m1 s
  obtain ⟨W3, hup, hgr, hsz, hor⟩ := store_st 62 78 uParts m2 (s, .pointer (some ⟨w.heap.size + 1, 0, none⟩))
  have hup2 : (Instr.mapUpdate 62 (.map (some b)) (.agg #[.int .i64 s.1, .int .i64 s.2]) (.pointer (some ⟨w.heap.size + 1, 0, none⟩))).run Try.prog W2 = .ok () W3 := hup
  have m3 : MapIs Prod.fst Prod.snd W3 b [(s, .pointer (some ⟨w.heap.size + 1, 0, none⟩))] := hor.elim (fun h9 => h9.2) (fun ⟨x9, j9, h9, _⟩ => by cases h9)
  have hl3 : (Instr.lookup 62 (.map (some b)) (.agg #[.int .i64 s.1, .int .i64 s.2]) false).run Try.prog W3 = .ok (.pointer (some ⟨w.heap.size + 1, 0, none⟩)) W3 := (look1_st 62 78 (.pointer none) uParts zDoc m3 s).trans (by simp [getP])
  have hbl := h.lt
  have HE : Hid (W3.heap[w.heap.size + 1]? = some (.cells #[.slice none 0 0, .slice none 0 0, .slice none 0 0, .slice none 0 0] 48) ∧ Touch (fun k => k = b) w W3) := ⟨(hgr.block _ (row_lt hD) (fun e => by injection e with e; omega)).trans hD, Touch.trans (Touch.of_below (hb1.trans (hb2.mono hb1.size))) (Touch.of_grown hgr (fun k e _ => by cases e; rfl)) (fun j q => .inl q)⟩
  have hK3 := (hgr.block _ (row_lt hK) (fun e => by injection e with e; omega)).trans hK
  have c0 : W3.cell? ⟨w.heap.size, 0, none⟩ = some (.int .i64 s.1) := (by rw [cell_of_row _ _ _ _ _ _ hK3]; rfl)
  have c1 : W3.cell? ⟨w.heap.size, 1, none⟩ = some (.int .i64 s.2) := (by rw [cell_of_row _ _ _ _ _ _ hK3]; rfl)
  rw [eW2] at hup2
  rw [eW1] at hl1 hup2
  clear hup hgr hsz hor m1 m2 m3 hK3 hb1 hb2 hD hK hbl h hs1 eW1 eW2
  go_enter Try.func31, Try.ntmps31
  go_wp2
  go_ret
  exact ⟨rfl, HE.out.1, HE.out.2⟩

end Go.Proofs.Ytngglnlphlembaa
