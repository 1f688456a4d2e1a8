/- OplogAny of package topiarylaw07 is proved at this commit: for every input (a list of changes, a list of numbers, any) the call returns true and the arguments read as they did. No condition. -/
import Derived.Test.YtngldpabfpcaiaaGreatOlV5
import Derived.Test.YtngldpabfpcaiaaGreatZIy
import Derived.Test.YtngldpabfpcaiaaGreatOlA
import Derived.Test.YtngldpabfpcaiaaGreatCkA
import Derived.Test.YtngldpabfpcaiaaGreatOlB
import Derived.Test.YtngldpabfpcaiaaGreatOlY2
import Derived.Test.YtngldpabfpcaiaaGreatPlainN
import Derived.Test.YtngldpabfpcaiaaGreatZGy
import Derived.Test.YtngldpabfpcaiaaGreatBaseO
namespace Go.Proofs.YtngldpabfpcaiaaGreat
open Go.RowKit
set_option linter.unusedVariables false
set_option linter.unusedSimpArgs false

def firstC : Ch := ⟨1, 0, 1, [], 1, 1, 0, 0, 0, 0, 0, ⟨#[112]⟩, ⟨#[]⟩⟩
theorem first_sized : Sized firstC := ⟨by decide, by decide⟩
theorem why_first : whyR [] 3 firstC = 0 := by decide +kernel
theorem why_first2 : whyR [firstC] 3 firstC = 5 := by decide +kernel
theorem add_first : addL [] 3 firstC = [firstC] := by unfold addL; rw [if_pos why_first]; rfl
theorem add_first2 : addL [firstC] 3 firstC = [firstC] := by unfold addL; rw [if_neg (by rw [why_first2]; decide)]

set_option maxRecDepth 100000 in
set_option maxHeartbeats 2000000 in
theorem first_any (w : World) : Calls Tryz.prog 31 #[] w fun e w' => e = .returned (chV firstC (.slice none 0 0)) ∧ Below w.heap.size w w' := by
  go_enter Tryz.func31, Tryz.ntmps31
  go_wp2
  (try simp only [Exit.inBlock, Exit.then])
  refine bodyPost_ret (v := chV firstC (.slice none 0 0)) ?res rfl ?post
  case res => exact results_cell_row rfl _ _ w.heap.size _ _ _ _ rfl ((Below.heap_alloc _ _ _ (by simp)).trans (heap_alloc_new w _)) Tryz.underlying38 rfl (by kernel_rfl)
  exact ⟨rfl, ((Below.refl _ _).alloc (Nat.le_refl _) _).alloc (by simp) _⟩

set_option maxRecDepth 100000 in
set_option maxHeartbeats 4000000 in
theorem awake_any (w : World) : Calls Tryz.prog 12 #[] w fun e w' => e = .returned (.bool true) ∧ Below w.heap.size w w' := by
  have HF : Hid (∀ W, Calls Tryz.prog 31 #[] W fun e w' => e = .returned (chV firstC (.slice none 0 0)) ∧ Below W.heap.size W w') := fun W => first_any W
  go_enter Tryz.func12, Tryz.ntmps12
  go_wp2_with fail
  refine (new_any 3 _).mono ?_
  rintro e w1 ⟨h, hb1⟩
  rcases h with ⟨h, _⟩ | ⟨_, lb, F, rfl, hL, hF⟩
  · omega
  have HL : Hid (LogOk F w1 lb 3 []) := hL
  have HB1 : Hid (Below w.heap.size w w1) := hb1
  have HFn : Hid (∀ k, F k → w.heap.size ≤ k) := hF
  clear hL hb1 hF
  go_wp2_with fail
  refine (HF.out _).mono ?_
  rintro e w2 ⟨rfl, hb2⟩
  replace HL : Hid (LogOk F w2 lb 3 []) := HL.out.below hb2
  have HB2 : Hid (Below w.heap.size w w2) := HB1.out.trans (hb2.mono HB1.out.size)
  clear hb2 HB1
  go_wp2_with fail
  refine (add_any F lb 3 [] firstC (.slice none 0 0) _ HL.out Good.none (by simp) (by omega) (IsI.non 0) first_sized).mono ?_
  rintro e w3 ⟨rfl, F3, hL3, hf1, hf2, ht⟩
  rw [why_first]
  rw [add_first] at hL3
  have HL3 : Hid (LogOk F3 w3 lb 3 [firstC]) := hL3
  have HB3 : Hid (Below w.heap.size w w3) := HB2.out.trans (ht.below HFn.out HB2.out.size)
  have HF3 : Hid (∀ k, F3 k → w.heap.size ≤ k) := fun k hk => by
    rcases hf2 k hk with h | h
    · exact HFn.out k h
    · exact Nat.le_trans HB2.out.size h
  clear hL3 hf1 hf2 ht HL HB2 HFn
  go_wp2_with fail
  refine (HF.out _).mono ?_
  rintro e w4 ⟨rfl, hb4⟩
  replace HL3 : Hid (LogOk F3 w4 lb 3 [firstC]) := HL3.out.below hb4
  have HB4 : Hid (Below w.heap.size w w4) := HB3.out.trans (hb4.mono HB3.out.size)
  clear hb4 HB3
  go_wp2_with fail
  refine (add_any F3 lb 3 [firstC] firstC (.slice none 0 0) _ HL3.out (by rw [← add_first]; exact addL_good Good.none 3 firstC) (by simp) (by omega) (IsI.non 0) first_sized).mono ?_
  rintro e w5 ⟨rfl, F5, hL5, hf1, hf2, ht⟩
  rw [why_first2]
  rw [add_first2] at hL5
  have HL5 : Hid (LogOk F5 w5 lb 3 [firstC]) := hL5
  have HB5 : Hid (Below w.heap.size w w5) := HB4.out.trans (ht.below HF3.out HB4.out.size)
  clear hL5 hf1 hf2 ht HL3 HB4 HF3
  go_wp2_with fail
  refine (len_any _ 3 [firstC] F5 _ HL5.out.v).mono ?_
  rintro e w6 ⟨rfl, hb6⟩
  have HL6 : Hid (LogOk F5 w6 lb 3 [firstC]) := HL5.out.below hb6
  have HB6 : Hid (Below w.heap.size w w6) := HB5.out.trans (hb6.mono HB5.out.size)
  clear hb6 HB5 HL5
  rw [show ((([firstC] : List Ch).length : Nat) : Int) = 1 from rfl]
  go_wp2_with fail
  refine (last_any _ 3 [firstC] F5 _ HL6.out.v (by simp)).mono ?_
  rintro e w7 ⟨rfl, hb7⟩
  have HB7 : Hid (Below w.heap.size w w7) := HB6.out.trans (hb7.mono HB6.out.size)
  clear hb7 HB6 HL6
  rw [show lastL [firstC] = 1 from rfl]
  go_wp2
  go_ret
  exact ⟨rfl, HB7.out⟩

end Go.Proofs.YtngldpabfpcaiaaGreat

namespace Go.Proofs.YtngldpabfpcaiaaGreat
open Go.RowKit
set_option linter.unusedVariables false
set_option linter.unusedSimpArgs false

theorem results_tmp_row {P : Program} {fn : Func} {p u : Tmp} {ty : TypeId} (h : fn.results = #[.tmp u, .cell p ty]) (tmps : Array Value) (w : World) (g : Nat) (t : TypeId) (cs : Array Value) (fr : Nat × Nat) (d : TypeDesc)
    (hp : tmps.getD p undef = .pointer (some ⟨g, 0, none⟩)) (hg : w.heap[g]? = some (.cells cs t fr))
    (hu : P.underlying ty = some d) (hd : (match d with | .struct _ | .array _ _ => true | _ => false) = true) (hi : (P.info? ty).map (·.size) = some cs.size) {k : Value} (hk : tmps.getD u undef = k) :
    (results fn tmps).run P w = .ok (.tuple #[k, .agg cs]) w := by
  have e : (results fn tmps).run P w = ((asAddr (tmps.getD p undef)).run P w).andThen fun a w₁ => ((loadVar ty a).run P w₁).andThen fun v w₂ => .ok (.tuple #[tmps.getD u undef, v]) w₂ := by
    simp only [results, h]
    simp [Sem.run_bind, Result.andThen]
  rw [e, hp, hk]
  simp [asAddr, run_loadVar_row w g t ty cs fr d hg hu hd hi]
/-- A log and the document's, whose box is yb, beside each other; the call's result lies at its first block. -/
structure Fil (w : World) (lb : Nat) (room : Int) (yb : Nat) (F G : Nat → Prop) (Lx Ly : List Ch) (yv : Value) (U : World) : Prop where
  log : LogOk F U lb room Lx
  firm : HFirm G U yv Ly
  ybox : U.heap[yb]? = some (.cells #[.int .i64 room, yv] 26)
  rbox : U.heap[w.heap.size]? = some (.cells #[.int .i64 0, .slice none 0 0] 26)
  bel : Below w.heap.size w U
  ff : ∀ k, F k → w.heap.size < k
  gw : ∀ k, G k → w.heap.size < k
  fg : ∀ k, G k → ¬ F k
  fy : ¬ F yb
  gy : ¬ G yb
  yw : w.heap.size < yb
section
variable {w : World} {lb : Nat} {room : Int} {yb : Nat} {F F' G : Nat → Prop} {Lx Lx' Ly Ly' : List Ch} {yv yv' : Value} {U U' : World}
theorem Fil.ne (h : Fil w lb room yb F G Lx Ly yv U) : yb ≠ w.heap.size := by have := h.yw; omega
theorem Fil.below (h : Fil w lb room yb F G Lx Ly yv U) (hb : Below U.heap.size U U') : Fil w lb room yb F G Lx Ly yv U' :=
  ⟨h.log.below hb, h.firm.below hb, (hb.block _ (row_lt h.ybox)).trans h.ybox, (hb.block _ (row_lt h.rbox)).trans h.rbox, h.bel.trans (hb.mono h.bel.size), h.ff, h.gw, h.fg, h.fy, h.gy, h.yw⟩
theorem Fil.add (h : Fil w lb room yb F G Lx Ly yv U) (hl : LogOk F' U' lb room Lx') (hf : ∀ k, F' k → F k ∨ U.heap.size ≤ k) (ht : Touch F U U') : Fil w lb room yb F' G Lx' Ly yv U' := by
  have hy := row_lt h.ybox
  have hr := row_lt h.rbox
  refine ⟨hl, h.firm.keep (ht.keeps fun k hk => ⟨h.firm.1 k hk, h.fg k hk⟩), (ht.block _ hy h.fy).trans h.ybox, (ht.block _ hr (fun hF => by have := h.ff _ hF; omega)).trans h.rbox, h.bel.trans (ht.below (fun k hk => by have := h.ff k hk; omega) h.bel.size), ?_, h.gw, ?_, ?_, h.gy, h.yw⟩
  · intro k hk
    rcases hf k hk with q | q
    · exact h.ff k q
    · omega
  · intro k hG hk
    rcases hf k hk with q | q
    · exact h.fg k hG q
    · have := h.firm.1 k hG; omega
  · intro hk
    rcases hf yb hk with q | q
    · exact h.fy q
    · omega
theorem Fil.put {N : Nat} (h : Fil w lb room yb F G Lx Ly yv U) (hf : HFirm (fun k => G k ∨ (N ≤ k ∧ k < U.heap.size)) U yv' Ly') (hy : yb < N) (hF : ∀ k, F k → k < N) :
    Fil w lb room yb F (fun k => G k ∨ (N ≤ k ∧ k < U.heap.size)) Lx Ly' yv' ((U.setCell ⟨yb, 0, none⟩ (.int .i64 room)).setCell ⟨yb, 1, none⟩ yv') := by
  have hyw := h.yw
  have far : ∀ k, k ≠ yb → ((U.setCell ⟨yb, 0, none⟩ (.int .i64 room)).setCell ⟨yb, 1, none⟩ yv').heap[k]? = U.heap[k]? := fun k hk => (RowKit.Below.heap_setCell _ _ _ _ hk).trans (RowKit.Below.heap_setCell _ _ _ _ hk)
  have hs : ((U.setCell ⟨yb, 0, none⟩ (.int .i64 room)).setCell ⟨yb, 1, none⟩ yv').heap.size = U.heap.size := by simp [World.setCell]
  refine ⟨h.log.keep ⟨Nat.le_of_eq hs.symm, fun k hk => far k (fun e => h.fy (e ▸ hk))⟩, hf.keep ⟨Nat.le_of_eq hs.symm, fun k hk => far k (fun e => ?_)⟩, row_set2 h.ybox, (far _ (by omega)).trans h.rbox, (h.bel.setCell (p := ⟨yb, 0, none⟩) (by show w.heap.size ≤ yb; omega) _).setCell (p := ⟨yb, 1, none⟩) (by show w.heap.size ≤ yb; omega) _, h.ff, ?_, ?_, h.fy, ?_, h.yw⟩
  · subst e
    rcases hk with q | q
    · exact h.gy q
    · omega
  · intro k hk
    rcases hk with q | q
    · exact h.gw k q
    · omega
  · intro k hk hFk
    rcases hk with q | q
    · exact h.fg k q hFk
    · have := hF k hFk; omega
  · intro hk
    rcases hk with q | q
    · exact h.gy q
    · omega
/-- What filled gives. -/
theorem Fil.last (h : Fil w lb room yb F G Lx Ly yv U) : LogOk F ((U.setCell ⟨w.heap.size, 0, none⟩ (.int .i64 room)).setCell ⟨w.heap.size, 1, none⟩ yv) lb room Lx ∧ HFirm G ((U.setCell ⟨w.heap.size, 0, none⟩ (.int .i64 room)).setCell ⟨w.heap.size, 1, none⟩ yv) yv Ly ∧ Below w.heap.size w ((U.setCell ⟨w.heap.size, 0, none⟩ (.int .i64 room)).setCell ⟨w.heap.size, 1, none⟩ yv) ∧ (∀ k, F k → w.heap.size ≤ k) ∧ (∀ k, G k → w.heap.size ≤ k) ∧ ∀ k, G k → ¬ F k := by
  have far : ∀ k, k ≠ w.heap.size → ((U.setCell ⟨w.heap.size, 0, none⟩ (.int .i64 room)).setCell ⟨w.heap.size, 1, none⟩ yv).heap[k]? = U.heap[k]? := fun k hk => (RowKit.Below.heap_setCell _ _ _ _ hk).trans (RowKit.Below.heap_setCell _ _ _ _ hk)
  have hs : ((U.setCell ⟨w.heap.size, 0, none⟩ (.int .i64 room)).setCell ⟨w.heap.size, 1, none⟩ yv).heap.size = U.heap.size := by simp [World.setCell]
  refine ⟨h.log.keep ⟨Nat.le_of_eq hs.symm, fun k hk => far k (fun e => by have := h.ff k hk; omega)⟩, h.firm.keep ⟨Nat.le_of_eq hs.symm, fun k hk => far k (fun e => by have := h.gw k hk; omega)⟩, (h.bel.setCell (p := ⟨w.heap.size, 0, none⟩) (Nat.le_refl _) _).setCell (p := ⟨w.heap.size, 1, none⟩) (Nat.le_refl _) _, fun k hk => Nat.le_of_lt (h.ff k hk), fun k hk => Nat.le_of_lt (h.gw k hk), h.fg⟩
end

set_option maxRecDepth 100000 in
set_option maxHeartbeats 8000000 in
theorem filled_any (room : Int) (v : Value) (l : List Ch) (w : World) (h : IsH w v l) (hr0 : 1 ≤ room) (hr1 : room ≤ 4096) :
    Calls Tryz.prog 5 #[.int .i64 room, v] w fun e w' => ∃ lb yv F G, e = .returned (.tuple #[.pointer (some ⟨lb, 0, none⟩), .agg #[.int .i64 room, yv]]) ∧ LogOk F w' lb room (fillL room l) ∧ HFirm G w' yv (fillL room l) ∧ Below w.heap.size w w' ∧ (∀ k, F k → w.heap.size ≤ k) ∧ (∀ k, G k → w.heap.size ≤ k) ∧ ∀ k, G k → ¬ F k := by
  obtain ⟨a1, c1, rfl, hc1, hl1, r1⟩ := h
  have HR : Hid (l = [] ∨ ∃ b o, a1 = some ⟨b, o, none⟩ ∧ ChsAt w b o l) := r1
  clear r1
  obtain ⟨W0, eW⟩ : ∃ X, X = w.alloc (.cells #[.int .i64 0, .slice none 0 0] 26) := ⟨_, rfl⟩
  have HR0 : Hid (W0.heap[w.heap.size]? = some (.cells #[.int .i64 0, .slice none 0 0] 26)) := by rw [eW]; exact heap_alloc_new _ _
  have hb0 : Below w.heap.size w W0 := by rw [eW]; exact (Below.refl _ _).alloc (Nat.le_refl _) _
  have hs0 : W0.heap.size = w.heap.size + 1 := by rw [eW]; simp
  go_enter Tryz.func5, Tryz.ntmps5
  go_wp2_with fail
  rw [← eW]
  clear eW
  refine (new_any room _).mono ?_
  rintro e w1 ⟨h, hb1⟩
  rcases h with ⟨h, _⟩ | ⟨_, lb, F, rfl, hL, hF⟩
  · omega
  obtain ⟨W2, eW2⟩ : ∃ X, X = w1.alloc (.cells #[.int .i64 room, .slice none 0 0] 26) := ⟨_, rfl⟩
  obtain ⟨yb, eyb⟩ : ∃ b, b = w1.heap.size := ⟨_, rfl⟩
  have hb2 : Below w1.heap.size w1 W2 := by rw [eW2]; exact (Below.refl _ _).alloc (Nat.le_refl _) _
  have HFl0 : Hid (Fil w lb room yb F (fun _ => False) (fillL room (l.take 0)) (fillL room (l.take 0)) (.slice none 0 0) W2) := by
    have hs1 := hb1.size
    refine ⟨hL.below hb2, HFirm.nil _, ?_, (hb2.block _ (by omega)).trans ((hb1.block _ (by omega)).trans HR0.out), hb0.trans ((hb1.mono (by omega)).trans (hb2.mono (by omega))), fun k hk => by have := hF k hk; omega, fun k hk => hk.elim, fun k hk => hk.elim, fun hk => ?_, fun hk => hk.elim, by omega⟩
    · rw [eyb, eW2]; exact heap_alloc_new _ _
    · have := hL.lt yb hk; omega
  clear hL hF hb1 HR0 hb0 hs0 hb2
  go_wp2
  rw [← eW2, ← eyb]
  clear eW2 eyb
  go_loopw [9] (fun i wr => ∃ (k : Nat) (F G : Nat → Prop) (yv : Value), k ≤ l.length ∧ i = .int .i64 (k : Int) ∧ Hid (Fil w lb room yb F G (fillL room (l.take k)) (fillL room (l.take k)) yv wr)) (fun i _ => l.length - (intOf i).toNat)
  case atStart => exact ⟨0, _, _, _, Nat.zero_le _, rfl, HFl0⟩
  case round =>
    obtain ⟨k, F, G, yv, hk, rfl, HFl⟩ := hrel
    by_cases hlt : k < l.length
    · obtain ⟨b1, o1, rfl, g1⟩ := HR.out.resolve_left (by intro e; subst e; simp at hlt)
      obtain ⟨a0, c0, i3, hs3, z⟩ := (g1 k hlt).all
      have hbb : b1 < w.heap.size := (g1 k hlt).lt
      have hc' : ∀ W', BelowH w W' → W'.cell? ⟨b1, o1 + k * 13, none⟩ = some (.int .i64 l[k].ac) ∧ W'.cell? ⟨b1, o1 + k * 13 + 1, none⟩ = some (.int .i64 l[k].ar) ∧ W'.cell? ⟨b1, o1 + k * 13 + 2, none⟩ = some (.int .i64 l[k].seq) ∧ W'.cell? ⟨b1, o1 + k * 13 + 3, none⟩ = some (.slice a0 l[k].deps.length c0) ∧ W'.cell? ⟨b1, o1 + k * 13 + 4, none⟩ = some (.int .i64 l[k].kind) ∧ W'.cell? ⟨b1, o1 + k * 13 + 5, none⟩ = some (.int .i64 l[k].nc) ∧ W'.cell? ⟨b1, o1 + k * 13 + 6, none⟩ = some (.int .i64 l[k].nr) ∧ W'.cell? ⟨b1, o1 + k * 13 + 7, none⟩ = some (.int .i64 l[k].pc) ∧ W'.cell? ⟨b1, o1 + k * 13 + 8, none⟩ = some (.int .i64 l[k].pr) ∧ W'.cell? ⟨b1, o1 + k * 13 + 9, none⟩ = some (.int .i64 l[k].fc) ∧ W'.cell? ⟨b1, o1 + k * 13 + 10, none⟩ = some (.int .i64 l[k].fr) ∧ W'.cell? ⟨b1, o1 + k * 13 + 11, none⟩ = some (.string l[k].name) ∧ W'.cell? ⟨b1, o1 + k * 13 + 12, none⟩ = some (.string l[k].value) := fun W' hb => by
        obtain ⟨z0, z1, z2, z3, z4, z5, z6, z7, z8, z9, z10, z11, z12⟩ := z
        exact ⟨(hb.cell (p := ⟨b1, o1 + k * 13, none⟩) hbb).trans z0, (hb.cell (p := ⟨b1, o1 + k * 13 + 1, none⟩) hbb).trans z1, (hb.cell (p := ⟨b1, o1 + k * 13 + 2, none⟩) hbb).trans z2, (hb.cell (p := ⟨b1, o1 + k * 13 + 3, none⟩) hbb).trans z3, (hb.cell (p := ⟨b1, o1 + k * 13 + 4, none⟩) hbb).trans z4, (hb.cell (p := ⟨b1, o1 + k * 13 + 5, none⟩) hbb).trans z5, (hb.cell (p := ⟨b1, o1 + k * 13 + 6, none⟩) hbb).trans z6, (hb.cell (p := ⟨b1, o1 + k * 13 + 7, none⟩) hbb).trans z7, (hb.cell (p := ⟨b1, o1 + k * 13 + 8, none⟩) hbb).trans z8, (hb.cell (p := ⟨b1, o1 + k * 13 + 9, none⟩) hbb).trans z9, (hb.cell (p := ⟨b1, o1 + k * 13 + 10, none⟩) hbb).trans z10, (hb.cell (p := ⟨b1, o1 + k * 13 + 11, none⟩) hbb).trans z11, (hb.cell (p := ⟨b1, o1 + k * 13 + 12, none⟩) hbb).trans z12⟩
      have k1 : (k : Int) < (l.length : Int) := by omega
      have k0 : (0 : Int) ≤ (k : Int) := by omega
      have HFs : Hid (fillL room (l.take (k + 1)) = addL (fillL room (l.take k)) room l[k]) := by
        have e := fillL_snoc room (l.take k) l[k]
        rw [← List.take_succ_eq_append_getElem hlt] at e
        exact e
      have hroom : ((fillL room (l.take k)).length : Int) ≤ room := fillL_room (by omega) _
      have HGd : Hid (Good (fillL room (l.take k))) := fillL_good _ _
      obtain ⟨⟨ac, ar, sq, ds, kd, nc, nr, pc, pr, fc, fr, nm, vl⟩, hc⟩ : ∃ c, c = l[k] := ⟨_, rfl⟩
      rw [← hc] at i3 hs3 hc' HFs
      simp only at hc'
      have HIc : Hid (IsI w (.slice a0 ds.length c0) ds) := i3
      have HSz : Hid (Sized (⟨ac, ar, sq, ds, kd, nc, nr, pc, pr, fc, fr, nm, vl⟩ : Ch)) := hs3
      have HC : Hid (∀ W', BelowH w W' → W'.cell? ⟨b1, o1 + k * 13, none⟩ = some (.int .i64 ac) ∧ W'.cell? ⟨b1, o1 + k * 13 + 1, none⟩ = some (.int .i64 ar) ∧ W'.cell? ⟨b1, o1 + k * 13 + 2, none⟩ = some (.int .i64 sq) ∧ W'.cell? ⟨b1, o1 + k * 13 + 3, none⟩ = some (.slice a0 ds.length c0) ∧ W'.cell? ⟨b1, o1 + k * 13 + 4, none⟩ = some (.int .i64 kd) ∧ W'.cell? ⟨b1, o1 + k * 13 + 5, none⟩ = some (.int .i64 nc) ∧ W'.cell? ⟨b1, o1 + k * 13 + 6, none⟩ = some (.int .i64 nr) ∧ W'.cell? ⟨b1, o1 + k * 13 + 7, none⟩ = some (.int .i64 pc) ∧ W'.cell? ⟨b1, o1 + k * 13 + 8, none⟩ = some (.int .i64 pr) ∧ W'.cell? ⟨b1, o1 + k * 13 + 9, none⟩ = some (.int .i64 fc) ∧ W'.cell? ⟨b1, o1 + k * 13 + 10, none⟩ = some (.int .i64 fr) ∧ W'.cell? ⟨b1, o1 + k * 13 + 11, none⟩ = some (.string nm) ∧ W'.cell? ⟨b1, o1 + k * 13 + 12, none⟩ = some (.string vl)) := hc'
      obtain ⟨p_0, p_1, p_2, p_3, p_4, p_5, p_6, p_7, p_8, p_9, p_10, p_11, p_12⟩ := HC.out _ HFl.out.bel
      generalize fillL room (l.take k) = L at *
      clear hc i3 hs3 g1 z hc'
      go_wp2_with fail
      refine (add_any F lb room L (⟨ac, ar, sq, ds, kd, nc, nr, pc, pr, fc, fr, nm, vl⟩ : Ch) (.slice a0 ds.length c0) _ HFl.out.log HGd.out hroom hr1 (HIc.out.below HFl.out.bel) HSz.out).mono ?_
      rintro e w3 ⟨rfl, F3, hL3, hf1, hf2, ht⟩
      rw [← HFs.out] at hL3
      have HF3 : Hid (Fil w lb room yb F3 G (fillL room (l.take (k + 1))) L yv w3) := HFl.out.add hL3 hf2 ht
      generalize whyR L room (⟨ac, ar, sq, ds, kd, nc, nr, pc, pr, fc, fr, nm, vl⟩ : Ch) = we
      clear hL3 hf1 hf2 ht HFl HGd p_0 p_1 p_2 p_3 p_4 p_5 p_6 p_7 p_8 p_9 p_10 p_11 p_12
      obtain ⟨F, eF⟩ : ∃ F', F' = F3 := ⟨_, rfl⟩
      obtain ⟨Lx, eLx⟩ : ∃ X, X = fillL room (l.take (k + 1)) := ⟨_, rfl⟩
      obtain ⟨Ly, eLy⟩ : ∃ X, X = L := ⟨_, rfl⟩
      rw [← eF, ← eLx, ← eLy] at HF3
      obtain ⟨ay, cy, ey⟩ := HF3.out.firm.isH.form
      rw [ey] at HF3
      have HFl : Hid (Fil w lb room yb F G Lx Ly (.slice ay Ly.length cy) w3) := HF3
      have HBw : Hid (BelowH w w3) := HF3.out.bel
      have hly : Ly.length ≤ 4096 := by rw [eLy]; omega
      have HLL : Hid (fillL room (l.take (k + 1)) = addL Ly room (⟨ac, ar, sq, ds, kd, nc, nr, pc, pr, fc, fr, nm, vl⟩ : Ch)) := by rw [eLy]; exact HFs.out
      have HLx : Hid (Lx = fillL room (l.take (k + 1))) := eLx
      clear HF3 eF eLx eLy ey HFs hroom
      go_upto_region 7 with fail
      refine wp_region_held_drew (S := fun W' => BelowH w W') (by kernel_rfl) (BelowH.below HBw.out (Below.refl _ _).drew) (fun hHeld => ?_)
      obtain ⟨Ua3u0, eW⟩ : ∃ X, X = w3.drew := ⟨_, rfl⟩
      have hb : Below w3.heap.size w3 Ua3u0 := by rw [eW]; exact (Below.refl _ _).drew
      replace HFl : Hid (Fil w lb room yb F G Lx Ly (.slice ay Ly.length cy) Ua3u0) := HFl.out.below hb
      replace HBw : Hid (BelowH w Ua3u0) := HBw.out.below hb
      rw [← eW] at hHeld ⊢
      clear eW hb
      refine wpAnyH_take (i := 1) (oi := ⟨some 31, _, _, _, _, _⟩) (v := ?va3ux1) rfl (by kernel_rfl) (by kernel_rfl) (by kernel_rfl) (fun _ _ _ h => h) (Or.inl ⟨by rfl, ?hya3ux1⟩) hHeld ?resta3ux1
      case hya3ux1 => (intro w _; go_simp; try with_reducible rfl)
      simp only [Act.put, List.setIfInBounds_toArray, List.set_cons_zero, List.set_cons_succ]
      refine wpAnyH_take (i := 2) (oi := ⟨some 32, _, _, _, _, _⟩) (v := ?va3ux2) rfl (by kernel_rfl) (by kernel_rfl) (by kernel_rfl) (fun _ _ _ h => h) (Or.inl ⟨by rfl, ?hya3ux2⟩) hHeld ?resta3ux2
      case hya3ux2 => (intro w _; go_simp; try with_reducible rfl)
      simp only [Act.put, List.setIfInBounds_toArray, List.set_cons_zero, List.set_cons_succ]
      refine wpAnyH_take (i := 3) (oi := ⟨some 33, _, _, _, _, _⟩) (v := ?va3ux3) rfl (by kernel_rfl) (by kernel_rfl) (by kernel_rfl) (fun _ _ _ h => h) (Or.inl ⟨by rfl, ?hya3ux3⟩) hHeld ?resta3ux3
      case hya3ux3 => (intro w hSw; (try dsimp only at hSw); have hk := hSw; obtain ⟨p_0, p_1, p_2, p_3, p_4, p_5, p_6, p_7, p_8, p_9, p_10, p_11, p_12⟩ := HC.out _ hk; go_simp; try with_reducible rfl)
      simp only [Act.put, List.setIfInBounds_toArray, List.set_cons_zero, List.set_cons_succ]
      refine wpAnyH_take (i := 4) (oi := ⟨some 34, _, _, _, _, _⟩) (v := ?va3ux4) rfl (by kernel_rfl) (by kernel_rfl) (by kernel_rfl) (fun _ _ _ h => h) (Or.inl ⟨by rfl, ?hya3ux4⟩) hHeld ?resta3ux4
      case hya3ux4 => (intro w hSw; (try dsimp only at hSw); have hk := hSw; obtain ⟨p_0, p_1, p_2, p_3, p_4, p_5, p_6, p_7, p_8, p_9, p_10, p_11, p_12⟩ := HC.out _ hk; go_simp; try with_reducible rfl)
      simp only [Act.put, List.setIfInBounds_toArray, List.set_cons_zero, List.set_cons_succ]
      refine wpAnyH_ready (rs := [0]) (by kernel_rfl) (by simp) ?_
      refine AllReadyH.cons (o := ⟨some 30, _, _, _, _, _⟩) rfl (fun K hK => ?_) AllReadyH.nil
      obtain ⟨x_0, x_1, _, _⟩ := row2_cells HFl.out.ybox
      go_simp
      refine hK.out _ _ (hHeld) (fun hHeld2 => ?_)
      clear hK K hHeld
      have hHeld := hHeld2
      clear hHeld2
      (try simp only [Act.put, List.setIfInBounds_toArray, List.set_cons_zero, List.set_cons_succ])
      clear x_0 x_1
      refine wpAnyH_ready (rs := [5]) (by kernel_rfl) (by simp) ?_
      refine AllReadyH.cons (o := ⟨some 35, _, _, _, _, _⟩) rfl (fun K hK => ?_) AllReadyH.nil
      have hyb : yb < Ua3u0.heap.size := row_lt HFl.out.ybox
      have HFk : Hid (∀ k, F k → k < Ua3u0.heap.size) := HFl.out.log.lt
      go_simp
      refine (refAdd_any G _ Ly room ac ar sq (.slice a0 ds.length c0) kd nc nr pc pr fc fr nm vl ds Ua3u0 HFl.out.firm (HIc.out.below HBw.out) HSz.out hly).mono ?_
      rintro e Ua3u2 ⟨v6, rfl, hf6, hb⟩
      (try go_wp2_with fail)
      refine hK.out _ _ (BelowH.below hHeld hb) (fun hHeld2 => ?_)
      clear hK K hHeld
      have hHeld := hHeld2
      clear hHeld2
      (try simp only [Act.put, List.setIfInBounds_toArray, List.set_cons_zero, List.set_cons_succ])
      replace HFl : Hid (Fil w lb room yb F G Lx Ly (.slice ay Ly.length cy) Ua3u2) := HFl.out.below hb
      replace HBw : Hid (BelowH w Ua3u2) := HBw.out.below hb
      obtain ⟨a6, c6, e6⟩ := hf6.isH.form
      subst e6
      have HF6 : Hid (HFirm (fun k => G k ∨ (Ua3u0.heap.size ≤ k ∧ k < Ua3u2.heap.size)) Ua3u2 (.slice a6 (addL Ly room (⟨ac, ar, sq, ds, kd, nc, nr, pc, pr, fc, fr, nm, vl⟩ : Ch)).length c6) (addL Ly room (⟨ac, ar, sq, ds, kd, nc, nr, pc, pr, fc, fr, nm, vl⟩ : Ch))) := hf6
      clear hf6
      clear hb
      refine wpAnyH_take (i := 6) (oi := ⟨some 29, _, _, _, _, _⟩) (v := ?va3u_0_5x6) rfl (by kernel_rfl) (by kernel_rfl) (by kernel_rfl) (fun _ _ _ h => h) (Or.inl ⟨by rfl, ?hya3u_0_5x6⟩) hHeld ?resta3u_0_5x6
      case hya3u_0_5x6 => (intro w _; go_simp; try with_reducible rfl)
      simp only [Act.put, List.setIfInBounds_toArray, List.set_cons_zero, List.set_cons_succ]
      refine wpAnyH_take (i := 7) (oi := ⟨some 36, _, _, _, _, _⟩) (v := ?va3u_0_5x7) rfl (by kernel_rfl) (by kernel_rfl) (by kernel_rfl) (fun _ _ _ h => h) (Or.inl ⟨by rfl, ?hya3u_0_5x7⟩) hHeld ?resta3u_0_5x7
      case hya3u_0_5x7 => (intro w _; go_simp; try with_reducible rfl)
      simp only [Act.put, List.setIfInBounds_toArray, List.set_cons_zero, List.set_cons_succ]
      refine wpAnyH_take (i := 8) (oi := ⟨some 37, _, _, _, _, _⟩) (v := ?va3u_0_5x8) rfl (by kernel_rfl) (by kernel_rfl) (by kernel_rfl) (fun _ _ _ h => h) (Or.inl ⟨by rfl, ?hya3u_0_5x8⟩) hHeld ?resta3u_0_5x8
      case hya3u_0_5x8 => (intro w _; go_simp; try with_reducible rfl)
      simp only [Act.put, List.setIfInBounds_toArray, List.set_cons_zero, List.set_cons_succ]
      refine wpAnyH_ready (rs := [9]) (by kernel_rfl) (by simp) ?_
      refine AllReadyH.cons (o := ⟨none, _, _, _, _, _⟩) rfl (fun K hK => ?_) AllReadyH.nil
      obtain ⟨r_0, r_1, r_2, r_3⟩ := row2_cells HFl.out.ybox
      go_simp
      refine hK.out _ _ ((HFl.out.put HF6.out hyb HFk.out).bel) (fun hHeld2 => ?_)
      clear hK K hHeld
      have hHeld := hHeld2
      clear hHeld2
      (try simp only [Act.put, List.setIfInBounds_toArray, List.set_cons_zero, List.set_cons_succ])
      have HFl9 : Hid (Fil w lb room yb F (fun k => G k ∨ (Ua3u0.heap.size ≤ k ∧ k < Ua3u2.heap.size)) Lx (addL Ly room (⟨ac, ar, sq, ds, kd, nc, nr, pc, pr, fc, fr, nm, vl⟩ : Ch)) (.slice a6 (addL Ly room (⟨ac, ar, sq, ds, kd, nc, nr, pc, pr, fc, fr, nm, vl⟩ : Ch)).length c6) ((Ua3u2.setCell ⟨yb, 0, none⟩ (.int .i64 room)).setCell ⟨yb, 1, none⟩ (.slice a6 (addL Ly room (⟨ac, ar, sq, ds, kd, nc, nr, pc, pr, fc, fr, nm, vl⟩ : Ch)).length c6))) := HFl.out.put HF6.out hyb HFk.out
      clear r_0 r_1 r_2 r_3 HFl HF6
      refine wpAnyH_done (by kernel_rfl) ?_ _
      clear hHeld
      go_wp2
      go_roundw
      case rel => exact ⟨k + 1, _, _, _, by omega, by go_num, (by have e2 := HLL.out; have e3 : Lx = addL Ly room (⟨ac, ar, sq, ds, kd, nc, nr, pc, pr, fc, fr, nm, vl⟩ : Ch) := HLx.out.trans e2; rw [e2]; rw [e3] at HFl9; exact HFl9)⟩
      case measure => simp [intOf]; omega
    · have hkl : k = l.length := by omega
      subst hkl
      rw [List.take_length] at HFl
      obtain ⟨Ly, eLy⟩ : ∃ X, X = fillL room l := ⟨_, rfl⟩
      rw [← eLy] at HFl
      obtain ⟨Lx, eLx⟩ : ∃ X, X = Ly := ⟨_, rfl⟩
      obtain ⟨ay, cy, ey⟩ := HFl.out.firm.isH.form
      subst ey
      have HLy : Hid (fillL room l = Ly) := eLy.symm
      clear eLy
      rw [show Fil w lb room yb F G Ly Ly = Fil w lb room yb F G Lx Ly by rw [eLx]] at HFl
      have HLx : Hid (Lx = Ly) := eLx
      clear eLx hlt
      go_upto_region 8 with fail
      refine wp_region_held_drew (S := fun W' => W'.heap[yb]? = some (.cells #[.int .i64 room, .slice ay Ly.length cy] 26)) (by kernel_rfl) HFl.out.ybox (fun hHeld => ?_)
      obtain ⟨Ub4u0, eW⟩ : ∃ X, X = wr.drew := ⟨_, rfl⟩
      have hb : Below wr.heap.size wr Ub4u0 := by rw [eW]; exact (Below.refl _ _).drew
      replace HFl : Hid (Fil w lb room yb F G Lx Ly (.slice ay Ly.length cy) Ub4u0) := HFl.out.below hb
      rw [← eW] at hHeld ⊢
      clear eW hb
      refine wpAnyH_take (i := 0) (oi := ⟨some 38, _, _, _, _, _⟩) (v := ?vb4ux0) rfl (by kernel_rfl) (by kernel_rfl) (by kernel_rfl) (fun _ _ _ h => h) (Or.inl ⟨by rfl, ?hyb4ux0⟩) hHeld ?restb4ux0
      case hyb4ux0 => (intro w _; go_simp; try with_reducible rfl)
      simp only [Act.put, List.setIfInBounds_toArray, List.set_cons_zero, List.set_cons_succ]
      refine wpAnyH_take (i := 1) (oi := ⟨some 39, _, _, _, _, _⟩) (v := ?vb4ux1) rfl (by kernel_rfl) (by kernel_rfl) (by kernel_rfl) (fun _ _ _ h => h) (Or.inl ⟨by rfl, ?hyb4ux1⟩) hHeld ?restb4ux1
      case hyb4ux1 => (intro w hSw; (try dsimp only at hSw); have hk := hSw; obtain ⟨x_0, x_1, _, _⟩ := row2_cells hk; go_simp; try with_reducible rfl)
      simp only [Act.put, List.setIfInBounds_toArray, List.set_cons_zero, List.set_cons_succ]
      refine wpAnyH_take (i := 2) (oi := ⟨some 4, _, _, _, _, _⟩) (v := ?vb4ux2) rfl (by kernel_rfl) (by kernel_rfl) (by kernel_rfl) (fun _ _ _ h => h) (Or.inl ⟨by rfl, ?hyb4ux2⟩) hHeld ?restb4ux2
      case hyb4ux2 => (intro w _; go_simp; try with_reducible rfl)
      simp only [Act.put, List.setIfInBounds_toArray, List.set_cons_zero, List.set_cons_succ]
      refine wpAnyH_ready (rs := [3]) (by kernel_rfl) (by simp) ?_
      refine AllReadyH.cons (o := ⟨none, _, _, _, _, _⟩) rfl (fun K hK => ?_) AllReadyH.nil
      obtain ⟨r_0, r_1, r_2, r_3⟩ := row2_cells HFl.out.rbox
      go_simp
      refine hK.out _ _ (row_set_other (row_set_other hHeld HFl.out.ne) HFl.out.ne) (fun hHeld2 => ?_)
      clear hK K hHeld
      have hHeld := hHeld2
      clear hHeld2
      (try simp only [Act.put, List.setIfInBounds_toArray, List.set_cons_zero, List.set_cons_succ])
      have HE := HFl.out.last
      have HSm : Hid (((Ub4u0.setCell ⟨w.heap.size, 0, none⟩ (.int .i64 room)).setCell ⟨w.heap.size, 1, none⟩ (.slice ay Ly.length cy)).heap[w.heap.size]? = some (.cells #[.int .i64 room, .slice ay Ly.length cy] 26)) := row_set2 HFl.out.rbox
      clear r_0 r_1 r_2 r_3
      refine wpAnyH_done (by kernel_rfl) ?_ _
      clear hHeld
      have HE2 : Hid (_ ∧ _) := HE
      clear HE
      go_wp2
      (try simp only [Exit.inBlock, Exit.then])
      refine bodyPost_ret (v := .tuple #[.pointer (some ⟨lb, 0, none⟩), .agg #[.int .i64 room, .slice ay Ly.length cy]]) ?res rfl ?post
      case res => exact results_tmp_row rfl _ _ w.heap.size _ _ _ _ rfl HSm.out Tryz.underlying26 rfl (by kernel_rfl) rfl
      obtain ⟨q1, q2, q3⟩ := HE2.out
      rw [HLx.out] at q1
      refine ⟨lb, _, F, G, rfl, ?_, ?_, q3⟩
      · rw [HLy.out]; exact q1
      · rw [HLy.out]; exact q2

end Go.Proofs.YtngldpabfpcaiaaGreat

namespace Go.Proofs.YtngldpabfpcaiaaGreat
open Go.RowKit
set_option linter.unusedVariables false
set_option linter.unusedSimpArgs false

theorem sizeOwn : (Tryz.prog.info? 75).map (·.size) = some 64 := by kernel_rfl
theorem index_own (own : List Value) (h : own.length = 64) (k : Nat) (hk : k < own.length) (w : World) : (Instr.index 75 (.agg own.toArray) (.int .i64 (k : Int))).run Tryz.prog w = .ok own[k] w := by
  have hs : (sizeOf 74).run Tryz.prog w = .ok 1 w := by kernel_rfl
  have ha : (isAgg 74).run Tryz.prog w = .ok false w := by kernel_rfl
  have h64 : (k : Int) < 64 := by omega
  have h0 : (0 : Int) ≤ (k : Int) := by omega
  simp [Instr.index, run_underlying Tryz.underlying75, asIntOf, part, hs, ha, h64, h0, hk, Result.andThen]
  intro h'
  omega
theorem counts_take (L : List Ch) {k : Nat} (hk : k < 64) : (counts L).take (k + 1) = (counts L).take k ++ [(cntR L (k : Int) : Int)] := by
  rw [List.take_succ_eq_append_getElem (by rw [counts_length]; exact hk)]
  simp [counts]

set_option maxRecDepth 100000 in
set_option maxHeartbeats 4000000 in
theorem clock_any (v : Value) (room : Int) (L : List Ch) (F : Nat → Prop) (w : World) (h : LogV F w v room L) :
    Calls Tryz.prog 15 #[v] w fun e w' => ∃ v', e = .returned v' ∧ OwnI w.heap.size w' v' (clockL L) ∧ Below w.heap.size w w' := by
  obtain ⟨i0, hi, hz0, hz1, hz2⟩ := info_parts infoInt
  go_enter Tryz.func15, Tryz.ntmps15
  go_wp2_with fail
  refine (orEmpty_any v room L F w h).mono ?_
  rintro e w1 ⟨lb, F', rfl, ⟨mb, ord, own, D, h1⟩, h2, hff⟩
  clear hff
  have HL : Hid (LogIs F' w1 lb room L mb ord own D) := h1
  have HB : Hid (Below w.heap.size w w1) := h2
  have hlen := h1.len
  have HR : Hid (w1.rangeAt lb 3 own) := fun j u hj => by
    obtain ⟨hj2, e2⟩ := List.getElem?_eq_some_iff.1 hj
    rw [h1.cellr hj2, e2]
  clear h h1 h2
  rename_i hKq
  refine hKq _ _ ?_
  refine wpList_plain rfl (fun K hK => ?_)
  go_simp
  refine hK _ _ ?_
  clear hK K
  refine wpList_plain rfl (fun K hK => ?_)
  go_simp
  refine hK _ _ ?_
  clear hK K
  refine wpList_load_mid rfl 75 (.tmp 9) rfl lb 3 rfl own _ HR.out Tryz.underlying75 rfl (by rw [hlen]; exact sizeOwn) ?_
  (try simp only [Act.put, List.setIfInBounds_toArray, List.set_cons_zero, List.set_cons_succ])
  go_wp2
  go_loopw [3, 5, 11] (fun ov _ iv wr => ∃ k : Nat, k ≤ 64 ∧ iv = .int .i64 (k : Int) ∧ Hid (OwnI w.heap.size wr ov ((counts L).take k)) ∧ Hid (Below w.heap.size w wr)) (fun _ _ iv _ => 64 - (intOf iv).toNat)
  case atStart => exact ⟨0, Nat.zero_le _, rfl, OwnI.nil0 _ _, HB⟩
  case round =>
    obtain ⟨k, hk, rfl, HO, HBr⟩ := hrel
    have hszr := HBr.out.size
    by_cases hlt : k < 64
    · have hko : k < own.length := by omega
      obtain ⟨a2, c2, e2⟩ := (HL.out.hown k hko).form
      have hix := index_own own hlen k hko wr
      rw [e2, stL_length] at hix
      have HC : Hid ((ofR L (k : Int)).length = cntR L (k : Int)) := rfl
      rw [HC.out] at hix
      have HT : Hid ((counts L).take (k + 1) = (counts L).take k ++ [(cntR L (k : Int) : Int)]) := counts_take L hlt
      have hll : ((counts L).take k).length = k := by rw [List.length_take, counts_length]; omega
      obtain ⟨T, hT⟩ : ∃ T, T = (counts L).take k := ⟨_, rfl⟩
      rw [← hT] at HO HT hll
      clear hT e2
      generalize cntR L (k : Int) = n1 at *
      obtain ⟨ao, co, e0⟩ := HO.out.form
      subst e0
      have k1 : (k : Int) < 64 := by omega
      have hTl : T.length ≤ 64 := by omega
      clear hll
      go_wp2_with (at_builtin; refine wpList_append_own _ rfl _ _ 23 rfl w.heap.size 3 i0 (.int .i64 0) 1 8 Tryz.underlying23 hi hz0 hz1 hz2 rfl (by decide) _ _ _ rfl (World.ownsRow.alloc HO.out _) ⟨wr.heap.size, 0, none⟩ 1 1 [.int .i64 (n1 : Int)] rfl rfl (cell_one_new _ _ _) (by simp [Value.oneCell']) (by unfold maxLen; omega) (by omega) (by simp; omega) ?_; intro v3 w3 hown3 hgrow3 hnil3)
      have hb3 : Below w.heap.size w w3 := (HBr.out.alloc (by omega) _).grown hgrow3 (by simp; omega) (fun j e => HO.out.block j e)
      go_roundw
      case rel => exact ⟨k + 1, by omega, by first | rfl | go_num, by rw [HT.out]; exact OwnI.snoc hown3, hb3⟩
      case measure => simp [intOf]; omega
    · obtain rfl : k = 64 := by omega
      have ho2 := HO.out
      rw [List.take_of_length_le (by rw [counts_length]; exact Nat.le_refl _)] at ho2
      have HO2 : Hid (OwnI w.heap.size wr _ (counts L)) := ho2
      clear ho2
      go_wp2_with fail
      refine (trim_any _ (counts L) _ (HO2.out.isI (by rw [counts_length]; omega))).mono ?_
      rintro e w4 ⟨v4, rfl, ho4, hb4⟩
      have HB4 : Hid (Below w.heap.size w w4) := HBr.out.trans (hb4.mono hszr)
      have HO4 : Hid (OwnI w.heap.size w4 v4 (clockL L)) := ho4.low hszr
      clear ho4 hb4
      go_wp2
      go_ret
      exact ⟨v4, rfl, HO4.out, HB4.out⟩

end Go.Proofs.YtngldpabfpcaiaaGreat

namespace Go.Proofs.YtngldpabfpcaiaaGreat
open Go.RowKit
set_option linter.unusedVariables false
set_option linter.unusedSimpArgs false

set_option maxRecDepth 100000 in
set_option maxHeartbeats 8000000 in
theorem refSameCh_eq (ac ar sq : Int) (v1 v2 : Value) (kd nc nr pc pr fc fr : Int) (nm vl : ByteArray) (ds : List Int) (w : World) (h1 : IsI w v1 ds) (h2 : IsI w v2 ds) :
    Calls Tryz.prog 23 #[.agg #[.int .i64 ac, .int .i64 ar, .int .i64 sq, v1, .int .i64 kd, .int .i64 nc, .int .i64 nr, .int .i64 pc, .int .i64 pr, .int .i64 fc, .int .i64 fr, .string nm, .string vl], .agg #[.int .i64 ac, .int .i64 ar, .int .i64 sq, v2, .int .i64 kd, .int .i64 nc, .int .i64 nr, .int .i64 pc, .int .i64 pr, .int .i64 fc, .int .i64 fr, .string nm, .string vl]] w fun e w' => e = .returned (.bool true) ∧ Below w.heap.size w w' := by
  obtain ⟨a1, c1, e1⟩ := h1.form
  subst e1
  obtain ⟨a2, c2, e2⟩ := h2.form
  subst e2
  have K0 := KeptC.start w [.int .i64 ac, .int .i64 ar, .int .i64 sq, .slice a1 ds.length c1, .int .i64 kd, .int .i64 nc, .int .i64 nr, .int .i64 pc, .int .i64 pr, .int .i64 fc, .int .i64 fr, .string nm, .string vl] 38
  have M0 := KeptC.start (w.alloc (.cells #[.int .i64 ac, .int .i64 ar, .int .i64 sq, .slice a1 ds.length c1, .int .i64 kd, .int .i64 nc, .int .i64 nr, .int .i64 pc, .int .i64 pr, .int .i64 fc, .int .i64 fr, .string nm, .string vl] 38)) [.int .i64 ac, .int .i64 ar, .int .i64 sq, .slice a2 ds.length c2, .int .i64 kd, .int .i64 nc, .int .i64 nr, .int .i64 pc, .int .i64 pr, .int .i64 fc, .int .i64 fr, .string nm, .string vl] 38
  rw [show (w.alloc (.cells #[.int .i64 ac, .int .i64 ar, .int .i64 sq, .slice a1 ds.length c1, .int .i64 kd, .int .i64 nc, .int .i64 nr, .int .i64 pc, .int .i64 pr, .int .i64 fc, .int .i64 fr, .string nm, .string vl] 38)).heap.size = w.heap.size + 1 by simp] at M0
  have K1 := K0.step M0.2.2
  have H1 : Hid (IsI _ (.slice a1 ds.length c1) ds) := h1.below K1.2.2
  have H2 : Hid (IsI _ (.slice a2 ds.length c2) ds) := h2.below K1.2.2
  clear h1 h2
  go_enter Tryz.func23, Tryz.ntmps23
  go_wp2_with fail
  refine (sameI_any _ _ ds ds _ H1.out H2.out).mono ?_
  rintro e w1 ⟨rfl, hb1⟩
  have d0 : decide (ds = ds) = true := by simp
  rw [d0]
  have K2 := K1.step hb1
  have M2 := M0.step hb1
  obtain ⟨k_0, k_1, k_2, k_3, k_4, k_5, k_6, k_7, k_8, k_9, k_10, k_11, k_12⟩ := K2.all
  obtain ⟨m_0, m_1, m_2, m_3, m_4, m_5, m_6, m_7, m_8, m_9, m_10, m_11, m_12⟩ := M2.all
  have q1 : (nm.toList == nm.toList) = true := by simp
  have q2 : (vl.toList == vl.toList) = true := by simp
  go_wp2
  go_ret
  exact ⟨rfl, K2.2.2⟩

end Go.Proofs.YtngldpabfpcaiaaGreat

namespace Go.Proofs.YtngldpabfpcaiaaGreat
open Go.RowKit
set_option linter.unusedVariables false
set_option linter.unusedSimpArgs false

theorem rangeAt_below {w W : World} {b o : Nat} {c : Ch} {dv : Value} (h : w.rangeAt b o (chCells c dv)) (hb : Below w.heap.size w W) : W.rangeAt b o (chCells c dv) := fun j v hj => by
  have h0 := h 0 _ rfl
  have hlt : b < w.heap.size := by
    rcases Nat.lt_or_ge b w.heap.size with h' | h'
    · exact h'
    · simp [World.cell?, h'] at h0
  exact (hb.cell (p := ⟨b, o + j, none⟩) hlt).trans (h j v hj)

set_option maxRecDepth 100000 in
set_option maxHeartbeats 4000000 in
theorem sameAll_eq (v1 v2 : Value) (L : List Ch) (w : World) (h1 : IsH w v1 L) (h2 : IsH w v2 L) :
    Calls Tryz.prog 9 #[v1, v2] w fun e w' => e = .returned (.bool true) ∧ Below w.heap.size w w' := by
  obtain ⟨a1, c1, rfl, hc1, hl1, r1⟩ := h1
  obtain ⟨a2, c2, rfl, hc2, hl2, r2⟩ := h2
  have R1 : Hid (L = [] ∨ ∃ b o, a1 = some ⟨b, o, none⟩ ∧ ChsAt w b o L) := r1
  have R2 : Hid (L = [] ∨ ∃ b o, a2 = some ⟨b, o, none⟩ ∧ ChsAt w b o L) := r2
  have q : ((L.length : Int) != (L.length : Int)) = false := by simp
  clear r1 r2
  go_enter Tryz.func9, Tryz.ntmps9
  go_wp2
  go_loopw [5] (fun i wr => ∃ k : Nat, k ≤ L.length ∧ i = .int .i64 (k : Int) ∧ Below w.heap.size w wr) (fun i _ => L.length - (intOf i).toNat)
  case atStart => exact ⟨0, Nat.zero_le _, rfl, Below.refl _ _⟩
  case round =>
    obtain ⟨k, hk, rfl, hb⟩ := hrel
    by_cases hlt : k < L.length
    · obtain ⟨b1, o1, rfl, g1⟩ := R1.out.resolve_left (by intro e; subst e; simp at hlt)
      obtain ⟨b2, o2, rfl, g2⟩ := R2.out.resolve_left (by intro e; subst e; simp at hlt)
      obtain ⟨a3, c3, i3, hs3, x3⟩ := (g1 k hlt).open
      obtain ⟨a4, c4, i4, hs4, x4⟩ := (g2 k hlt).open
      have k1 : (k : Int) < (L.length : Int) := by omega
      have k0 : (0 : Int) ≤ (k : Int) := by omega
      generalize L[k] = c at *
      have X3 : Hid (w.rangeAt b1 (o1 + k * 13) (chCells c (.slice a3 c.deps.length c3))) := x3
      have X4 : Hid (w.rangeAt b2 (o2 + k * 13) (chCells c (.slice a4 c.deps.length c4))) := x4
      have I3 : Hid (IsI w (.slice a3 c.deps.length c3) c.deps) := i3
      have I4 : Hid (IsI w (.slice a4 c.deps.length c4) c.deps) := i4
      have HB : Hid (Below w.heap.size w wr) := hb
      have hsw := hb.size
      clear g1 g2 i3 i4 hs3 hs4 x3 x4 hb
      go_upto_region 6 with fail
      refine wp_region_held_drew (S := fun W' => Below w.heap.size w W') (by kernel_rfl) (below_drewN HB.out 1) (fun hHeld => ?_)
      obtain ⟨Ua0, eW⟩ : ∃ X, X = wr.drew := ⟨_, rfl⟩
      rw [← eW] at hHeld ⊢
      clear eW
      refine wpAnyH_take (i := 0) (oi := ⟨some 17, _, _, _, _, _⟩) (v := ?vax0) rfl (by kernel_rfl) (by kernel_rfl) (by kernel_rfl) (fun _ _ _ h => h) (Or.inl ⟨by rfl, ?hyax0⟩) hHeld ?restax0
      case hyax0 => (intro w hSw; (try dsimp only at hSw); go_simp; try with_reducible rfl)
      simp only [Act.put, List.setIfInBounds_toArray, List.set_cons_zero, List.set_cons_succ]
      refine wpAnyH_take (i := 1) (oi := ⟨some 18, _, _, _, _, _⟩) (v := ?vax1) rfl (by kernel_rfl) (by kernel_rfl) (by kernel_rfl) (fun _ _ _ h => h) (Or.inl ⟨by rfl, ?hyax1⟩) hHeld ?restax1
      case hyax1 => (intro w hSw; (try dsimp only at hSw); go_simp; try with_reducible rfl)
      simp only [Act.put, List.setIfInBounds_toArray, List.set_cons_zero, List.set_cons_succ]
      refine wpAnyH_take (i := 2) (oi := ⟨some 19, _, _, _, _, _⟩) (v := ?vax2) rfl (by kernel_rfl) (by kernel_rfl) (by kernel_rfl) (fun _ _ _ h => h) (Or.inl ⟨by rfl, ?hyax2⟩) hHeld ?restax2
      case hyax2 => (intro w hSw; (try dsimp only at hSw); go_simp; try with_reducible rfl)
      simp only [Act.put, List.setIfInBounds_toArray, List.set_cons_zero, List.set_cons_succ]
      refine wpAnyH_take (i := 3) (oi := ⟨some 20, _, _, _, _, _⟩) (v := .agg (chCells c (.slice a3 c.deps.length c3)).toArray) rfl (by kernel_rfl) (by kernel_rfl) (by kernel_rfl) (fun _ _ _ h => h) (yieldsIf_load_mid (by rfl) 38 (.tmp 19) rfl b1 (o1 + k * 13) rfl (chCells c (.slice a3 c.deps.length c3)) _ (fun W hS => rangeAt_below X3.out hS) Tryz.underlying38 rfl sizeChange) hHeld ?_
      simp only [Act.put, List.setIfInBounds_toArray, List.set_cons_zero, List.set_cons_succ]
      refine wpAnyH_take (i := 4) (oi := ⟨some 21, _, _, _, _, _⟩) (v := ?vax4) rfl (by kernel_rfl) (by kernel_rfl) (by kernel_rfl) (fun _ _ _ h => h) (Or.inl ⟨by rfl, ?hyax4⟩) hHeld ?restax4
      case hyax4 => (intro w hSw; (try dsimp only at hSw); go_simp; try with_reducible rfl)
      simp only [Act.put, List.setIfInBounds_toArray, List.set_cons_zero, List.set_cons_succ]
      refine wpAnyH_take (i := 5) (oi := ⟨some 22, _, _, _, _, _⟩) (v := ?vax5) rfl (by kernel_rfl) (by kernel_rfl) (by kernel_rfl) (fun _ _ _ h => h) (Or.inl ⟨by rfl, ?hyax5⟩) hHeld ?restax5
      case hyax5 => (intro w hSw; (try dsimp only at hSw); go_simp; try with_reducible rfl)
      simp only [Act.put, List.setIfInBounds_toArray, List.set_cons_zero, List.set_cons_succ]
      refine wpAnyH_take (i := 6) (oi := ⟨some 23, _, _, _, _, _⟩) (v := ?vax6) rfl (by kernel_rfl) (by kernel_rfl) (by kernel_rfl) (fun _ _ _ h => h) (Or.inl ⟨by rfl, ?hyax6⟩) hHeld ?restax6
      case hyax6 => (intro w hSw; (try dsimp only at hSw); go_simp; try with_reducible rfl)
      simp only [Act.put, List.setIfInBounds_toArray, List.set_cons_zero, List.set_cons_succ]
      refine wpAnyH_take (i := 7) (oi := ⟨some 24, _, _, _, _, _⟩) (v := .agg (chCells c (.slice a4 c.deps.length c4)).toArray) rfl (by kernel_rfl) (by kernel_rfl) (by kernel_rfl) (fun _ _ _ h => h) (yieldsIf_load_mid (by rfl) 38 (.tmp 23) rfl b2 (o2 + k * 13) rfl (chCells c (.slice a4 c.deps.length c4)) _ (fun W hS => rangeAt_below X4.out hS) Tryz.underlying38 rfl sizeChange) hHeld ?_
      simp only [Act.put, List.setIfInBounds_toArray, List.set_cons_zero, List.set_cons_succ]
      refine wpAnyH_ready (rs := [8]) (by kernel_rfl) (by simp) ?_
      refine AllReadyH.cons (o := ⟨some 25, _, _, _, _, _⟩) rfl (fun K hK => ?_) AllReadyH.nil
      go_simp
      refine (refSameCh_eq c.ac c.ar c.seq (.slice a3 c.deps.length c3) (.slice a4 c.deps.length c4) c.kind c.nc c.nr c.pc c.pr c.fc c.fr c.name c.value c.deps _ (I3.out.below hHeld) (I4.out.below hHeld)).mono ?_
      rintro e Va1 ⟨rfl, hb⟩
      (try go_wp2_with fail)
      refine hK.out _ _ (hHeld.trans (hb.mono hHeld.size)) (fun hHeld2 => ?_)
      clear hK K hHeld
      have hHeld := hHeld2
      clear hHeld2
      (try simp only [Act.put, List.setIfInBounds_toArray, List.set_cons_zero, List.set_cons_succ])
      clear hb
      refine wpAnyH_take (i := 9) (oi := ⟨some 26, _, _, _, _, _⟩) (v := ?va_8x9) rfl (by kernel_rfl) (by kernel_rfl) (by kernel_rfl) (fun _ _ _ h => h) (Or.inl ⟨by rfl, ?hya_8x9⟩) hHeld ?resta_8x9
      case hya_8x9 => (intro w hSw; (try dsimp only at hSw); go_simp; try with_reducible rfl)
      simp only [Act.put, List.setIfInBounds_toArray, List.set_cons_zero, List.set_cons_succ]
      refine wpAnyH_done (by kernel_rfl) ?_ _
      have HZ := hHeld
      clear hHeld
      go_wp2
      go_roundw
      case rel => exact ⟨k + 1, by omega, by go_num, HZ⟩
      case measure => simp [intOf]; omega
    · go_wp2
      go_ret
      exact ⟨rfl, hb⟩

end Go.Proofs.YtngldpabfpcaiaaGreat

namespace Go.Proofs.YtngldpabfpcaiaaGreat
open Go.RowKit
set_option linter.unusedVariables false
set_option linter.unusedSimpArgs false

theorem all_any (v : Value) (room : Int) (L : List Ch) (F : Nat → Prop) (w : World) (h : LogV F w v room L) (hg : Good L) (hl : L.length ≤ 4096) :
    Calls Tryz.prog 10 #[v] w fun e w' => ∃ v' E, e = .returned v' ∧ E.map Prod.fst = L ∧ OwnH w.heap.size w' v' E ∧ (∀ x ∈ E, OwnI w.heap.size w' x.2 x.1.deps ∧ Sized x.1 ∧ x.1.deps.length ≤ 17592186044416) ∧ Below w.heap.size w w' :=
  (callsIn_wide.1 (all_in 5 (Nat.le_refl _) v room L F w h hg.srt hl)).mono fun e w' ⟨v', E, h1, h2, h3⟩ => ⟨v', E, h1, h2.trans (lackL_all hg), h3⟩

set_option maxRecDepth 100000 in
set_option maxHeartbeats 16000000 in
theorem told_any (F : Nat → Prop) (v : Value) (room : Int) (L : List Ch) (yv : Value) (w : World) (h : LogV F w v room L) (hy : IsH w yv L) (hg : Good L) (hl : L.length ≤ 4096) :
    Calls Tryz.prog 11 #[v, .agg #[.int .i64 room, yv]] w fun e w' => e = .returned (.bool true) ∧ Below w.heap.size w w' := by
  obtain ⟨ay, cy, ey⟩ := hy.form
  subst ey
  obtain ⟨W0, eW⟩ : ∃ X, X = w.alloc (.cells #[.int .i64 room, .slice ay L.length cy] 26) := ⟨_, rfl⟩
  have hb0 : Below w.heap.size w W0 := by rw [eW]; exact (Below.refl _ _).alloc (Nat.le_refl _) _
  have HRow : Hid (W0.drew.heap[w.heap.size]? = some (.cells #[.int .i64 room, .slice ay L.length cy] 26)) := by rw [eW]; exact heap_alloc_new _ _
  have HLv : Hid (LogV F W0 v room L) := h.below hb0
  have HH : Hid (IsH W0 (.slice ay L.length cy) L) := hy.below hb0
  have HBw : Hid (Below w.heap.size w W0) := hb0
  have HG : Hid (Good L) := hg
  have HLm : Hid (L.foldl (fun m c => max m c.ac) 0 = lastL L) := lastL_max hg
  clear h hy hg hb0
  go_enter Tryz.func11, Tryz.ntmps11
  go_upto_region 1 with fail
  rw [← eW]
  clear eW
  refine wp_region_held_drew (S := fun W' => W'.heap[w.heap.size]? = some (.cells #[.int .i64 room, .slice ay L.length cy] 26)) (by kernel_rfl) HRow.out (fun hHeld => ?_)
  obtain ⟨Ut1u0, eW⟩ : ∃ X, X = W0.drew := ⟨_, rfl⟩
  have hb : Below W0.heap.size W0 Ut1u0 := by rw [eW]; exact (Below.refl _ _).drew
  replace HLv : Hid (LogV F Ut1u0 v room L) := HLv.out.below hb
  replace HH : Hid (IsH Ut1u0 (.slice ay L.length cy) L) := HH.out.below hb
  replace HBw : Hid (Below w.heap.size w Ut1u0) := HBw.out.trans (hb.mono HBw.out.size)
  rw [← eW] at hHeld ⊢
  clear eW hb
  refine wpAnyH_take (i := 0) (oi := ⟨some 5, _, _, _, _, _⟩) (v := ?vt1ux0) rfl (by kernel_rfl) (by kernel_rfl) (by kernel_rfl) (fun _ _ _ h => h) (Or.inl ⟨by rfl, ?hyt1ux0⟩) hHeld ?restt1ux0
  case hyt1ux0 => (intro w _; go_simp; try with_reducible rfl)
  simp only [Act.put, List.setIfInBounds_toArray, List.set_cons_zero, List.set_cons_succ]
  refine wpAnyH_take (i := 2) (oi := ⟨some 7, _, _, _, _, _⟩) (v := ?vt1ux2) rfl (by kernel_rfl) (by kernel_rfl) (by kernel_rfl) (fun _ _ _ h => h) (Or.inl ⟨by rfl, ?hyt1ux2⟩) hHeld ?restt1ux2
  case hyt1ux2 => (intro w _; go_simp; try with_reducible rfl)
  simp only [Act.put, List.setIfInBounds_toArray, List.set_cons_zero, List.set_cons_succ]
  refine wpAnyH_take (i := 3) (oi := ⟨some 8, _, _, _, _, _⟩) (v := ?vt1ux3) rfl (by kernel_rfl) (by kernel_rfl) (by kernel_rfl) (fun _ _ _ h => h) (Or.inl ⟨by rfl, ?hyt1ux3⟩) hHeld ?restt1ux3
  case hyt1ux3 => (intro w hSw; (try dsimp only at hSw); have hk := hSw; obtain ⟨x_0, x_1, _, _⟩ := row2_cells hk; go_simp; try with_reducible rfl)
  simp only [Act.put, List.setIfInBounds_toArray, List.set_cons_zero, List.set_cons_succ]
  refine wpAnyH_take (i := 4) (oi := ⟨some 9, _, _, _, _, _⟩) (v := ?vt1ux4) rfl (by kernel_rfl) (by kernel_rfl) (by kernel_rfl) (fun _ _ _ h => h) (Or.inl ⟨by rfl, ?hyt1ux4⟩) hHeld ?restt1ux4
  case hyt1ux4 => (intro w hSw; (try dsimp only at hSw); have hk := hSw; obtain ⟨x_0, x_1, _, _⟩ := row2_cells hk; go_simp; try with_reducible rfl)
  simp only [Act.put, List.setIfInBounds_toArray, List.set_cons_zero, List.set_cons_succ]
  refine wpAnyH_ready (rs := [1]) (by kernel_rfl) (by simp) ?_
  refine AllReadyH.cons (o := ⟨some 6, _, _, _, _, _⟩) rfl (fun K hK => ?_) AllReadyH.nil
  go_simp
  refine (len_any _ room L F _ HLv.out).mono ?_
  rintro e Ut1u1 ⟨rfl, hb⟩
  (try go_wp2_with fail)
  refine hK.out _ _ ((hb.block _ (row_lt hHeld)).trans hHeld) (fun hHeld2 => ?_)
  clear hK K hHeld
  have hHeld := hHeld2
  clear hHeld2
  (try simp only [Act.put, List.setIfInBounds_toArray, List.set_cons_zero, List.set_cons_succ])
  replace HLv : Hid (LogV F Ut1u1 v room L) := HLv.out.below hb
  replace HH : Hid (IsH Ut1u1 (.slice ay L.length cy) L) := HH.out.below hb
  replace HBw : Hid (Below w.heap.size w Ut1u1) := HBw.out.trans (hb.mono HBw.out.size)
  clear hb
  refine wpAnyH_take (i := 5) (oi := ⟨some 10, _, _, _, _, _⟩) (v := ?vt1u_1x5) rfl (by kernel_rfl) (by kernel_rfl) (by kernel_rfl) (fun _ _ _ h => h) (Or.inl ⟨by rfl, ?hyt1u_1x5⟩) hHeld ?restt1u_1x5
  case hyt1u_1x5 => (intro w hSw; (try dsimp only at hSw); have hk := hSw; obtain ⟨x_0, x_1, _, _⟩ := row2_cells hk; go_simp; try with_reducible rfl)
  simp only [Act.put, List.setIfInBounds_toArray, List.set_cons_zero, List.set_cons_succ]
  refine wpAnyH_take (i := 6) (oi := ⟨some 11, _, _, _, _, _⟩) (v := ?vt1u_1x6) rfl (by kernel_rfl) (by kernel_rfl) (by kernel_rfl) (fun _ _ _ h => h) (Or.inl ⟨by rfl, ?hyt1u_1x6⟩) hHeld ?restt1u_1x6
  case hyt1u_1x6 => (intro w _; go_simp; try with_reducible rfl)
  simp only [Act.put, List.setIfInBounds_toArray, List.set_cons_zero, List.set_cons_succ]
  refine wpAnyH_take (i := 7) (oi := ⟨some 12, _, _, _, _, _⟩) (v := ?vt1u_1x7) rfl (by kernel_rfl) (by kernel_rfl) (by kernel_rfl) (fun _ _ _ h => h) (Or.inl ⟨by rfl, ?hyt1u_1x7⟩) hHeld ?restt1u_1x7
  case hyt1u_1x7 => (intro w _; go_simp; try with_reducible rfl)
  simp only [Act.put, List.setIfInBounds_toArray, List.set_cons_zero, List.set_cons_succ]
  refine wpAnyH_take (i := 9) (oi := ⟨some 14, _, _, _, _, _⟩) (v := ?vt1u_1x9) rfl (by kernel_rfl) (by kernel_rfl) (by kernel_rfl) (fun _ _ _ h => h) (Or.inl ⟨by rfl, ?hyt1u_1x9⟩) hHeld ?restt1u_1x9
  case hyt1u_1x9 => (intro w _; go_simp; try with_reducible rfl)
  simp only [Act.put, List.setIfInBounds_toArray, List.set_cons_zero, List.set_cons_succ]
  refine wpAnyH_take (i := 10) (oi := ⟨some 15, _, _, _, _, _⟩) (v := ?vt1u_1x10) rfl (by kernel_rfl) (by kernel_rfl) (by kernel_rfl) (fun _ _ _ h => h) (Or.inl ⟨by rfl, ?hyt1u_1x10⟩) hHeld ?restt1u_1x10
  case hyt1u_1x10 => (intro w hSw; (try dsimp only at hSw); have hk := hSw; obtain ⟨x_0, x_1, _, _⟩ := row2_cells hk; go_simp; try with_reducible rfl)
  simp only [Act.put, List.setIfInBounds_toArray, List.set_cons_zero, List.set_cons_succ]
  refine wpAnyH_ready (rs := [8]) (by kernel_rfl) (by simp) ?_
  refine AllReadyH.cons (o := ⟨some 13, _, _, _, _, _⟩) rfl (fun K hK => ?_) AllReadyH.nil
  go_simp
  refine (room_any _ room L F _ HLv.out).mono ?_
  rintro e Ut1u2 ⟨rfl, hb⟩
  (try go_wp2_with fail)
  refine hK.out _ _ ((hb.block _ (row_lt hHeld)).trans hHeld) (fun hHeld2 => ?_)
  clear hK K hHeld
  have hHeld := hHeld2
  clear hHeld2
  (try simp only [Act.put, List.setIfInBounds_toArray, List.set_cons_zero, List.set_cons_succ])
  replace HLv : Hid (LogV F Ut1u2 v room L) := HLv.out.below hb
  replace HH : Hid (IsH Ut1u2 (.slice ay L.length cy) L) := HH.out.below hb
  replace HBw : Hid (Below w.heap.size w Ut1u2) := HBw.out.trans (hb.mono HBw.out.size)
  clear hb
  refine wpAnyH_take (i := 11) (oi := ⟨some 16, _, _, _, _, _⟩) (v := ?vt1u_1_8x11) rfl (by kernel_rfl) (by kernel_rfl) (by kernel_rfl) (fun _ _ _ h => h) (Or.inl ⟨by rfl, ?hyt1u_1_8x11⟩) hHeld ?restt1u_1_8x11
  case hyt1u_1_8x11 => (intro w hSw; (try dsimp only at hSw); have hk := hSw; obtain ⟨x_0, x_1, _, _⟩ := row2_cells hk; go_simp; try with_reducible rfl)
  simp only [Act.put, List.setIfInBounds_toArray, List.set_cons_zero, List.set_cons_succ]
  refine wpAnyH_take (i := 12) (oi := ⟨some 17, _, _, _, _, _⟩) (v := ?vt1u_1_8x12) rfl (by kernel_rfl) (by kernel_rfl) (by kernel_rfl) (fun _ _ _ h => h) (Or.inl ⟨by rfl, ?hyt1u_1_8x12⟩) hHeld ?restt1u_1_8x12
  case hyt1u_1_8x12 => (intro w _; go_simp; try with_reducible rfl)
  simp only [Act.put, List.setIfInBounds_toArray, List.set_cons_zero, List.set_cons_succ]
  refine wpAnyH_take (i := 13) (oi := ⟨some 18, _, _, _, _, _⟩) (v := ?vt1u_1_8x13) rfl (by kernel_rfl) (by kernel_rfl) (by kernel_rfl) (fun _ _ _ h => h) (Or.inl ⟨by rfl, ?hyt1u_1_8x13⟩) hHeld ?restt1u_1_8x13
  case hyt1u_1_8x13 => (intro w _; go_simp; try with_reducible rfl)
  simp only [Act.put, List.setIfInBounds_toArray, List.set_cons_zero, List.set_cons_succ]
  refine wpAnyH_take (i := 14) (oi := ⟨some 19, _, _, _, _, _⟩) (v := ?vt1u_1_8x14) rfl (by kernel_rfl) (by kernel_rfl) (by kernel_rfl) (fun _ _ _ h => h) (Or.inl ⟨by rfl, ?hyt1u_1_8x14⟩) hHeld ?restt1u_1_8x14
  case hyt1u_1_8x14 => (intro w _; go_simp; try with_reducible rfl)
  simp only [Act.put, List.setIfInBounds_toArray, List.set_cons_zero, List.set_cons_succ]
  refine wpAnyH_take (i := 16) (oi := ⟨some 21, _, _, _, _, _⟩) (v := ?vt1u_1_8x16) rfl (by kernel_rfl) (by kernel_rfl) (by kernel_rfl) (fun _ _ _ h => h) (Or.inl ⟨by rfl, ?hyt1u_1_8x16⟩) hHeld ?restt1u_1_8x16
  case hyt1u_1_8x16 => (intro w _; go_simp; try with_reducible rfl)
  simp only [Act.put, List.setIfInBounds_toArray, List.set_cons_zero, List.set_cons_succ]
  refine wpAnyH_take (i := 17) (oi := ⟨some 22, _, _, _, _, _⟩) (v := ?vt1u_1_8x17) rfl (by kernel_rfl) (by kernel_rfl) (by kernel_rfl) (fun _ _ _ h => h) (Or.inl ⟨by rfl, ?hyt1u_1_8x17⟩) hHeld ?restt1u_1_8x17
  case hyt1u_1_8x17 => (intro w hSw; (try dsimp only at hSw); have hk := hSw; obtain ⟨x_0, x_1, _, _⟩ := row2_cells hk; go_simp; try with_reducible rfl)
  simp only [Act.put, List.setIfInBounds_toArray, List.set_cons_zero, List.set_cons_succ]
  refine wpAnyH_ready (rs := [15]) (by kernel_rfl) (by simp) ?_
  refine AllReadyH.cons (o := ⟨some 20, _, _, _, _, _⟩) rfl (fun K hK => ?_) AllReadyH.nil
  go_simp
  refine (last_any _ room L F _ HLv.out hl).mono ?_
  rintro e Ut1u3 ⟨rfl, hb⟩
  (try go_wp2_with fail)
  refine hK.out _ _ ((hb.block _ (row_lt hHeld)).trans hHeld) (fun hHeld2 => ?_)
  clear hK K hHeld
  have hHeld := hHeld2
  clear hHeld2
  (try simp only [Act.put, List.setIfInBounds_toArray, List.set_cons_zero, List.set_cons_succ])
  replace HLv : Hid (LogV F Ut1u3 v room L) := HLv.out.below hb
  replace HH : Hid (IsH Ut1u3 (.slice ay L.length cy) L) := HH.out.below hb
  replace HBw : Hid (Below w.heap.size w Ut1u3) := HBw.out.trans (hb.mono HBw.out.size)
  clear hb
  refine wpAnyH_ready (rs := [18]) (by kernel_rfl) (by simp) ?_
  refine AllReadyH.cons (o := ⟨some 23, _, _, _, _, _⟩) rfl (fun K hK => ?_) AllReadyH.nil
  go_simp
  refine (refLast_any _ L _ HH.out).mono ?_
  rintro e Ut1u4 ⟨rfl, hb⟩
  rw [HLm.out]
  (try go_wp2_with fail)
  refine hK.out _ _ ((hb.block _ (row_lt hHeld)).trans hHeld) (fun hHeld2 => ?_)
  clear hK K hHeld
  have hHeld := hHeld2
  clear hHeld2
  (try simp only [Act.put, List.setIfInBounds_toArray, List.set_cons_zero, List.set_cons_succ])
  replace HLv : Hid (LogV F Ut1u4 v room L) := HLv.out.below hb
  replace HH : Hid (IsH Ut1u4 (.slice ay L.length cy) L) := HH.out.below hb
  replace HBw : Hid (Below w.heap.size w Ut1u4) := HBw.out.trans (hb.mono HBw.out.size)
  clear hb
  refine wpAnyH_take (i := 19) (oi := ⟨some 24, _, _, _, _, _⟩) (v := ?vt1u_1_8_15_18x19) rfl (by kernel_rfl) (by kernel_rfl) (by kernel_rfl) (fun _ _ _ h => h) (Or.inl ⟨by rfl, ?hyt1u_1_8_15_18x19⟩) hHeld ?restt1u_1_8_15_18x19
  case hyt1u_1_8_15_18x19 => (intro w hSw; (try dsimp only at hSw); have hk := hSw; obtain ⟨x_0, x_1, _, _⟩ := row2_cells hk; go_simp; try with_reducible rfl)
  simp only [Act.put, List.setIfInBounds_toArray, List.set_cons_zero, List.set_cons_succ]
  refine wpAnyH_take (i := 20) (oi := ⟨some 25, _, _, _, _, _⟩) (v := ?vt1u_1_8_15_18x20) rfl (by kernel_rfl) (by kernel_rfl) (by kernel_rfl) (fun _ _ _ h => h) (Or.inl ⟨by rfl, ?hyt1u_1_8_15_18x20⟩) hHeld ?restt1u_1_8_15_18x20
  case hyt1u_1_8_15_18x20 => (intro w _; go_simp; try with_reducible rfl)
  simp only [Act.put, List.setIfInBounds_toArray, List.set_cons_zero, List.set_cons_succ]
  refine wpAnyH_take (i := 21) (oi := ⟨some 26, _, _, _, _, _⟩) (v := ?vt1u_1_8_15_18x21) rfl (by kernel_rfl) (by kernel_rfl) (by kernel_rfl) (fun _ _ _ h => h) (Or.inl ⟨by rfl, ?hyt1u_1_8_15_18x21⟩) hHeld ?restt1u_1_8_15_18x21
  case hyt1u_1_8_15_18x21 => (intro w _; go_simp; try with_reducible rfl)
  simp only [Act.put, List.setIfInBounds_toArray, List.set_cons_zero, List.set_cons_succ]
  refine wpAnyH_take (i := 22) (oi := ⟨some 27, _, _, _, _, _⟩) (v := ?vt1u_1_8_15_18x22) rfl (by kernel_rfl) (by kernel_rfl) (by kernel_rfl) (fun _ _ _ h => h) (Or.inl ⟨by rfl, ?hyt1u_1_8_15_18x22⟩) hHeld ?restt1u_1_8_15_18x22
  case hyt1u_1_8_15_18x22 => (intro w _; go_simp; try with_reducible rfl)
  simp only [Act.put, List.setIfInBounds_toArray, List.set_cons_zero, List.set_cons_succ]
  refine wpAnyH_take (i := 24) (oi := ⟨some 29, _, _, _, _, _⟩) (v := ?vt1u_1_8_15_18x24) rfl (by kernel_rfl) (by kernel_rfl) (by kernel_rfl) (fun _ _ _ h => h) (Or.inl ⟨by rfl, ?hyt1u_1_8_15_18x24⟩) hHeld ?restt1u_1_8_15_18x24
  case hyt1u_1_8_15_18x24 => (intro w _; go_simp; try with_reducible rfl)
  simp only [Act.put, List.setIfInBounds_toArray, List.set_cons_zero, List.set_cons_succ]
  refine wpAnyH_take (i := 25) (oi := ⟨some 30, _, _, _, _, _⟩) (v := ?vt1u_1_8_15_18x25) rfl (by kernel_rfl) (by kernel_rfl) (by kernel_rfl) (fun _ _ _ h => h) (Or.inl ⟨by rfl, ?hyt1u_1_8_15_18x25⟩) hHeld ?restt1u_1_8_15_18x25
  case hyt1u_1_8_15_18x25 => (intro w hSw; (try dsimp only at hSw); have hk := hSw; obtain ⟨x_0, x_1, _, _⟩ := row2_cells hk; go_simp; try with_reducible rfl)
  simp only [Act.put, List.setIfInBounds_toArray, List.set_cons_zero, List.set_cons_succ]
  refine wpAnyH_ready (rs := [23]) (by kernel_rfl) (by simp) ?_
  refine AllReadyH.cons (o := ⟨some 28, _, _, _, _, _⟩) rfl (fun K hK => ?_) AllReadyH.nil
  have hsW := HBw.out.size
  go_simp
  refine (clock_any _ room L F _ HLv.out).mono ?_
  rintro e Ut1u5 ⟨v5, rfl, ho5, hb⟩
  (try go_wp2_with fail)
  refine hK.out _ _ ((hb.block _ (row_lt hHeld)).trans hHeld) (fun hHeld2 => ?_)
  clear hK K hHeld
  have hHeld := hHeld2
  clear hHeld2
  (try simp only [Act.put, List.setIfInBounds_toArray, List.set_cons_zero, List.set_cons_succ])
  replace HLv : Hid (LogV F Ut1u5 v room L) := HLv.out.below hb
  replace HH : Hid (IsH Ut1u5 (.slice ay L.length cy) L) := HH.out.below hb
  replace HBw : Hid (Below w.heap.size w Ut1u5) := HBw.out.trans (hb.mono HBw.out.size)
  have hi5 := ho5.isI (by have := clockL_length L; omega)
  obtain ⟨a5, c5, e5⟩ := hi5.form
  subst e5
  have HC5 : Hid (IsI Ut1u5 (.slice a5 (clockL L).length c5) (clockL L)) := hi5
  clear ho5 hi5 hsW
  clear hb
  refine wpAnyH_ready (rs := [26]) (by kernel_rfl) (by simp) ?_
  refine AllReadyH.cons (o := ⟨some 31, _, _, _, _, _⟩) rfl (fun K hK => ?_) AllReadyH.nil
  have hsW := HBw.out.size
  go_simp
  refine (refClock_any _ L _ HH.out).mono ?_
  rintro e Ut1u6 ⟨v6, rfl, ho6, hb⟩
  (try go_wp2_with fail)
  refine hK.out _ _ ((hb.block _ (row_lt hHeld)).trans hHeld) (fun hHeld2 => ?_)
  clear hK K hHeld
  have hHeld := hHeld2
  clear hHeld2
  (try simp only [Act.put, List.setIfInBounds_toArray, List.set_cons_zero, List.set_cons_succ])
  replace HLv : Hid (LogV F Ut1u6 v room L) := HLv.out.below hb
  replace HH : Hid (IsH Ut1u6 (.slice ay L.length cy) L) := HH.out.below hb
  replace HBw : Hid (Below w.heap.size w Ut1u6) := HBw.out.trans (hb.mono HBw.out.size)
  replace HC5 : Hid (IsI Ut1u6 (.slice a5 (clockL L).length c5) (clockL L)) := HC5.out.below hb
  have hi6 := ho6.isI (by have := clockL_length L; omega)
  obtain ⟨a6, c6, e6⟩ := hi6.form
  subst e6
  have HC6 : Hid (IsI Ut1u6 (.slice a6 (clockL L).length c6) (clockL L)) := hi6
  clear ho6 hi6 hsW
  clear hb
  refine wpAnyH_ready (rs := [27]) (by kernel_rfl) (by simp) ?_
  refine AllReadyH.cons (o := ⟨some 32, _, _, _, _, _⟩) rfl (fun K hK => ?_) AllReadyH.nil
  go_simp
  refine (sameI_any _ _ (clockL L) (clockL L) _ HC5.out HC6.out).mono ?_
  rintro e Ut1u7 ⟨rfl, hb⟩
  rw [decide_eq_true (rfl : clockL L = clockL L)]
  (try go_wp2_with fail)
  refine hK.out _ _ ((hb.block _ (row_lt hHeld)).trans hHeld) (fun hHeld2 => ?_)
  clear hK K hHeld
  have hHeld := hHeld2
  clear hHeld2
  (try simp only [Act.put, List.setIfInBounds_toArray, List.set_cons_zero, List.set_cons_succ])
  replace HLv : Hid (LogV F Ut1u7 v room L) := HLv.out.below hb
  replace HH : Hid (IsH Ut1u7 (.slice ay L.length cy) L) := HH.out.below hb
  replace HBw : Hid (Below w.heap.size w Ut1u7) := HBw.out.trans (hb.mono HBw.out.size)
  replace HC5 : Hid (IsI Ut1u7 (.slice a5 (clockL L).length c5) (clockL L)) := HC5.out.below hb
  replace HC6 : Hid (IsI Ut1u7 (.slice a6 (clockL L).length c6) (clockL L)) := HC6.out.below hb
  clear hb
  refine wpAnyH_take (i := 28) (oi := ⟨some 33, _, _, _, _, _⟩) (v := ?vt1u_1_8_15_18_23_26_27x28) rfl (by kernel_rfl) (by kernel_rfl) (by kernel_rfl) (fun _ _ _ h => h) (Or.inl ⟨by rfl, ?hyt1u_1_8_15_18_23_26_27x28⟩) hHeld ?restt1u_1_8_15_18_23_26_27x28
  case hyt1u_1_8_15_18_23_26_27x28 => (intro w _; go_simp; try with_reducible rfl)
  simp only [Act.put, List.setIfInBounds_toArray, List.set_cons_zero, List.set_cons_succ]
  refine wpAnyH_take (i := 29) (oi := ⟨some 34, _, _, _, _, _⟩) (v := ?vt1u_1_8_15_18_23_26_27x29) rfl (by kernel_rfl) (by kernel_rfl) (by kernel_rfl) (fun _ _ _ h => h) (Or.inl ⟨by rfl, ?hyt1u_1_8_15_18_23_26_27x29⟩) hHeld ?restt1u_1_8_15_18_23_26_27x29
  case hyt1u_1_8_15_18_23_26_27x29 => (intro w _; go_simp; try with_reducible rfl)
  simp only [Act.put, List.setIfInBounds_toArray, List.set_cons_zero, List.set_cons_succ]
  refine wpAnyH_take (i := 30) (oi := ⟨some 35, _, _, _, _, _⟩) (v := ?vt1u_1_8_15_18_23_26_27x30) rfl (by kernel_rfl) (by kernel_rfl) (by kernel_rfl) (fun _ _ _ h => h) (Or.inl ⟨by rfl, ?hyt1u_1_8_15_18_23_26_27x30⟩) hHeld ?restt1u_1_8_15_18_23_26_27x30
  case hyt1u_1_8_15_18_23_26_27x30 => (intro w _; go_simp; try with_reducible rfl)
  simp only [Act.put, List.setIfInBounds_toArray, List.set_cons_zero, List.set_cons_succ]
  refine wpAnyH_take (i := 32) (oi := ⟨some 37, _, _, _, _, _⟩) (v := ?vt1u_1_8_15_18_23_26_27x32) rfl (by kernel_rfl) (by kernel_rfl) (by kernel_rfl) (fun _ _ _ h => h) (Or.inl ⟨by rfl, ?hyt1u_1_8_15_18_23_26_27x32⟩) hHeld ?restt1u_1_8_15_18_23_26_27x32
  case hyt1u_1_8_15_18_23_26_27x32 => (intro w _; go_simp; try with_reducible rfl)
  simp only [Act.put, List.setIfInBounds_toArray, List.set_cons_zero, List.set_cons_succ]
  refine wpAnyH_take (i := 33) (oi := ⟨some 38, _, _, _, _, _⟩) (v := ?vt1u_1_8_15_18_23_26_27x33) rfl (by kernel_rfl) (by kernel_rfl) (by kernel_rfl) (fun _ _ _ h => h) (Or.inl ⟨by rfl, ?hyt1u_1_8_15_18_23_26_27x33⟩) hHeld ?restt1u_1_8_15_18_23_26_27x33
  case hyt1u_1_8_15_18_23_26_27x33 => (intro w hSw; (try dsimp only at hSw); have hk := hSw; obtain ⟨x_0, x_1, _, _⟩ := row2_cells hk; go_simp; try with_reducible rfl)
  simp only [Act.put, List.setIfInBounds_toArray, List.set_cons_zero, List.set_cons_succ]
  refine wpAnyH_ready (rs := [31]) (by kernel_rfl) (by simp) ?_
  refine AllReadyH.cons (o := ⟨some 36, _, _, _, _, _⟩) rfl (fun K hK => ?_) AllReadyH.nil
  go_simp
  refine (all_any _ room L F _ HLv.out HG.out hl).mono ?_
  rintro e Ut1u8 ⟨v7, E, rfl, hE, hO, hD, hb⟩
  (try go_wp2_with fail)
  refine hK.out _ _ ((hb.block _ (row_lt hHeld)).trans hHeld) (fun hHeld2 => ?_)
  clear hK K hHeld
  have hHeld := hHeld2
  clear hHeld2
  (try simp only [Act.put, List.setIfInBounds_toArray, List.set_cons_zero, List.set_cons_succ])
  replace HLv : Hid (LogV F Ut1u8 v room L) := HLv.out.below hb
  replace HH : Hid (IsH Ut1u8 (.slice ay L.length cy) L) := HH.out.below hb
  replace HBw : Hid (Below w.heap.size w Ut1u8) := HBw.out.trans (hb.mono HBw.out.size)
  replace HC5 : Hid (IsI Ut1u8 (.slice a5 (clockL L).length c5) (clockL L)) := HC5.out.below hb
  replace HC6 : Hid (IsI Ut1u8 (.slice a6 (clockL L).length c6) (clockL L)) := HC6.out.below hb
  have hEl : E.length = L.length := by rw [← hE]; simp
  have h7 : IsH Ut1u8 v7 L := by rw [← hE]; exact OwnH.isH hO (by omega) (fun x hx => ⟨(hD x hx).1.isI (hD x hx).2.2, (hD x hx).2.1⟩)
  obtain ⟨a7, c7, e7⟩ := h7.form
  subst e7
  have HC7 : Hid (IsH Ut1u8 (.slice a7 L.length c7) L) := h7
  clear hE hO hD hEl h7
  clear hb
  refine wpAnyH_ready (rs := [34]) (by kernel_rfl) (by simp) ?_
  refine AllReadyH.cons (o := ⟨some 39, _, _, _, _, _⟩) rfl (fun K hK => ?_) AllReadyH.nil
  go_simp
  refine (sameAll_eq _ _ L _ HC7.out HH.out).mono ?_
  rintro e Ut1u9 ⟨rfl, hb⟩
  (try go_wp2_with fail)
  refine hK.out _ _ ((hb.block _ (row_lt hHeld)).trans hHeld) (fun hHeld2 => ?_)
  clear hK K hHeld
  have hHeld := hHeld2
  clear hHeld2
  (try simp only [Act.put, List.setIfInBounds_toArray, List.set_cons_zero, List.set_cons_succ])
  replace HLv : Hid (LogV F Ut1u9 v room L) := HLv.out.below hb
  replace HH : Hid (IsH Ut1u9 (.slice ay L.length cy) L) := HH.out.below hb
  replace HBw : Hid (Below w.heap.size w Ut1u9) := HBw.out.trans (hb.mono HBw.out.size)
  replace HC5 : Hid (IsI Ut1u9 (.slice a5 (clockL L).length c5) (clockL L)) := HC5.out.below hb
  replace HC6 : Hid (IsI Ut1u9 (.slice a6 (clockL L).length c6) (clockL L)) := HC6.out.below hb
  replace HC7 : Hid (IsH Ut1u9 (.slice a7 L.length c7) L) := HC7.out.below hb
  clear hb
  refine wpAnyH_take (i := 35) (oi := ⟨some 40, _, _, _, _, _⟩) (v := ?vt1u_1_8_15_18_23_26_27_31_34x35) rfl (by kernel_rfl) (by kernel_rfl) (by kernel_rfl) (fun _ _ _ h => h) (Or.inl ⟨by rfl, ?hyt1u_1_8_15_18_23_26_27_31_34x35⟩) hHeld ?restt1u_1_8_15_18_23_26_27_31_34x35
  case hyt1u_1_8_15_18_23_26_27_31_34x35 => (intro w _; go_simp; try with_reducible rfl)
  simp only [Act.put, List.setIfInBounds_toArray, List.set_cons_zero, List.set_cons_succ]
  refine wpAnyH_take (i := 36) (oi := ⟨some 4, _, _, _, _, _⟩) (v := ?vt1u_1_8_15_18_23_26_27_31_34x36) rfl (by kernel_rfl) (by kernel_rfl) (by kernel_rfl) (fun _ _ _ h => h) (Or.inl ⟨by rfl, ?hyt1u_1_8_15_18_23_26_27_31_34x36⟩) hHeld ?restt1u_1_8_15_18_23_26_27_31_34x36
  case hyt1u_1_8_15_18_23_26_27_31_34x36 => (intro w _; go_simp; try with_reducible rfl)
  simp only [Act.put, List.setIfInBounds_toArray, List.set_cons_zero, List.set_cons_succ]
  refine wpAnyH_done (by kernel_rfl) ?_ _
  clear hHeld
  go_wp2
  go_ret
  exact ⟨rfl, HBw.out⟩

end Go.Proofs.YtngldpabfpcaiaaGreat

namespace Go.Proofs.YtngldpabfpcaiaaGreat
set_option linter.unusedVariables false

theorem root_right0 {c r : Int} (h : rootB c r = true) (h2 : rightB c r = true) : False := by
  simp only [rootB, rightB, decide_eq_true_eq] at h h2; omega
theorem ahead_less0 {c r c2 r2 : Int} (h : aheadB c r c2 r2 = true) : lessS c r c2 r2 = true := by
  unfold aheadB at h
  simp only [Bool.and_eq_true] at h
  exact h.2
/-- What a right change names is ahead of it. -/
theorem names_ahead0 (c : Ch) (h : checkCh c = 0) (x : Int × Int) (hx : x ∈ namesL c) : lessS x.1 x.2 c.ac c.ar = true := by
  obtain ⟨_, _, _, _, h5, h6, _, _⟩ := checkCh_ok c h
  simp only [namesL, List.mem_filter, List.mem_cons, List.not_mem_nil, or_false, namB2, Bool.and_eq_true, Bool.not_eq_true', decide_eq_false_iff_not] at hx
  obtain ⟨hx, hr, hne⟩ := hx
  unfold nodeR at h5
  unfold placeR at h6
  rcases hx with rfl | rfl | rfl
  · split at h5
    · simp only [decide_eq_true_eq] at h5; exact absurd h5 hne
    · split at h5
      · exact ahead_less0 h5
      · rcases Bool.or_eq_true _ _ ▸ h5 with h' | h'
        · exact (root_right0 h' hr).elim
        · exact ahead_less0 h'
  · split at h6
    · simp only [Bool.and_eq_true] at h6; exact h6.1.2.1
    · simp only [Bool.and_eq_true] at h6; exact (root_right0 h6.1 hr).elim
  · split at h6
    · simp only [Bool.and_eq_true, Bool.or_eq_true] at h6
      rcases h6.2 with h' | h'
      · exact (root_right0 h' hr).elim
      · exact ahead_less0 h'
    · simp only [Bool.and_eq_true] at h6; exact (root_right0 h6.2 hr).elim

theorem srt_take {L : List Ch} (h : Srt L) (i : Nat) : Srt (L.take i) := List.Pairwise.sublist (List.take_sublist _ _) h
/-- What is ahead of one that stands there stands ahead of it. -/
theorem srt_pre {L : List Ch} (h : Srt L) {i : Nat} {x c : Ch} (hc : c ∈ L.take i) (hx : x ∈ L) (hl : ltB x c = true) : x ∈ L.take i := by
  obtain ⟨k, hk, ek⟩ := List.getElem_of_mem hc
  obtain ⟨j, hj, ej⟩ := List.getElem_of_mem hx
  rw [List.length_take] at hk
  rw [List.getElem_take] at ek
  have hjk : j < k := by
    rcases Nat.lt_trichotomy j k with h' | h' | h'
    · exact h'
    · subst h'
      rw [ej] at ek
      subst ek
      rw [ltB_irr] at hl; cases hl
    · have := srt_get h (by omega : k < L.length) hj h'
      rw [ek, ej] at this
      rw [ltB_no this] at hl; cases hl
  rw [← ej, ← List.getElem_take (h := by rw [List.length_take]; omega) (j := i)]
  exact List.getElem_mem _
theorem srt_pre2 {L : List Ch} (h : Srt L) {i : Nat} (hi : i < L.length) {x : Ch} (hx : x ∈ L) (hl : ltB x L[i] = true) : x ∈ L.take i := by
  obtain ⟨j, hj, ej⟩ := List.getElem_of_mem hx
  have hjk : j < i := by
    rcases Nat.lt_trichotomy j i with h' | h' | h'
    · exact h'
    · subst h'
      rw [← ej, ltB_irr] at hl; cases hl
    · have := srt_get h hi hj h'
      rw [ej] at this
      rw [ltB_no this] at hl; cases hl
  rw [← ej, ← List.getElem_take (h := by rw [List.length_take]; omega) (j := i)]
  exact List.getElem_mem _
theorem ofR_pre (L : List Ch) (i : Nat) (r : Int) : ofR (L.take i) r <+: ofR L r := by
  have := List.IsPrefix.filter (fun c : Ch => decide (c.ar = r)) (List.take_prefix i L)
  exact this
theorem Good.take {L : List Ch} (g : Good L) (i : Nat) : Good (L.take i) := by
  have hm : ∀ x, x ∈ L.take i → x ∈ L := fun x hx => List.mem_of_mem_take hx
  refine ⟨srt_take g.srt i, fun c hc => g.chk c (hm c hc), ?_, ?_, ?_⟩
  · intro r k hk
    have hp := ofR_pre L i r
    have h2 := hp.length_le
    have := hp.getElem hk
    rw [this]
    exact g.seq r k (by omega)
  · intro c hc r hr
    obtain ⟨d, hd, h1, h2, h3⟩ := g.dep c (hm c hc) r hr
    exact ⟨d, srt_pre g.srt hc hd h3, h1, h2, h3⟩
  · intro c hc s hs
    obtain ⟨d, hd, h1, h2, h3⟩ := g.nam c (hm c hc) s hs
    have := names_ahead0 c (g.chk c (hm c hc)) s hs
    rw [← h1, ← h2] at this
    exact ⟨d, srt_pre g.srt hc hd this, h1, h2, h3⟩
theorem Good.under {L : List Ch} (g : Good L) {c : Ch} (h : checkCh c = 0) (hd : ∀ r : Nat, 0 < c.deps.getD r 0 → ∃ d ∈ L, d.ar = (r : Int) ∧ d.seq = c.deps.getD r 0) : underB c.deps (clockL L) = true := by
  rw [underB_iff]
  intro r hr
  have ho := (deps_len h).1
  rw [clockL_getD, if_pos (by omega)]
  by_cases h0 : 0 < c.deps.getD r 0
  · obtain ⟨d, hd, h1, h2⟩ := hd r h0
    have := g.le hd
    rw [h1, h2] at this
    exact this.2
  · omega
theorem Good.closed {L : List Ch} (g : Good L) {i : Nat} (hi : i < L.length) : underB L[i].deps (clockL (L.take i)) = true ∧ atL (clockL (L.take i)) L[i].ar = L[i].seq - 1 ∧ ∀ s ∈ namesL L[i], (getL (L.take i) s.1 s.2).isSome = true := by
  have hm : L[i] ∈ L := List.getElem_mem hi
  have gp := g.take i
  refine ⟨?_, ?_, ?_⟩
  · refine gp.under (g.chk _ hm) fun r hr => ?_
    obtain ⟨d, hd, h1, h2, h3⟩ := g.dep _ hm r hr
    exact ⟨d, srt_pre2 g.srt hi hd h3, h1, h2⟩
  · obtain ⟨_, _, h2, h3, _⟩ := g.right hm
    rw [clockL_at _ h2 h3]
    have e : L.take (i + 1) = L.take i ++ [L[i]] := List.take_succ_eq_append_getElem hi
    have e2 : ofR (L.take (i + 1)) L[i].ar = ofR (L.take i) L[i].ar ++ [L[i]] := by
      rw [e]
      unfold ofR
      rw [List.filter_append]
      simp
    have := (g.take (i + 1)).seq L[i].ar (ofR (L.take i) L[i].ar).length (by rw [e2]; simp)
    simp only [e2] at this
    rw [List.getElem_append_right (Nat.le_refl _)] at this
    simp only [Nat.sub_self, List.getElem_singleton] at this
    unfold cntR
    omega
  · intro s hs
    obtain ⟨d, hd, h1, h2, h3⟩ := g.nam _ hm s hs
    have := names_ahead0 _ (g.chk _ hm) s hs
    rw [← h1, ← h2] at this
    have hp := srt_pre2 g.srt hi hd this
    rw [(getL_some gp.srt).2 ⟨hp, h1, h2⟩]
    rfl

/-- A log whose changes are another one's. -/
theorem part_why {Y Z : List Ch} (gy : Good Y) (gz : Good Z) (hs : ∀ x ∈ Z, x ∈ Y) {c : Ch} (hc : c ∈ Y) (hn : c ∉ Z) {room : Int} (hr : (Z.length : Int) < room) : whyR Z room c = if underB c.deps (clockL Z) = true then 0 else 4 := by
  have h0 := gy.chk c hc
  obtain ⟨_, _, h2, h3, h4, _⟩ := right_of h0
  have e1 : getL Z c.ac c.ar = none := getL_none.2 fun d hd e => hn (by rw [← srt_inj gy.srt (hs d hd) hc e]; exact hd)
  have hcnt : ¬ c.seq ≤ cntR Z c.ar := fun h => by
    obtain ⟨d, hd, e2, e3⟩ := gz.nth h4 h
    exact hn (by rw [← gy.inj (hs d hd) hc e2 e3]; exact hd)
  unfold whyR
  rw [if_neg (Decidable.not_not.2 h0), e1]
  simp only
  have q7 : ¬ (ownC Z c.ar c.seq).isSome = true := by rw [gz.own_is, decide_eq_true_eq]; omega
  rw [if_neg q7]
  cases hu : underB c.deps (clockL Z) with
  | false =>
    have q6 : c.seq ≠ atL (clockL Z) c.ar + 1 ∨ false = false := .inr rfl
    rw [if_pos q6]; rfl
  | true =>
    have hd : hasDepsB Z c = true := by rw [hasDeps_under h0]; exact hu
    have hq := hasDeps_seq h0 hcnt hd
    have q4 : ¬ (c.seq ≠ atL (clockL Z) c.ar + 1 ∨ true = false) := by rw [clockL_at Z h2 h3]; simp only [Bool.true_eq_false, or_false]; omega
    rw [if_neg q4]
    have hall : ∀ d ∈ Y, d.seq ≤ atL c.deps d.ar → d ∈ Z := fun d hd2 hle => by
      obtain ⟨_, _, r1, r2, r3, _⟩ := gy.right hd2
      obtain ⟨k, hk⟩ := Int.eq_ofNat_of_zero_le r1
      rw [hk, atL_nat] at hle
      have hkl : k < c.deps.length := by
        rcases Nat.lt_or_ge k c.deps.length with h' | h'
        · exact h'
        · rw [getD_out h'] at hle; omega
      have := hasDepsB_iff.1 hd k hkl
      obtain ⟨e, he, e2, e3⟩ := gz.nth (r := (k : Int)) (s := d.seq) r3 (by omega)
      rw [← gy.inj (hs e he) hd2 (by omega) e3]
      exact he
    have hb : behindR Z c = true := by
      unfold behindR
      simp only [Bool.and_eq_true, List.all_eq_true, List.mem_range]
      refine ⟨fun r hr => ?_, fun s hs2 => ?_⟩
      · unfold depsR
        by_cases h00 : c.deps.getD r 0 = 0
        · rw [decide_eq_true h00]; rfl
        · have hpos : 0 < c.deps.getD r 0 := by have := ((deps_len h0).getD r).1; omega
          obtain ⟨d, hd2, e2, e3, e4⟩ := gy.dep c hc r hpos
          have hdz : d ∈ Z := hall d hd2 (by rw [e2, atL_nat, e3]; omega)
          rw [gz.own_iff.2 ⟨hdz, e2, e3⟩]
          simp only [e4, Bool.or_true]
      · obtain ⟨d, hd2, e2, e3, e4⟩ := gy.nam c hc s hs2
        have hdz : d ∈ Z := hall d hd2 e4
        unfold namsR
        rw [(getL_some gz.srt).2 ⟨hdz, e2, e3⟩]
        exact decide_eq_true e4
    rw [hb]
    have q8 : ¬ room ≤ (Z.length : Int) := by omega
    rw [if_neg (by decide), if_neg q8]; rfl
theorem part_free {Y Z : List Ch} (gy : Good Y) (gz : Good Z) {c : Ch} (hc : c ∈ Y) (hb : ∀ x ∈ Y, ltB x c = true → x ∈ Z) : underB c.deps (clockL Z) = true :=
  gz.under (gy.chk c hc) fun r hr => by
    obtain ⟨d, hd, h1, h2, h3⟩ := gy.dep c hc r hr
    exact ⟨d, hb d hd h3, h1, h2⟩
theorem part_twice {Z : List Ch} (gz : Good Z) {c : Ch} (h : c ∈ Z) (room : Int) : whyR Z room c = 5 := by
  unfold whyR
  rw [if_neg (Decidable.not_not.2 (gz.chk c h)), (getL_some gz.srt).2 ⟨h, rfl, rfl⟩]
  simp only
  rw [sameB_self, if_pos rfl]

/-- Less changes are in a shorter list. -/
theorem srt_sub {Z W : List Ch} (hz : Srt Z) (hw : Srt W) (hs : ∀ x ∈ Z, x ∈ W) : Z.length ≤ W.length := by
  classical
  have : Z = W.filter (fun x => decide (x ∈ Z)) := srt_ext hz (List.Pairwise.filter _ hw) fun x => by
    simp only [List.mem_filter, decide_eq_true_eq]
    exact ⟨fun h => ⟨hs x h, h⟩, fun h => h.2⟩
  rw [this]
  exact List.length_filter_le _ _
theorem srt_sub_lt {Z W : List Ch} (hz : Srt Z) (hw : Srt W) (hs : ∀ x ∈ Z, x ∈ W) {c : Ch} (hc : c ∈ W) (hn : c ∉ Z) : Z.length < W.length := by
  classical
  have : Z = W.filter (fun x => decide (x ∈ Z)) := srt_ext hz (List.Pairwise.filter _ hw) fun x => by
    simp only [List.mem_filter, decide_eq_true_eq]
    exact ⟨fun h => ⟨hs x h, h⟩, fun h => h.2⟩
  rw [this]
  exact List.length_filter_lt_length_iff_exists.2 ⟨c, hc, by simpa using hn⟩

/-- One history: of two logs of it one adds what the other one has, in its order. -/
theorem union_step {W a Z : List Ch} (gw : Good W) (ga : Good a) (gz : Good Z) (ha : ∀ x ∈ a, x ∈ W) (hz : ∀ x ∈ Z, x ∈ W) {c : Ch} (hc : c ∈ a) (hp : ∀ x ∈ a, ltB x c = true → x ∈ Z) (hn : c ∉ Z) {room : Int} (hr : (W.length : Int) ≤ room) : whyR Z room c = 0 := by
  have hlt := srt_sub_lt gz.srt gw.srt hz (ha c hc) hn
  rw [part_why gw gz hz (ha c hc) hn (by omega), part_free ga gz hc hp]
  rfl
theorem within_iff {W a b : List Ch} (gw : Good W) (ga : Good a) (gb : Good b) (ha : ∀ x ∈ a, x ∈ W) (hb : ∀ x ∈ b, x ∈ W) {c : Ch} (hc : c ∈ a) : withinB c (clockL b) = true ↔ c ∈ b := by
  obtain ⟨_, _, h2, h3, h4, _⟩ := ga.right hc
  unfold withinB
  rw [clockL_at _ h2 h3, decide_eq_true_eq]
  constructor
  · intro h
    obtain ⟨d, hd, e1, e2⟩ := gb.nth h4 h
    rw [← gw.inj (hb d hd) (ha c hc) e1 e2]
    exact hd
  · intro h; exact (gb.le h).2
theorem union_clock {W a b U : List Ch} (gw : Good W) (ga : Good a) (gb : Good b) (gu : Good U) (hu : ∀ x, x ∈ U ↔ x ∈ b ∨ x ∈ a) : clockL U = mergeL (clockL a) (clockL b) := by
  have e : ∀ k, (clockL U).getD k 0 = (mergeL (clockL a) (clockL b)).getD k 0 := fun k => by
    rw [mergeL_getD, clockL_getD, clockL_getD, clockL_getD]
    by_cases hk : k < 64
    · rw [if_pos hk, if_pos hk, if_pos hk]
      have h1 : (cntR a k : Int) ≤ cntR U k := by
        by_cases h0 : cntR a (k : Int) = 0
        · omega
        · obtain ⟨d, hd, e1, e2⟩ := ga.nth (r := (k : Int)) (s := cntR a (k : Int)) (by omega) (Int.le_refl _)
          have := gu.le ((hu d).2 (.inr hd))
          rw [e1, e2] at this
          exact this.2
      have h2 : (cntR b k : Int) ≤ cntR U k := by
        by_cases h0 : cntR b (k : Int) = 0
        · omega
        · obtain ⟨d, hd, e1, e2⟩ := gb.nth (r := (k : Int)) (s := cntR b (k : Int)) (by omega) (Int.le_refl _)
          have := gu.le ((hu d).2 (.inl hd))
          rw [e1, e2] at this
          exact this.2
      have h3 : (cntR U k : Int) ≤ max (cntR a k : Int) (cntR b k : Int) := by
        by_cases h0 : cntR U (k : Int) = 0
        · omega
        · obtain ⟨d, hd, e1, e2⟩ := gu.nth (r := (k : Int)) (s := cntR U (k : Int)) (by omega) (Int.le_refl _)
          rcases (hu d).1 hd with h | h
          · have := gb.le h
            rw [e1, e2] at this
            omega
          · have := ga.le h
            rw [e1, e2] at this
            omega
      omega
    · rw [if_neg hk, if_neg hk, if_neg hk]; rfl
  have t1 : trimL (clockL U) = clockL U := trim_idem _
  have t2 : trimL (mergeL (clockL a) (clockL b)) = mergeL (clockL a) (clockL b) := mergeL_trim _ _
  rw [← t1, ← t2]
  exact trim_ext _ _ e

theorem lack_ahead {W a b : List Ch} (gw : Good W) (ga : Good a) (gb : Good b) (ha : ∀ x ∈ a, x ∈ W) (hb : ∀ x ∈ b, x ∈ W) {j : Nat} (hj : j < (lackL a (clockL b)).length) : ∀ x ∈ a, ltB x (lackL a (clockL b))[j] = true → x ∈ b ∨ x ∈ (lackL a (clockL b)).take j := fun x hx hl => by
  cases h : withinB x (clockL b) with
  | true => exact .inl ((within_iff gw ga gb ha hb hx).1 h)
  | false => exact .inr (srt_pre2 (lackL_srt ga.srt _) hj (by unfold lackL; rw [List.mem_filter]; exact ⟨hx, by rw [h]; rfl⟩) hl)
theorem lack_not {W a b : List Ch} (gw : Good W) (ga : Good a) (gb : Good b) (ha : ∀ x ∈ a, x ∈ W) (hb : ∀ x ∈ b, x ∈ W) {x : Ch} (hx : x ∈ lackL a (clockL b)) : x ∈ a ∧ x ∉ b := by
  unfold lackL at hx
  rw [List.mem_filter] at hx
  refine ⟨hx.1, fun h => ?_⟩
  rw [(within_iff gw ga gb ha hb hx.1).2 h] at hx
  exact absurd hx.2 (by decide)


end Go.Proofs.YtngldpabfpcaiaaGreat

namespace Go.Proofs.YtngldpabfpcaiaaGreat
set_option linter.unusedVariables false
set_option linter.unusedSimpArgs false

/-- Of a log's changes some are there, the others are left. -/
structure AnyP (Y Z R : List Ch) : Prop where
  gz : Good Z
  mem : ∀ x, x ∈ Y ↔ x ∈ Z ∨ x ∈ R
  dis : ∀ x ∈ R, x ∉ Z
  srt : Srt R
theorem AnyP.start {Y : List Ch} (g : Good Y) : AnyP Y [] Y := ⟨Good.none, fun x => by simp, fun x _ h => by simp at h, g.srt⟩
theorem AnyP.less {Y Z R : List Ch} (g : Good Y) (h : AnyP Y Z R) {i : Nat} (hi : i < R.length) : Z.length < Y.length :=
  srt_sub_lt h.gz.srt g.srt (fun x hx => (h.mem x).2 (.inl hx)) ((h.mem _).2 (.inr (List.getElem_mem hi))) (h.dis _ (List.getElem_mem hi))
theorem AnyP.le {Y Z R : List Ch} (g : Good Y) (h : AnyP Y Z R) : Z.length ≤ Y.length := srt_sub h.gz.srt g.srt (fun x hx => (h.mem x).2 (.inl hx))
theorem AnyP.why {Y Z R : List Ch} (g : Good Y) (h : AnyP Y Z R) {room : Int} (hr : (Y.length : Int) ≤ room) {i : Nat} (hi : i < R.length) : whyR Z room R[i] = 0 ∨ whyR Z room R[i] = 4 := by
  have h1 := h.less g hi
  rw [part_why g h.gz (fun x hx => (h.mem x).2 (.inl hx)) ((h.mem _).2 (.inr (List.getElem_mem hi))) (h.dis _ (List.getElem_mem hi)) (by omega)]
  split <;> simp
/-- The first one of those that are left can be added. -/
theorem AnyP.first {Y Z R : List Ch} (g : Good Y) (h : AnyP Y Z R) {room : Int} (hr : (Y.length : Int) ≤ room) (h0 : 0 < R.length) : whyR Z room R[0] = 0 := by
  have h1 := h.less g h0
  have hc : R[0] ∈ Y := (h.mem _).2 (.inr (List.getElem_mem h0))
  rw [part_why g h.gz (fun x hx => (h.mem x).2 (.inl hx)) hc (h.dis _ (List.getElem_mem h0)) (by omega), if_pos]
  refine part_free g h.gz hc fun x hx hl => ?_
  rcases (h.mem x).1 hx with q | q
  · exact q
  · obtain ⟨j, hj, rfl⟩ := List.getElem_of_mem q
    rcases Nat.eq_zero_or_pos j with rfl | hp
    · rw [ltB_irr] at hl; cases hl
    · rw [ltB_no (srt_get h.srt h0 hj hp)] at hl; cases hl
theorem AnyP.step {Y Z R : List Ch} (h : AnyP Y Z R) {room : Int} {i : Nat} (hi : i < R.length) (hw : whyR Z room R[i] = 0) : AnyP Y (addL Z room R[i]) (R.eraseIdx i) := by
  have hne : ∀ j (hj : j < R.length), j ≠ i → R[j] ≠ R[i] := fun j hj hji e => by
    rcases Nat.lt_or_gt_of_ne hji with q | q
    · have := srt_get h.srt hj hi q; rw [e, ltB_irr] at this; cases this
    · have := srt_get h.srt hi hj q; rw [e, ltB_irr] at this; cases this
  have hm : ∀ x, x ∈ R.eraseIdx i ↔ x ∈ R ∧ x ≠ R[i] := fun x => by
    rw [List.mem_eraseIdx_iff_getElem]
    constructor
    · rintro ⟨j, hj, hji, rfl⟩
      exact ⟨List.getElem_mem hj, hne j hj hji⟩
    · rintro ⟨hx, hn⟩
      obtain ⟨j, hj, rfl⟩ := List.getElem_of_mem hx
      exact ⟨j, hj, fun e => hn (by subst e; rfl), rfl⟩
  have e : addL Z room R[i] = putC Z R[i] := by unfold addL; rw [if_pos hw]
  rw [e]
  refine ⟨good_put h.gz hw, fun x => ?_, fun x hx => ?_, List.Pairwise.sublist (List.eraseIdx_sublist _ _) h.srt⟩
  · rw [h.mem, putC_mem, hm]
    by_cases q : x = R[i]
    · subst q; simp
    · simp [q]
  · rw [putC_mem]
    rw [hm] at hx
    rintro (q | q)
    · exact hx.2 q
    · exact h.dis x hx.1 q
theorem AnyP.done {Y Z : List Ch} (g : Good Y) (h : AnyP Y Z []) : Z = Y := srt_ext h.gz.srt g.srt fun x => by rw [h.mem]; simp

end Go.Proofs.YtngldpabfpcaiaaGreat

namespace Go.Proofs.YtngldpabfpcaiaaGreat
open Go.RowKit
set_option linter.unusedVariables false
set_option linter.unusedSimpArgs false

/-- Two logs, the document's, and a list of what is left. -/
structure AnyS (w : World) (lx lz : Nat) (Fx Fz G : Nat → Prop) (Y Z R : List Ch) (yb : Nat) (yv rv : Value) (W : World) : Prop where
  logx : LogOk Fx W lx 4096 Y
  logz : LogOk Fz W lz 4096 Z
  doc : HFirm G W yv Y
  rest : HFirm G W rv R
  box : W.heap[yb]? = some (.cells #[.int .i64 4096, yv] 26)
  fxz : ∀ k, Fz k → ¬ Fx k ∧ ¬ G k ∧ k ≠ yb ∧ w.heap.size ≤ k
  bel : Below w.heap.size w W
section
variable {w W W' : World} {lx lz yb : Nat} {Fx Fz G : Nat → Prop} {Y Z R : List Ch} {yv rv : Value}
theorem AnyS.below (h : AnyS w lx lz Fx Fz G Y Z R yb yv rv W) (hb : Below W.heap.size W W') : AnyS w lx lz Fx Fz G Y Z R yb yv rv W' :=
  ⟨h.logx.below hb, h.logz.below hb, h.doc.below hb, h.rest.below hb, (hb.block _ (row_lt h.box)).trans h.box, h.fxz, h.bel.trans (hb.mono h.bel.size)⟩
theorem AnyS.add (h : AnyS w lx lz Fx Fz G Y Z R yb yv rv W) {F' : Nat → Prop} {Z' : List Ch} (hl : LogOk F' W' lz 4096 Z') (hf : ∀ k, F' k → Fz k ∨ W.heap.size ≤ k) (ht : Touch Fz W W') : AnyS w lx lz Fx F' G Y Z' R yb yv rv W' := by
  have hy := row_lt h.box
  refine ⟨h.logx.keep (ht.keeps fun k q => ⟨h.logx.lt k q, fun q2 => (h.fxz k q2).1 q⟩), hl, h.doc.keep (ht.keeps fun k q => ⟨h.doc.1 k q, fun q2 => (h.fxz k q2).2.1 q⟩), h.rest.keep (ht.keeps fun k q => ⟨h.doc.1 k q, fun q2 => (h.fxz k q2).2.1 q⟩), (ht.block _ hy (fun q2 => (h.fxz _ q2).2.2.1 rfl)).trans h.box, fun k q => ?_, h.bel.trans (ht.below (fun k q => (h.fxz k q).2.2.2) h.bel.size)⟩
  rcases hf k q with q | q
  · exact h.fxz k q
  · exact ⟨fun q2 => by have := h.logx.lt k q2; omega, fun q2 => by have := h.doc.1 k q2; omega, by omega, Nat.le_trans h.bel.size q⟩
theorem AnyS.cut (h : AnyS w lx lz Fx Fz G Y Z R yb yv rv W) {G' : Nat → Prop} {R' : List Ch} {rv' : Value} (hf : HFirm G' W' rv' R') (hG : ∀ k, G k → G' k) (hG2 : ∀ k, G' k → G k ∨ W.heap.size ≤ k) (hb : Below W.heap.size W W') : AnyS w lx lz Fx Fz G' Y Z R' yb yv rv' W' :=
  have h2 := h.below hb
  ⟨h2.logx, h2.logz, h2.doc.mono hG hf.1, hf, h2.box, fun k q => ⟨(h.fxz k q).1, fun q2 => (hG2 k q2).elim (h.fxz k q).2.1 (fun q3 => by have := h.logz.lt k q; omega), (h.fxz k q).2.2⟩, h2.bel⟩
end
/-- A place from which it is gone on. -/
theorem from_lt (x : Int) {n : Nat} (h0 : 0 < n) (h1 : n ≤ 4096) : ∃ f : Nat, f < n ∧ wrap64 ((IntKind.u64.wrap x).tmod (n : Int)) = (f : Int) := by
  have hx : 0 ≤ IntKind.u64.wrap x := by show 0 ≤ x % 18446744073709551616; omega
  rw [Int.tmod_eq_emod_of_nonneg hx]
  have h2 : 0 ≤ IntKind.u64.wrap x % (n : Int) := Int.emod_nonneg _ (by omega)
  have h3 : IntKind.u64.wrap x % (n : Int) < n := Int.emod_lt_of_pos _ (by omega)
  refine ⟨(IntKind.u64.wrap x % (n : Int)).toNat, by omega, ?_⟩
  rw [Int.toNat_of_nonneg h2]
  unfold wrap64
  omega
theorem mod_at {f k n : Nat} (h0 : 0 < n) : ((f : Int) + (k : Int)).tmod (n : Int) = (((f + k) % n : Nat) : Int) := by
  rw [Int.tmod_eq_emod_of_nonneg (by omega)]
  simp
theorem reach0 {f n : Nat} (h0 : 0 < n) (hf : f < n) : ∃ j, j < n ∧ (f + j) % n = 0 := by
  rcases Nat.eq_zero_or_pos f with rfl | hp
  · exact ⟨0, h0, by simp⟩
  · exact ⟨n - f, by omega, by rw [show f + (n - f) = n by omega, Nat.mod_self]⟩

set_option maxRecDepth 100000 in
set_option maxHeartbeats 16000000 in
theorem anyWalk (v : Value) (l : List Ch) (ov : Value) (od : List Int) (w : World) (h : IsH w v l) (ho : IsI w ov od) :
    Calls Tryz.prog 3 #[v, ov] w fun e w' => e = .returned (.bool true) ∧ Below w.heap.size w w' := by
  have HH : Hid (IsH w v l) := h
  obtain ⟨a1, c1, e1⟩ := h.form
  subst e1
  have HO : Hid (IsI w ov od) := ho
  obtain ⟨a2, c2, e2⟩ := ho.form
  subst e2
  clear h ho
  go_enter Tryz.func3, Tryz.ntmps3
  go_wp2_with fail
  refine (filled_any 4096 _ l _ HH.out (by omega) (by omega)).mono ?_
  rintro e w1 ⟨lx, yv, Fx, G1, rfl, hL, hG, hb1, hF1, hG1, hFG⟩
  have HY : Hid (Good (fillL 4096 l)) := fillL_good _ _
  have hlen : ((fillL 4096 l).length : Int) ≤ 4096 := fillL_room (by omega) l
  generalize fillL 4096 l = Y at *
  obtain ⟨ay, cy, ey⟩ := hG.isH.form
  subst ey
  obtain ⟨W2, eW2⟩ : ∃ X, X = w1.alloc (.cells #[.int .i64 4096, .slice ay Y.length cy] 26) := ⟨_, rfl⟩
  obtain ⟨yb, eyb⟩ : ∃ b, b = w1.heap.size := ⟨_, rfl⟩
  have hb2 : Below w1.heap.size w1 W2 := by rw [eW2]; exact (Below.refl _ _).alloc (Nat.le_refl _) _
  have HX2 : Hid (LogOk Fx W2 lx 4096 Y ∧ HFirm G1 W2 (.slice ay Y.length cy) Y ∧ W2.heap[yb]? = some (.cells #[.int .i64 4096, .slice ay Y.length cy] 26) ∧ Below w.heap.size w W2) := ⟨hL.below hb2, hG.below hb2, by rw [eyb, eW2]; exact heap_alloc_new _ _, hb1.trans (hb2.mono hb1.size)⟩
  clear hL hG hb1 hF1 hG1 hFG hb2
  go_wp2_with fail
  rw [← eW2, ← eyb]
  clear eW2 eyb
  refine (new_any 4096 _).mono ?_
  rintro e w3 ⟨h, hb3⟩
  rcases h with ⟨h, _⟩ | ⟨_, lz, Fz, rfl, hLz, hFz⟩
  · omega
  have HX3 : Hid (AnyS w lx lz Fx Fz G1 Y [] [] yb (.slice ay Y.length cy) (.slice none 0 0) w3) := by
    obtain ⟨h1, h2, h3, h4⟩ := HX2.out
    refine ⟨h1.below hb3, hLz, h2.below hb3, ⟨(h2.below hb3).1, none, 0, rfl, Nat.le_refl _, by simp, .inl rfl⟩, (hb3.block _ (row_lt h3)).trans h3, fun k q => ?_, h4.trans (hb3.mono h4.size)⟩
    have h5 := hFz k q
    exact ⟨fun q2 => by have := h1.lt k q2; omega, fun q2 => by have := h2.1 k q2; omega, by have := row_lt h3; omega, Nat.le_trans h4.size h5⟩
  obtain ⟨y_0, y_1, _, _⟩ := row2_cells HX3.out.box
  clear HX2 hb3 hLz hFz
  go_wp2_with fail
  clear y_0 y_1
  refine (refCopyAll_any _ Y _ HX3.out.doc.isH (by omega)).mono ?_
  rintro e w4 ⟨ar, cr, E, rfl, hA4, hE4, hb4⟩
  have hEl : E.length = Y.length := by rw [← hE4]; simp
  have HX4 : Hid (AnyS w lx lz Fx Fz (fun k => G1 k ∨ (w3.heap.size ≤ k ∧ k < w4.heap.size)) Y [] Y yb (.slice ay Y.length cy) (.slice ar Y.length cr) w4) := by
    have hf := HFirm.ofOwn (G := fun k => G1 k ∨ (w3.heap.size ≤ k ∧ k < w4.heap.size)) (G2 := fun k => w3.heap.size ≤ k ∧ k < w4.heap.size) hA4.own (by omega) (fun x hx => ⟨IsG.own (hA4.dep x hx).1 (hA4.dep x hx).2.2 (fun k h1 h2 => ⟨h1, h2⟩), (hA4.dep x hx).2.1⟩) (fun k q => .inr q) (fun k h1 h2 => .inr ⟨h1, h2⟩) (fun k q => q.elim (fun q => (HX3.out.below hb4).doc.1 k q) (fun q => q.2))
    rw [hE4] at hf
    exact HX3.out.cut hf (fun k q => .inl q) (fun k q => q.imp id (fun q => q.1)) hb4
  have HP4 : Hid (AnyP Y [] Y) := AnyP.start HY.out
  clear hA4 hE4 hb4 HX3 hEl
  go_wp2
  go_loopw [9, 10] (fun rv tv wr => ∃ (t : Nat) (Z R : List Ch) (Fz G : Nat → Prop), tv = .int .i64 (t : Int) ∧ t + R.length = Y.length ∧ Hid (AnyS w lx lz Fx Fz G Y Z R yb (.slice ay Y.length cy) rv wr) ∧ Hid (AnyP Y Z R)) (fun _ tv _ => Y.length - (intOf tv).toNat)
  case atStart => exact ⟨0, [], Y, Fz, _, rfl, by omega, HX4, HP4⟩
  case round =>
    obtain ⟨t, Z, R, Fz, G, rfl, hlt, HS, HP⟩ := hrel
    clear HX4 HP4
    by_cases h0 : 0 < R.length
    · obtain ⟨b, o, cap, _, rfl, _, _, _, _, _⟩ := HS.out.rest.row (by intro e; rw [e] at h0; simp at h0)
      have r0 : (0 : Int) < (R.length : Int) := by omega
      have hR : R.length ≤ 4096 := by omega
      by_cases hto : t < od.length
      · obtain ⟨_, _, e, _, hol, hrow⟩ := HO.out
        cases e
        obtain ⟨b9, o9, rfl, hrow2⟩ := hrow.resolve_left (by intro e; subst e; simp at hto)
        have q9 := (HS.out.bel.cell (p := ⟨b9, o9 + t, none⟩) (cell_lt (hrow2 t hto))).trans (hrow2 t hto)
        have t1 : (t : Int) < (od.length : Int) := by omega
        have t0 : (0 : Int) ≤ (t : Int) := by omega
        clear hrow hrow2
        obtain ⟨f, hf, ef⟩ := from_lt od[t] h0 hR
        go_upto_region 12 with fail
        (try rw [ef])
        clear ef q9
        go_wp2
        go_loopw [9, 12, 13] (fun rv dv kv wr => ∃ (k : Nat), kv = .int .i64 (k : Int) ∧ k ≤ R.length ∧ ((dv = .bool false ∧ rv = .slice (some ⟨b, o, none⟩) R.length cap ∧ ∃ Fz : Nat → Prop, Hid (AnyS w lx lz Fx Fz G Y Z R yb (.slice ay Y.length cy) rv wr) ∧ Hid (∀ j, j < k → ∀ c, R[(f + j) % R.length]? = some c → whyR Z 4096 c ≠ 0)) ∨ (dv = .bool true ∧ ∃ (Z1 R1 : List Ch) (Fz1 G1 : Nat → Prop), R1.length + 1 = R.length ∧ Hid (AnyS w lx lz Fx Fz1 G1 Y Z1 R1 yb (.slice ay Y.length cy) rv wr) ∧ Hid (AnyP Y Z1 R1)))) (fun _ _ kv _ => R.length - (intOf kv).toNat)
        case atStart => exact ⟨0, rfl, Nat.zero_le _, .inl ⟨rfl, rfl, Fz, HS, fun j hj => by omega⟩⟩
        case round =>
          obtain ⟨k, rfl, hk, hcase⟩ := hrel
          clear HS
          rename_i wr
          rcases hcase with ⟨rfl, rfl, Fz, HS, HNo⟩ | ⟨rfl, Z1, R1, Fz1, G1, hlr, HS1, HP1⟩
          · by_cases hkn : k < R.length
            · have k1 : (k : Int) < (R.length : Int) := by omega
              obtain ⟨i, ei⟩ : ∃ i, i = (f + k) % R.length := ⟨_, rfl⟩
              have hi : i < R.length := by rw [ei]; exact Nat.mod_lt _ h0
              have hmod : ((f : Int) + (k : Int)).tmod (R.length : Int) = (i : Int) := by rw [ei]; exact mod_at h0
              have HEi : Hid (i = (f + k) % R.length) := ei
              have i1 : (i : Int) < (R.length : Int) := by omega
              have i0 : (0 : Int) ≤ (i : Int) := by omega
              obtain ⟨_, _, e, _, hl2, hrow⟩ := HS.out.rest.isH
              simp only [Value.slice.injEq] at e
              obtain ⟨e1, _, e3⟩ := e
              subst e1 e3
              obtain ⟨b', o', e, hrow2⟩ := hrow.resolve_left (by intro e; rw [e] at h0; simp at h0)
              simp only [Option.some.injEq, Addr.mk.injEq] at e
              obtain ⟨rfl, rfl, _⟩ := e
              obtain ⟨a3, c3, hI3, hS3, k_0, k_1, k_2, k_3, k_4, k_5, k_6, k_7, k_8, k_9, k_10, k_11, k_12⟩ := (hrow2 i hi).all
              obtain ⟨x, ex⟩ : ∃ x, x = R[i] := ⟨_, rfl⟩
              have HX0 : Hid (x = R[i]) := ex
              rw [← ex] at hI3 hS3 k_0 k_1 k_2 k_3 k_4 k_5 k_6 k_7 k_8 k_9 k_10 k_11 k_12
              have HW1 : Hid (whyR Z 4096 x = 0 ∨ whyR Z 4096 x = 4) := by rw [ex]; exact HP.out.why HY.out hlen hi
              have HZl : Hid (Z.length ≤ Y.length) := HP.out.le HY.out
              clear ei hrow hrow2 ex
              obtain ⟨ac, ar, sq, ds, kd, nc, nr, pc, pr, fc, fr, nm, vl⟩ := x
              simp only at k_0 k_1 k_2 k_3 k_4 k_5 k_6 k_7 k_8 k_9 k_10 k_11 k_12 hI3
              have HI3 : Hid (IsI wr (.slice a3 ds.length c3) ds) := hI3
              have HS3 : Hid (Sized (⟨ac, ar, sq, ds, kd, nc, nr, pc, pr, fc, fr, nm, vl⟩ : Ch)) := hS3
              clear hI3 hS3
              go_wp2_with fail
              clear k_0 k_1 k_2 k_3 k_4 k_5 k_6 k_7 k_8 k_9 k_10 k_11 k_12
              refine (add_any Fz lz 4096 Z (⟨ac, ar, sq, ds, kd, nc, nr, pc, pr, fc, fr, nm, vl⟩ : Ch) (.slice a3 ds.length c3) _ HS.out.logz HP.out.gz (by have := HZl.out; omega) (by omega) HI3.out HS3.out).mono ?_
              rintro e w5 ⟨rfl, F5, hL5, _, hf5, ht5⟩
              have HS5 : Hid (AnyS w lx lz Fx F5 G Y (addL Z 4096 (⟨ac, ar, sq, ds, kd, nc, nr, pc, pr, fc, fr, nm, vl⟩ : Ch)) R yb (.slice ay Y.length cy) (.slice (some ⟨b, o, none⟩) R.length cap) w5) := HS.out.add hL5 hf5 ht5
              clear hL5 hf5 ht5 HS HI3 HS3
              rcases HW1.out with hw | hw
              · rw [hw]
                rw [HX0.out] at hw HS5
                have HW : Hid (whyR Z 4096 R[i] = 0) := hw
                have HGl : Hid (∀ k, G k → k < w5.heap.size) := HS5.out.doc.1
                clear hw HW1 hmod
                obtain ⟨b', o', cap', E, e, hcap, hb, hE, hE2, hE3⟩ := HS5.out.rest.row (by intro e; rw [e] at h0; simp at h0)
                simp only [Value.slice.injEq, Option.some.injEq, Addr.mk.injEq] at e
                obtain ⟨⟨rfl, rfl, _⟩, _, rfl⟩ := e
                have hEl : E.length = R.length := by rw [← hE]; simp
                have HE : Hid (E.map Prod.fst = R ∧ E.length = R.length ∧ (∀ x ∈ E, (∃ a n c, x.2 = .slice a n c) ∧ IsG G w5 x.2 x.1.deps ∧ Sized x.1) ∧ (∀ i u, (flatH E)[i]? = some u → w5.cell? ⟨b, o + i, none⟩ = some u) ∧ G b) := ⟨hE, hEl, hE2, hE3, hb⟩
                have i2 : (i : Int) ≤ (cap : Int) := by omega
                obtain ⟨W0, eW⟩ : ∃ X, X = w5.alloc (.cells #[] 38) := ⟨_, rfl⟩
                have HP0 : Hid (PutA G w5 (.slice (some ⟨w5.heap.size, 0, none⟩) 0 0) [] W0) := by
                  refine ⟨?_, fun x hx => by simp at hx, by rw [eW]; exact (Below.refl _ _).alloc (Nat.le_refl _) _, HGl.out⟩
                  rw [eW]
                  exact World.ownsRow_made w5 (e := 38) (size := 13) (base := w5.heap.size) #[] 0 (by simp) (by unfold maxLen; omega) (by simp)
                have HC1 : Hid (∀ j u, (flatH (E.take i))[j]? = some u → W0.cell? ⟨b, o + j, none⟩ = some u) := by
                  intro j u hj
                  have hlt := HE.out.2.2.2.1 j u (by
                    rw [← List.take_append_drop i E, flatH_app]
                    rw [List.getElem?_append_left (by by_cases h : j < (flatH (E.take i)).length; exact h; rw [List.getElem?_eq_none (by omega)] at hj; cases hj)]
                    exact hj)
                  exact (HP0.out.bel.cell (p := ⟨b, o + j, none⟩) (HGl.out b HE.out.2.2.2.2)).trans hlt
                have HD1 : Hid (∀ x ∈ E.take i, (IsG G W0 x.2 x.1.deps ∨ OwnI w5.heap.size W0 x.2 x.1.deps) ∧ Sized x.1 ∧ x.1.deps.length ≤ 17592186044416) := fun x hx => by
                  obtain ⟨_, q1, q2⟩ := HE.out.2.2.1 x (List.mem_of_mem_take hx)
                  exact ⟨.inl (q1.keep (KeepsS.of_below HP0.out.bel HGl.out)), q2, by obtain ⟨_, _, _, _, h, _⟩ := q1; exact h⟩
                have HL1 : Hid ((E.take i).length = i) := by show _ = _; rw [List.length_take, HE.out.2.1]; omega
                have HC2 : Hid (∀ W, Below w5.heap.size w5 W → ∀ j u, (flatH (E.drop (i + 1)))[j]? = some u → W.cell? ⟨b, o + (i + 1) * 13 + j, none⟩ = some u) := by
                  intro W hb j u hj
                  have hlt := HE.out.2.2.2.1 ((i + 1) * 13 + j) u (by
                    rw [← List.take_append_drop (i + 1) E, flatH_app]
                    rw [List.getElem?_append_right (by rw [flatH_length, List.length_take, HE.out.2.1]; omega)]
                    rw [flatH_length, List.length_take, HE.out.2.1, Nat.min_eq_left (by omega), Nat.add_sub_cancel_left]
                    exact hj)
                  rw [show o + (i + 1) * 13 + j = o + ((i + 1) * 13 + j) by omega]
                  exact (hb.cell (p := ⟨b, o + ((i + 1) * 13 + j), none⟩) (HGl.out b HE.out.2.2.2.2)).trans hlt
                have HD2 : Hid (∀ W, Below w5.heap.size w5 W → ∀ x ∈ E.drop (i + 1), (IsG G W x.2 x.1.deps ∨ OwnI w5.heap.size W x.2 x.1.deps) ∧ Sized x.1 ∧ x.1.deps.length ≤ 17592186044416) := fun W hb x hx => by
                  obtain ⟨_, q1, q2⟩ := HE.out.2.2.1 x (List.mem_of_mem_drop hx)
                  exact ⟨.inl (q1.keep (KeepsS.of_below hb HGl.out)), q2, by obtain ⟨_, _, _, _, h, _⟩ := q1; exact h⟩
                have HL2 : Hid ((E.drop (i + 1)).length = R.length - (i + 1)) := by show _ = _; rw [List.length_drop, HE.out.2.1]
                have HX : Hid ((([] ++ E.take i) ++ E.drop (i + 1)).map Prod.fst = R.eraseIdx i ∧ (([] ++ E.take i) ++ E.drop (i + 1)).length ≤ 281474976710656) := by
                  refine ⟨?_, by simp [HE.out.2.1]; omega⟩
                  rw [List.eraseIdx_eq_take_drop_succ, List.nil_append, List.map_append, List.map_take, List.map_drop, HE.out.1]
                have HV : Hid (∀ x ∈ E.drop (i + 1), ∃ a n c, x.2 = .slice a n c) := fun x hx => (HE.out.2.2.1 x (List.mem_of_mem_drop hx)).1
                have i3 : (i : Int) + 1 ≤ (cap : Int) := by omega
                have i4 : (i : Int) + 1 ≤ (R.length : Int) := by omega
                clear hE hE2 hE3 hEl hb
                by_cases hcc : cap = i + 1
                · subst hcc
                  have hLi : R.length - (i + 1) = 0 := by omega
                  have HN : Hid (flatH (E.drop (i + 1)) = []) := by show _ = _; rw [List.eq_nil_of_length_eq_zero (HL2.out.trans hLi)]; rfl
                  clear hLi
                  go_wp2_with (first | (at_builtin; rw [← eW]; refine wpList_appHs rfl _ _ rfl w5.heap.size _ [] rfl HP0.out.own b o i (i + 1) (E.take i) rfl HL1.out HC1.out (fun x hx => (HE.out.2.2.1 x (List.mem_of_mem_take hx)).1) (by have := HL1.out; simp; omega) HP0.out.bel.size ?_; intro v1 w7 hown hgrow; have HP1 : Hid (PutA G w5 v1 ([] ++ E.take i) w7) := HP0.out.pushs hown hgrow HD1.out; clear hown hgrow HP0 HC1 HD1 eW) | (at_builtin; refine wpList_appHs rfl _ _ rfl w5.heap.size _ ([] ++ E.take i) rfl HP1.out.own b o 0 0 (E.drop (i + 1)) rfl (HL2.out.trans (by omega)) (fun j u hj => by rw [HN.out] at hj; simp at hj) HV.out (by have := HL1.out; have := HL2.out; simp only [List.nil_append]; omega) HP1.out.bel.size ?_; intro v2 w8 hown hgrow; have HP2 : Hid (PutA G w5 v2 (([] ++ E.take i) ++ E.drop (i + 1)) w8) := HP1.out.pushs hown hgrow (HD2.out _ HP1.out.bel); clear hown hgrow HP1 HD2))
                  go_roundw
                  case rel =>
                    have hf := HP2.out.firm HX.out.2
                    rw [HX.out.1] at hf
                    have hS9 := HS5.out.cut hf (fun k q => .inl q) (fun k q => q.imp id (fun q => q.1)) HP2.out.bel
                    exact ⟨k + 1, by go_num, by omega, .inr ⟨rfl, addL Z 4096 R[i], R.eraseIdx i, _, _, by rw [List.length_eraseIdx_of_lt hi]; omega, hS9, HP.out.step hi HW.out⟩⟩
                  case measure => simp [intOf]; omega
                · have hcc2 : i + 1 < cap := by omega
                  clear hcc
                  go_wp2_with (first | (at_builtin; rw [← eW]; refine wpList_appHs rfl _ _ rfl w5.heap.size _ [] rfl HP0.out.own b o i cap (E.take i) rfl HL1.out HC1.out (fun x hx => (HE.out.2.2.1 x (List.mem_of_mem_take hx)).1) (by have := HL1.out; simp; omega) HP0.out.bel.size ?_; intro v1 w7 hown hgrow; have HP1 : Hid (PutA G w5 v1 ([] ++ E.take i) w7) := HP0.out.pushs hown hgrow HD1.out; clear hown hgrow HP0 HC1 HD1 eW) | (at_builtin; refine wpList_appHs rfl _ _ rfl w5.heap.size _ ([] ++ E.take i) rfl HP1.out.own b (o + (i + 1) * 13) (R.length - (i + 1)) (cap - (i + 1)) (E.drop (i + 1)) rfl HL2.out (HC2.out _ HP1.out.bel) HV.out (by have := HL1.out; have := HL2.out; simp only [List.nil_append]; omega) HP1.out.bel.size ?_; intro v2 w8 hown hgrow; have HP2 : Hid (PutA G w5 v2 (([] ++ E.take i) ++ E.drop (i + 1)) w8) := HP1.out.pushs hown hgrow (HD2.out _ HP1.out.bel); clear hown hgrow HP1 HD2))
                  go_roundw
                  case rel =>
                    have hf := HP2.out.firm HX.out.2
                    rw [HX.out.1] at hf
                    have hS9 := HS5.out.cut hf (fun k q => .inl q) (fun k q => q.imp id (fun q => q.1)) HP2.out.bel
                    exact ⟨k + 1, by go_num, by omega, .inr ⟨rfl, addL Z 4096 R[i], R.eraseIdx i, _, _, by rw [List.length_eraseIdx_of_lt hi]; omega, hS9, HP.out.step hi HW.out⟩⟩
                  case measure => simp [intOf]; omega
              · rw [hw]
                have he : addL Z 4096 (⟨ac, ar, sq, ds, kd, nc, nr, pc, pr, fc, fr, nm, vl⟩ : Ch) = Z := by unfold addL; rw [if_neg (by omega)]
                rw [he] at HS5
                have HNo2 : Hid (∀ j, j < k + 1 → ∀ c, R[(f + j) % R.length]? = some c → whyR Z 4096 c ≠ 0) := fun j hj c hc => by
                  by_cases hjk : j < k
                  · exact HNo.out j hjk c hc
                  · obtain rfl : j = k := by omega
                    rw [← HEi.out, List.getElem?_eq_getElem hi, ← HX0.out] at hc
                    cases hc
                    omega
                clear hw he HW1 HNo hmod
                go_wp2
                go_roundw
                case rel => exact ⟨k + 1, by go_num, by omega, .inl ⟨rfl, rfl, F5, HS5, HNo2⟩⟩
                case measure => simp [intOf]; omega
            · exfalso
              obtain ⟨j, hj, hj0⟩ := reach0 h0 hf
              refine HNo.out j (by omega) R[0] (by rw [hj0, List.getElem?_eq_getElem h0]) (HP.out.first HY.out hlen h0)
          · obtain ⟨aq, cq, eq⟩ := HS1.out.rest.isH.form
            subst eq
            by_cases hkn : k < R1.length
            · have k1 : (k : Int) < (R1.length : Int) := by omega
              go_wp2
              go_roundw
              case rel => exact ⟨t + 1, Z1, R1, Fz1, G1, by go_num, by omega, HS1, HP1⟩
              case measure => simp [intOf]; omega
            · have k1 : ¬ (k : Int) < (R1.length : Int) := by omega
              have k2 : decide ((k : Int) < (R1.length : Int)) = false := by simp; omega
              go_wp2
              go_roundw
              case rel => exact ⟨t + 1, Z1, R1, Fz1, G1, by go_num, by omega, HS1, HP1⟩
              case measure => simp [intOf]; omega
      · have t2 : decide ((t : Int) < (od.length : Int)) = false := by simp; omega
        have t1 : ¬ (t : Int) < (od.length : Int) := by omega
        obtain ⟨f, hf, ef⟩ : ∃ f : Nat, f < R.length ∧ f = 0 := ⟨0, h0, rfl⟩
        go_upto_region 12 with fail
        have HEF : Hid (f = 0) := ef
        clear ef
        go_wp2
        go_loopw [9, 12, 13] (fun rv dv kv wr => ∃ (k : Nat), kv = .int .i64 (k : Int) ∧ k ≤ R.length ∧ ((dv = .bool false ∧ rv = .slice (some ⟨b, o, none⟩) R.length cap ∧ ∃ Fz : Nat → Prop, Hid (AnyS w lx lz Fx Fz G Y Z R yb (.slice ay Y.length cy) rv wr) ∧ Hid (∀ j, j < k → ∀ c, R[(f + j) % R.length]? = some c → whyR Z 4096 c ≠ 0)) ∨ (dv = .bool true ∧ ∃ (Z1 R1 : List Ch) (Fz1 G1 : Nat → Prop), R1.length + 1 = R.length ∧ Hid (AnyS w lx lz Fx Fz1 G1 Y Z1 R1 yb (.slice ay Y.length cy) rv wr) ∧ Hid (AnyP Y Z1 R1)))) (fun _ _ kv _ => R.length - (intOf kv).toNat)
        case atStart => exact ⟨0, rfl, Nat.zero_le _, .inl ⟨rfl, rfl, Fz, HS, fun j hj => by omega⟩⟩
        case round =>
          obtain ⟨k, rfl, hk, hcase⟩ := hrel
          clear HS
          rename_i wr
          rcases hcase with ⟨rfl, rfl, Fz, HS, HNo⟩ | ⟨rfl, Z1, R1, Fz1, G1, hlr, HS1, HP1⟩
          · by_cases hkn : k < R.length
            · have k1 : (k : Int) < (R.length : Int) := by omega
              obtain ⟨i, ei⟩ : ∃ i, i = (f + k) % R.length := ⟨_, rfl⟩
              have hi : i < R.length := by rw [ei]; exact Nat.mod_lt _ h0
              have hmod : (k : Int).tmod (R.length : Int) = (i : Int) := by rw [ei, HEF.out, Nat.zero_add]; have := mod_at (f := 0) (k := k) h0; simpa using this
              have HEi : Hid (i = (f + k) % R.length) := ei
              have i1 : (i : Int) < (R.length : Int) := by omega
              have i0 : (0 : Int) ≤ (i : Int) := by omega
              obtain ⟨_, _, e, _, hl2, hrow⟩ := HS.out.rest.isH
              simp only [Value.slice.injEq] at e
              obtain ⟨e1, _, e3⟩ := e
              subst e1 e3
              obtain ⟨b', o', e, hrow2⟩ := hrow.resolve_left (by intro e; rw [e] at h0; simp at h0)
              simp only [Option.some.injEq, Addr.mk.injEq] at e
              obtain ⟨rfl, rfl, _⟩ := e
              obtain ⟨a3, c3, hI3, hS3, k_0, k_1, k_2, k_3, k_4, k_5, k_6, k_7, k_8, k_9, k_10, k_11, k_12⟩ := (hrow2 i hi).all
              obtain ⟨x, ex⟩ : ∃ x, x = R[i] := ⟨_, rfl⟩
              have HX0 : Hid (x = R[i]) := ex
              rw [← ex] at hI3 hS3 k_0 k_1 k_2 k_3 k_4 k_5 k_6 k_7 k_8 k_9 k_10 k_11 k_12
              have HW1 : Hid (whyR Z 4096 x = 0 ∨ whyR Z 4096 x = 4) := by rw [ex]; exact HP.out.why HY.out hlen hi
              have HZl : Hid (Z.length ≤ Y.length) := HP.out.le HY.out
              clear ei hrow hrow2 ex
              obtain ⟨ac, ar, sq, ds, kd, nc, nr, pc, pr, fc, fr, nm, vl⟩ := x
              simp only at k_0 k_1 k_2 k_3 k_4 k_5 k_6 k_7 k_8 k_9 k_10 k_11 k_12 hI3
              have HI3 : Hid (IsI wr (.slice a3 ds.length c3) ds) := hI3
              have HS3 : Hid (Sized (⟨ac, ar, sq, ds, kd, nc, nr, pc, pr, fc, fr, nm, vl⟩ : Ch)) := hS3
              clear hI3 hS3
              go_wp2_with fail
              clear k_0 k_1 k_2 k_3 k_4 k_5 k_6 k_7 k_8 k_9 k_10 k_11 k_12
              refine (add_any Fz lz 4096 Z (⟨ac, ar, sq, ds, kd, nc, nr, pc, pr, fc, fr, nm, vl⟩ : Ch) (.slice a3 ds.length c3) _ HS.out.logz HP.out.gz (by have := HZl.out; omega) (by omega) HI3.out HS3.out).mono ?_
              rintro e w5 ⟨rfl, F5, hL5, _, hf5, ht5⟩
              have HS5 : Hid (AnyS w lx lz Fx F5 G Y (addL Z 4096 (⟨ac, ar, sq, ds, kd, nc, nr, pc, pr, fc, fr, nm, vl⟩ : Ch)) R yb (.slice ay Y.length cy) (.slice (some ⟨b, o, none⟩) R.length cap) w5) := HS.out.add hL5 hf5 ht5
              clear hL5 hf5 ht5 HS HI3 HS3
              rcases HW1.out with hw | hw
              · rw [hw]
                rw [HX0.out] at hw HS5
                have HW : Hid (whyR Z 4096 R[i] = 0) := hw
                have HGl : Hid (∀ k, G k → k < w5.heap.size) := HS5.out.doc.1
                clear hw HW1 hmod
                obtain ⟨b', o', cap', E, e, hcap, hb, hE, hE2, hE3⟩ := HS5.out.rest.row (by intro e; rw [e] at h0; simp at h0)
                simp only [Value.slice.injEq, Option.some.injEq, Addr.mk.injEq] at e
                obtain ⟨⟨rfl, rfl, _⟩, _, rfl⟩ := e
                have hEl : E.length = R.length := by rw [← hE]; simp
                have HE : Hid (E.map Prod.fst = R ∧ E.length = R.length ∧ (∀ x ∈ E, (∃ a n c, x.2 = .slice a n c) ∧ IsG G w5 x.2 x.1.deps ∧ Sized x.1) ∧ (∀ i u, (flatH E)[i]? = some u → w5.cell? ⟨b, o + i, none⟩ = some u) ∧ G b) := ⟨hE, hEl, hE2, hE3, hb⟩
                have i2 : (i : Int) ≤ (cap : Int) := by omega
                obtain ⟨W0, eW⟩ : ∃ X, X = w5.alloc (.cells #[] 38) := ⟨_, rfl⟩
                have HP0 : Hid (PutA G w5 (.slice (some ⟨w5.heap.size, 0, none⟩) 0 0) [] W0) := by
                  refine ⟨?_, fun x hx => by simp at hx, by rw [eW]; exact (Below.refl _ _).alloc (Nat.le_refl _) _, HGl.out⟩
                  rw [eW]
                  exact World.ownsRow_made w5 (e := 38) (size := 13) (base := w5.heap.size) #[] 0 (by simp) (by unfold maxLen; omega) (by simp)
                have HC1 : Hid (∀ j u, (flatH (E.take i))[j]? = some u → W0.cell? ⟨b, o + j, none⟩ = some u) := by
                  intro j u hj
                  have hlt := HE.out.2.2.2.1 j u (by
                    rw [← List.take_append_drop i E, flatH_app]
                    rw [List.getElem?_append_left (by by_cases h : j < (flatH (E.take i)).length; exact h; rw [List.getElem?_eq_none (by omega)] at hj; cases hj)]
                    exact hj)
                  exact (HP0.out.bel.cell (p := ⟨b, o + j, none⟩) (HGl.out b HE.out.2.2.2.2)).trans hlt
                have HD1 : Hid (∀ x ∈ E.take i, (IsG G W0 x.2 x.1.deps ∨ OwnI w5.heap.size W0 x.2 x.1.deps) ∧ Sized x.1 ∧ x.1.deps.length ≤ 17592186044416) := fun x hx => by
                  obtain ⟨_, q1, q2⟩ := HE.out.2.2.1 x (List.mem_of_mem_take hx)
                  exact ⟨.inl (q1.keep (KeepsS.of_below HP0.out.bel HGl.out)), q2, by obtain ⟨_, _, _, _, h, _⟩ := q1; exact h⟩
                have HL1 : Hid ((E.take i).length = i) := by show _ = _; rw [List.length_take, HE.out.2.1]; omega
                have HC2 : Hid (∀ W, Below w5.heap.size w5 W → ∀ j u, (flatH (E.drop (i + 1)))[j]? = some u → W.cell? ⟨b, o + (i + 1) * 13 + j, none⟩ = some u) := by
                  intro W hb j u hj
                  have hlt := HE.out.2.2.2.1 ((i + 1) * 13 + j) u (by
                    rw [← List.take_append_drop (i + 1) E, flatH_app]
                    rw [List.getElem?_append_right (by rw [flatH_length, List.length_take, HE.out.2.1]; omega)]
                    rw [flatH_length, List.length_take, HE.out.2.1, Nat.min_eq_left (by omega), Nat.add_sub_cancel_left]
                    exact hj)
                  rw [show o + (i + 1) * 13 + j = o + ((i + 1) * 13 + j) by omega]
                  exact (hb.cell (p := ⟨b, o + ((i + 1) * 13 + j), none⟩) (HGl.out b HE.out.2.2.2.2)).trans hlt
                have HD2 : Hid (∀ W, Below w5.heap.size w5 W → ∀ x ∈ E.drop (i + 1), (IsG G W x.2 x.1.deps ∨ OwnI w5.heap.size W x.2 x.1.deps) ∧ Sized x.1 ∧ x.1.deps.length ≤ 17592186044416) := fun W hb x hx => by
                  obtain ⟨_, q1, q2⟩ := HE.out.2.2.1 x (List.mem_of_mem_drop hx)
                  exact ⟨.inl (q1.keep (KeepsS.of_below hb HGl.out)), q2, by obtain ⟨_, _, _, _, h, _⟩ := q1; exact h⟩
                have HL2 : Hid ((E.drop (i + 1)).length = R.length - (i + 1)) := by show _ = _; rw [List.length_drop, HE.out.2.1]
                have HX : Hid ((([] ++ E.take i) ++ E.drop (i + 1)).map Prod.fst = R.eraseIdx i ∧ (([] ++ E.take i) ++ E.drop (i + 1)).length ≤ 281474976710656) := by
                  refine ⟨?_, by simp [HE.out.2.1]; omega⟩
                  rw [List.eraseIdx_eq_take_drop_succ, List.nil_append, List.map_append, List.map_take, List.map_drop, HE.out.1]
                have HV : Hid (∀ x ∈ E.drop (i + 1), ∃ a n c, x.2 = .slice a n c) := fun x hx => (HE.out.2.2.1 x (List.mem_of_mem_drop hx)).1
                have i3 : (i : Int) + 1 ≤ (cap : Int) := by omega
                have i4 : (i : Int) + 1 ≤ (R.length : Int) := by omega
                clear hE hE2 hE3 hEl hb
                by_cases hcc : cap = i + 1
                · subst hcc
                  have hLi : R.length - (i + 1) = 0 := by omega
                  have HN : Hid (flatH (E.drop (i + 1)) = []) := by show _ = _; rw [List.eq_nil_of_length_eq_zero (HL2.out.trans hLi)]; rfl
                  clear hLi
                  go_wp2_with (first | (at_builtin; rw [← eW]; refine wpList_appHs rfl _ _ rfl w5.heap.size _ [] rfl HP0.out.own b o i (i + 1) (E.take i) rfl HL1.out HC1.out (fun x hx => (HE.out.2.2.1 x (List.mem_of_mem_take hx)).1) (by have := HL1.out; simp; omega) HP0.out.bel.size ?_; intro v1 w7 hown hgrow; have HP1 : Hid (PutA G w5 v1 ([] ++ E.take i) w7) := HP0.out.pushs hown hgrow HD1.out; clear hown hgrow HP0 HC1 HD1 eW) | (at_builtin; refine wpList_appHs rfl _ _ rfl w5.heap.size _ ([] ++ E.take i) rfl HP1.out.own b o 0 0 (E.drop (i + 1)) rfl (HL2.out.trans (by omega)) (fun j u hj => by rw [HN.out] at hj; simp at hj) HV.out (by have := HL1.out; have := HL2.out; simp only [List.nil_append]; omega) HP1.out.bel.size ?_; intro v2 w8 hown hgrow; have HP2 : Hid (PutA G w5 v2 (([] ++ E.take i) ++ E.drop (i + 1)) w8) := HP1.out.pushs hown hgrow (HD2.out _ HP1.out.bel); clear hown hgrow HP1 HD2))
                  go_roundw
                  case rel =>
                    have hf := HP2.out.firm HX.out.2
                    rw [HX.out.1] at hf
                    have hS9 := HS5.out.cut hf (fun k q => .inl q) (fun k q => q.imp id (fun q => q.1)) HP2.out.bel
                    exact ⟨k + 1, by go_num, by omega, .inr ⟨rfl, addL Z 4096 R[i], R.eraseIdx i, _, _, by rw [List.length_eraseIdx_of_lt hi]; omega, hS9, HP.out.step hi HW.out⟩⟩
                  case measure => simp [intOf]; omega
                · have hcc2 : i + 1 < cap := by omega
                  clear hcc
                  go_wp2_with (first | (at_builtin; rw [← eW]; refine wpList_appHs rfl _ _ rfl w5.heap.size _ [] rfl HP0.out.own b o i cap (E.take i) rfl HL1.out HC1.out (fun x hx => (HE.out.2.2.1 x (List.mem_of_mem_take hx)).1) (by have := HL1.out; simp; omega) HP0.out.bel.size ?_; intro v1 w7 hown hgrow; have HP1 : Hid (PutA G w5 v1 ([] ++ E.take i) w7) := HP0.out.pushs hown hgrow HD1.out; clear hown hgrow HP0 HC1 HD1 eW) | (at_builtin; refine wpList_appHs rfl _ _ rfl w5.heap.size _ ([] ++ E.take i) rfl HP1.out.own b (o + (i + 1) * 13) (R.length - (i + 1)) (cap - (i + 1)) (E.drop (i + 1)) rfl HL2.out (HC2.out _ HP1.out.bel) HV.out (by have := HL1.out; have := HL2.out; simp only [List.nil_append]; omega) HP1.out.bel.size ?_; intro v2 w8 hown hgrow; have HP2 : Hid (PutA G w5 v2 (([] ++ E.take i) ++ E.drop (i + 1)) w8) := HP1.out.pushs hown hgrow (HD2.out _ HP1.out.bel); clear hown hgrow HP1 HD2))
                  go_roundw
                  case rel =>
                    have hf := HP2.out.firm HX.out.2
                    rw [HX.out.1] at hf
                    have hS9 := HS5.out.cut hf (fun k q => .inl q) (fun k q => q.imp id (fun q => q.1)) HP2.out.bel
                    exact ⟨k + 1, by go_num, by omega, .inr ⟨rfl, addL Z 4096 R[i], R.eraseIdx i, _, _, by rw [List.length_eraseIdx_of_lt hi]; omega, hS9, HP.out.step hi HW.out⟩⟩
                  case measure => simp [intOf]; omega
              · rw [hw]
                have he : addL Z 4096 (⟨ac, ar, sq, ds, kd, nc, nr, pc, pr, fc, fr, nm, vl⟩ : Ch) = Z := by unfold addL; rw [if_neg (by omega)]
                rw [he] at HS5
                have HNo2 : Hid (∀ j, j < k + 1 → ∀ c, R[(f + j) % R.length]? = some c → whyR Z 4096 c ≠ 0) := fun j hj c hc => by
                  by_cases hjk : j < k
                  · exact HNo.out j hjk c hc
                  · obtain rfl : j = k := by omega
                    rw [← HEi.out, List.getElem?_eq_getElem hi, ← HX0.out] at hc
                    cases hc
                    omega
                clear hw he HW1 HNo hmod
                go_wp2
                go_roundw
                case rel => exact ⟨k + 1, by go_num, by omega, .inl ⟨rfl, rfl, F5, HS5, HNo2⟩⟩
                case measure => simp [intOf]; omega
            · exfalso
              obtain ⟨j, hj, hj0⟩ := reach0 h0 hf
              refine HNo.out j (by omega) R[0] (by rw [hj0, List.getElem?_eq_getElem h0]) (HP.out.first HY.out hlen h0)
          · obtain ⟨aq, cq, eq⟩ := HS1.out.rest.isH.form
            subst eq
            by_cases hkn : k < R1.length
            · have k1 : (k : Int) < (R1.length : Int) := by omega
              go_wp2
              go_roundw
              case rel => exact ⟨t + 1, Z1, R1, Fz1, G1, by go_num, by omega, HS1, HP1⟩
              case measure => simp [intOf]; omega
            · have k1 : ¬ (k : Int) < (R1.length : Int) := by omega
              have k2 : decide ((k : Int) < (R1.length : Int)) = false := by simp; omega
              go_wp2
              go_roundw
              case rel => exact ⟨t + 1, Z1, R1, Fz1, G1, by go_num, by omega, HS1, HP1⟩
              case measure => simp [intOf]; omega
    · obtain rfl : R = [] := List.eq_nil_of_length_eq_zero (by omega)
      obtain rfl : Z = Y := HP.out.done HY.out
      have HV : Hid (Good Z) := HY
      obtain ⟨aq, cq, eq⟩ := HS.out.rest.isH.form
      subst eq
      go_wp2_with fail
      refine (all_any _ 4096 Z Fz _ HS.out.logz.v HV.out (by omega)).mono ?_
      rintro e w5 ⟨v5, E5, rfl, hE5, hO5, hD5, hb5⟩
      have HS5 : Hid (AnyS w lx lz Fx Fz G Z Z [] yb (.slice ay Z.length cy) (.slice aq ([] : List Ch).length cq) w5) := HS.out.below hb5
      have HI5 : Hid (IsH w5 v5 Z) := by have := OwnH.isH hO5 (by have := congrArg List.length hE5; rw [List.length_map] at this; omega) (fun x hx => ⟨OwnI.isI (hD5 x hx).1 (hD5 x hx).2.2, (hD5 x hx).2.1⟩); rw [hE5] at this; exact this
      obtain ⟨a5, c5, e5⟩ := HI5.out.form
      subst e5
      clear hE5 hO5 hD5 hb5 HS
      go_wp2_with fail
      refine (all_any _ 4096 Z Fx _ HS5.out.logx.v HV.out (by omega)).mono ?_
      rintro e w6 ⟨v6, E6, rfl, hE6, hO6, hD6, hb6⟩
      have HS6 : Hid (AnyS w lx lz Fx Fz G Z Z [] yb (.slice ay Z.length cy) (.slice aq ([] : List Ch).length cq) w6) := HS5.out.below hb6
      have HI7 : Hid (IsH w6 (.slice a5 Z.length c5) Z) := HI5.out.below hb6
      have HI6 : Hid (IsH w6 v6 Z) := by have := OwnH.isH hO6 (by have := congrArg List.length hE6; rw [List.length_map] at this; omega) (fun x hx => ⟨OwnI.isI (hD6 x hx).1 (hD6 x hx).2.2, (hD6 x hx).2.1⟩); rw [hE6] at this; exact this
      obtain ⟨a6, c6, e6⟩ := HI6.out.form
      subst e6
      clear hE6 hO6 hD6 hb6 HS5 HI5
      go_wp2_with fail
      refine (sameAll_eq _ _ Z _ HI7.out HI6.out).mono ?_
      rintro e w7 ⟨rfl, hb7⟩
      have HS7 : Hid (AnyS w lx lz Fx Fz G Z Z [] yb (.slice ay Z.length cy) (.slice aq ([] : List Ch).length cq) w7) := HS6.out.below hb7
      obtain ⟨y_0, y_1, _, _⟩ := row2_cells HS7.out.box
      clear hb7 HS6 HI7 HI6
      go_wp2_with fail
      clear y_0 y_1
      refine (told_any Fz _ 4096 Z _ _ HS7.out.logz.v HS7.out.doc.isH HV.out (by omega)).mono ?_
      rintro e w8 ⟨rfl, hb8⟩
      have HB8 : Hid (Below w.heap.size w w8) := HS7.out.bel.trans (hb8.mono HS7.out.bel.size)
      clear hb8 HS7
      go_wp2_with fail
      refine (awake_any _).mono ?_
      rintro e w9 ⟨rfl, hb9⟩
      have HB9 : Hid (Below w.heap.size w w9) := HB8.out.trans (hb9.mono HB8.out.size)
      clear hb9
      go_wp2
      go_ret
      exact ⟨rfl, HB9.out⟩

end Go.Proofs.YtngldpabfpcaiaaGreat

namespace Go.Proofs.YtngldpabfpcaiaaGreat
open Go.ChangeShapes Go.WideShapes Go.ChangeAt Go.RowKit
open Go.ChangeMaps (open_string shut_string)
set_option linter.unusedVariables false

set_option maxRecDepth 100000 in
theorem oplogAny_lifted (os : Os) (started : os.Started) (H : Type) (enc : TypeId × Value → H) :
    ReturnsInHanded {} Tryz.checked os 3 .any (Rows.oplogAnySpec.pre6 enc Tryz.prog Tryz.f3 Rows.oplogAnyRow.domain false) (Rows.oplogAnySpec.post enc Tryz.prog Tryz.f3 false true false false) := by
  refine returnsInHanded_of_change_sized (C := Tryz.checked) ownI started (by kernel_rfl) Tryz.func3
    (ChangeSpec.witness6 (enc := enc) (C := Tryz.checked) false ⟨#[], #[.slice none 0 0, .slice none 0 0], []⟩ 8 (by kernel_rfl) (by kernel_rfl) (by kernel_rfl) (by kernel_rfl)) ?_
  intro W base args ds gs before hval0 hW _ hsz0 _
  have hval : ∀ (j : Nat) t v, Tryz.f3.params[j]? = some t → args[j]? = some v → Value.okWide Tryz.prog W .any base t v := hval0
  have hW' := hW
  obtain ⟨p, q, hA0, hV, rfl, hfz, hnd⟩ := hW
  have hA : DataW.TrodAll enc Tryz.prog W 0 (fun _ => true) true Tryz.f3.params.toList args.toList ds p := hA0
  rw [Tryz.params3] at hA hval
  obtain ⟨v0, v1, d0, d1, p0, p1, rfl, rfl, rfl, h0, h1⟩ := trodAll_two hA
  obtain ⟨rfl, rfl⟩ := trodVars_none hV
  have hk0 := h0
  have hk1 := h1
  obtain ⟨D1, hf1, hd1⟩ := open_intsV (hval 1 23 v1 rfl rfl) h1
  have hsz : (DataW.weightsEach Tryz.prog (Tryz.f3.params.toList ++ Rows.oplogAnySpec.plain.varTypes Tryz.prog) (_ ++ _)).all (· ≤ reachBytes) = true := hsz0
  rw [Tryz.params3] at hsz
  have hw0 : ∀ n ∈ d0.weights Tryz.prog 22, n ≤ reachBytes := fun n hn => by
    have h1 := List.all_eq_true.1 hsz n (DataW.weights_mem_each (j := 0) rfl rfl n hn)
    simpa using h1
  obtain ⟨D0, is0, hl0⟩ := open_chsV (hval 0 22 v0 rfl rfl) h0 hw0
  have hlt0 : ∀ x ∈ p0, x.block < W.heap.size := fun x hx => by simpa using hW'.lt x (by simp [hx])
  have len1 : D1.length ≤ 17592186044416 := by
    rcases hd1 with ⟨_, rfl⟩ | ⟨els, sp, e, he⟩
    · simp
    · subst e
      have h1 := sized_slice hsz (j := 1) (t := 23) rfl rfl Tryz.underlying23
      have h2 : reachBytes ≤ 140737488355328 := by decide
      rw [bytesInt] at h1
      omega
  have is1 : IsI W v1 D1 := by obtain ⟨a, cap, e, h1, h2⟩ := hf1; exact ⟨a, cap, e, h1, len1, h2⟩
  have hlt1 : ∀ x ∈ p1, x.block < W.heap.size := fun x hx => by simpa using hW'.lt x (by simp [hx])
  clear hA0 hval0
  refine (anyWalk v0 D0 v1 D1 W is0 is1).mono fun e W' ⟨he, bel⟩ => ?_
  subst he
  exact ⟨_, rfl, _, _, _, [], _, [], hW', trodAll_mk1 (shut_bool Tryz.underlying4 _), trodAll_mk2 (Below.trod laidOutI (by kernel_rfl) (of_decide_eq_true (by kernel_rfl)) hk0 bel hlt0) (Below.trod laidOutI (by kernel_rfl) (of_decide_eq_true (by kernel_rfl)) hk1 bel hlt1), rfl, bel.frame _, fun h => by cases h⟩

theorem oplogAny_holds : Rows.OplogAnySaid :=
  OpenClaim.holds_of_wide 3 Tryz.f3 rfl rfl rfl rfl rfl rfl rfl ⟨rfl, rfl, rfl, rfl, rfl⟩ rfl rfl rfl rfl rfl (by kernel_rfl) Tryz.func3 (by kernel_rfl)
    (of_decide_eq_true (by kernel_rfl)) (by unfold Func.isWrapper; first | (rw [if_pos (by decide +kernel)]; kernel_rfl) | (rw [if_neg (by decide +kernel)]; exact ⟨rfl, rfl⟩))
    (fun os started H enc _ => oplogAny_lifted os started H enc)
#print axioms oplogAny_holds
end Go.Proofs.YtngldpabfpcaiaaGreat
