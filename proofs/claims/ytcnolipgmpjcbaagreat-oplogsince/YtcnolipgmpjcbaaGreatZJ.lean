/- OplogSince of package topiarylaw07 is proved at this commit: for every input (a list of changes, a list of numbers, a number, any) the call returns true and the arguments read as they did. No condition. -/
import Derived.Test.YtcnolipgmpjcbaaGreatOlV5
import Derived.Test.YtcnolipgmpjcbaaGreatZI
import Derived.Test.YtcnolipgmpjcbaaGreatOlY2
import Derived.Test.YtcnolipgmpjcbaaGreatCkA
import Derived.Test.YtcnolipgmpjcbaaGreatZG
import Derived.Test.YtcnolipgmpjcbaaGreatOlA
import Derived.Test.YtcnolipgmpjcbaaGreatOlB
import Derived.Test.YtcnolipgmpjcbaaGreatBaseO
namespace Go.Proofs.YtcnolipgmpjcbaaGreat
open Go.RowKit
set_option linter.unusedVariables false
set_option linter.unusedSimpArgs false

def firstC : Ch := ⟨1, 0, 1, [], 1, 1, 0, 0, 0, 0, 0, ⟨#[112]⟩, ⟨#[]⟩⟩
theorem first_sized : Sized firstC := ⟨by decide, by decide⟩
theorem why_first : whyR [] 3 firstC = 0 := by decide +kernel
theorem why_first2 : whyR [firstC] 3 firstC = 5 := by decide +kernel
theorem add_first : addL [] 3 firstC = [firstC] := by unfold addL; rw [if_pos why_first]; rfl
theorem add_first2 : addL [firstC] 3 firstC = [firstC] := by unfold addL; rw [if_neg (by rw [why_first2]; decide)]

set_option maxRecDepth 100000 in
set_option maxHeartbeats 2000000 in
theorem first_any (w : World) : Calls Tryz.prog 25 #[] w fun e w' => e = .returned (chV firstC (.slice none 0 0)) ∧ Below w.heap.size w w' := by
  go_enter Tryz.func25, Tryz.ntmps25
  go_wp2
  (try simp only [Exit.inBlock, Exit.then])
  refine bodyPost_ret (v := chV firstC (.slice none 0 0)) ?res rfl ?post
  case res => exact results_cell_row rfl _ _ w.heap.size _ _ _ _ rfl ((Below.heap_alloc _ _ _ (by simp)).trans (heap_alloc_new w _)) Tryz.underlying34 rfl (by kernel_rfl)
  exact ⟨rfl, ((Below.refl _ _).alloc (Nat.le_refl _) _).alloc (by simp) _⟩

set_option maxRecDepth 100000 in
set_option maxHeartbeats 4000000 in
theorem awake_any (w : World) : Calls Tryz.prog 10 #[] w fun e w' => e = .returned (.bool true) ∧ Below w.heap.size w w' := by
  have HF : Hid (∀ W, Calls Tryz.prog 25 #[] W fun e w' => e = .returned (chV firstC (.slice none 0 0)) ∧ Below W.heap.size W w') := fun W => first_any W
  go_enter Tryz.func10, Tryz.ntmps10
  go_wp2_with fail
  refine (new_any 3 _).mono ?_
  rintro e w1 ⟨h, hb1⟩
  rcases h with ⟨h, _⟩ | ⟨_, lb, F, rfl, hL, hF⟩
  · omega
  have HL : Hid (LogOk F w1 lb 3 []) := hL
  have HB1 : Hid (Below w.heap.size w w1) := hb1
  have HFn : Hid (∀ k, F k → w.heap.size ≤ k) := hF
  clear hL hb1 hF
  go_wp2_with fail
  refine (HF.out _).mono ?_
  rintro e w2 ⟨rfl, hb2⟩
  replace HL : Hid (LogOk F w2 lb 3 []) := HL.out.below hb2
  have HB2 : Hid (Below w.heap.size w w2) := HB1.out.trans (hb2.mono HB1.out.size)
  clear hb2 HB1
  go_wp2_with fail
  refine (add_any F lb 3 [] firstC (.slice none 0 0) _ HL.out Good.none (by simp) (by omega) (IsI.non 0) first_sized).mono ?_
  rintro e w3 ⟨rfl, F3, hL3, hf1, hf2, ht⟩
  rw [why_first]
  rw [add_first] at hL3
  have HL3 : Hid (LogOk F3 w3 lb 3 [firstC]) := hL3
  have HB3 : Hid (Below w.heap.size w w3) := HB2.out.trans (ht.below HFn.out HB2.out.size)
  have HF3 : Hid (∀ k, F3 k → w.heap.size ≤ k) := fun k hk => by
    rcases hf2 k hk with h | h
    · exact HFn.out k h
    · exact Nat.le_trans HB2.out.size h
  clear hL3 hf1 hf2 ht HL HB2 HFn
  go_wp2_with fail
  refine (HF.out _).mono ?_
  rintro e w4 ⟨rfl, hb4⟩
  replace HL3 : Hid (LogOk F3 w4 lb 3 [firstC]) := HL3.out.below hb4
  have HB4 : Hid (Below w.heap.size w w4) := HB3.out.trans (hb4.mono HB3.out.size)
  clear hb4 HB3
  go_wp2_with fail
  refine (add_any F3 lb 3 [firstC] firstC (.slice none 0 0) _ HL3.out (by rw [← add_first]; exact addL_good Good.none 3 firstC) (by simp) (by omega) (IsI.non 0) first_sized).mono ?_
  rintro e w5 ⟨rfl, F5, hL5, hf1, hf2, ht⟩
  rw [why_first2]
  rw [add_first2] at hL5
  have HL5 : Hid (LogOk F5 w5 lb 3 [firstC]) := hL5
  have HB5 : Hid (Below w.heap.size w w5) := HB4.out.trans (ht.below HF3.out HB4.out.size)
  clear hL5 hf1 hf2 ht HL3 HB4 HF3
  go_wp2_with fail
  refine (len_any _ 3 [firstC] F5 _ HL5.out.v).mono ?_
  rintro e w6 ⟨rfl, hb6⟩
  have HL6 : Hid (LogOk F5 w6 lb 3 [firstC]) := HL5.out.below hb6
  have HB6 : Hid (Below w.heap.size w w6) := HB5.out.trans (hb6.mono HB5.out.size)
  clear hb6 HB5 HL5
  rw [show ((([firstC] : List Ch).length : Nat) : Int) = 1 from rfl]
  go_wp2_with fail
  refine (last_any _ 3 [firstC] F5 _ HL6.out.v (by simp)).mono ?_
  rintro e w7 ⟨rfl, hb7⟩
  have HB7 : Hid (Below w.heap.size w w7) := HB6.out.trans (hb7.mono HB6.out.size)
  clear hb7 HB6 HL6
  rw [show lastL [firstC] = 1 from rfl]
  go_wp2
  go_ret
  exact ⟨rfl, HB7.out⟩

end Go.Proofs.YtcnolipgmpjcbaaGreat

namespace Go.Proofs.YtcnolipgmpjcbaaGreat
open Go.RowKit
set_option linter.unusedVariables false
set_option linter.unusedSimpArgs false

theorem results_tmp_row {P : Program} {fn : Func} {p u : Tmp} {ty : TypeId} (h : fn.results = #[.tmp u, .cell p ty]) (tmps : Array Value) (w : World) (g : Nat) (t : TypeId) (cs : Array Value) (fr : Nat × Nat) (d : TypeDesc)
    (hp : tmps.getD p undef = .pointer (some ⟨g, 0, none⟩)) (hg : w.heap[g]? = some (.cells cs t fr))
    (hu : P.underlying ty = some d) (hd : (match d with | .struct _ | .array _ _ => true | _ => false) = true) (hi : (P.info? ty).map (·.size) = some cs.size) {k : Value} (hk : tmps.getD u undef = k) :
    (results fn tmps).run P w = .ok (.tuple #[k, .agg cs]) w := by
  have e : (results fn tmps).run P w = ((asAddr (tmps.getD p undef)).run P w).andThen fun a w₁ => ((loadVar ty a).run P w₁).andThen fun v w₂ => .ok (.tuple #[tmps.getD u undef, v]) w₂ := by
    simp only [results, h]
    simp [Sem.run_bind, Result.andThen]
  rw [e, hp, hk]
  simp [asAddr, run_loadVar_row w g t ty cs fr d hg hu hd hi]
/-- A log and the document's, whose box is yb, beside each other; the call's result lies at its first block. -/
structure Fil (w : World) (lb : Nat) (room : Int) (yb : Nat) (F G : Nat → Prop) (Lx Ly : List Ch) (yv : Value) (U : World) : Prop where
  log : LogOk F U lb room Lx
  firm : HFirm G U yv Ly
  ybox : U.heap[yb]? = some (.cells #[.int .i64 room, yv] 29)
  rbox : U.heap[w.heap.size]? = some (.cells #[.int .i64 0, .slice none 0 0] 29)
  bel : Below w.heap.size w U
  ff : ∀ k, F k → w.heap.size < k
  gw : ∀ k, G k → w.heap.size < k
  fg : ∀ k, G k → ¬ F k
  fy : ¬ F yb
  gy : ¬ G yb
  yw : w.heap.size < yb
section
variable {w : World} {lb : Nat} {room : Int} {yb : Nat} {F F' G : Nat → Prop} {Lx Lx' Ly Ly' : List Ch} {yv yv' : Value} {U U' : World}
theorem Fil.ne (h : Fil w lb room yb F G Lx Ly yv U) : yb ≠ w.heap.size := by have := h.yw; omega
theorem Fil.below (h : Fil w lb room yb F G Lx Ly yv U) (hb : Below U.heap.size U U') : Fil w lb room yb F G Lx Ly yv U' :=
  ⟨h.log.below hb, h.firm.below hb, (hb.block _ (row_lt h.ybox)).trans h.ybox, (hb.block _ (row_lt h.rbox)).trans h.rbox, h.bel.trans (hb.mono h.bel.size), h.ff, h.gw, h.fg, h.fy, h.gy, h.yw⟩
theorem Fil.add (h : Fil w lb room yb F G Lx Ly yv U) (hl : LogOk F' U' lb room Lx') (hf : ∀ k, F' k → F k ∨ U.heap.size ≤ k) (ht : Touch F U U') : Fil w lb room yb F' G Lx' Ly yv U' := by
  have hy := row_lt h.ybox
  have hr := row_lt h.rbox
  refine ⟨hl, h.firm.keep (ht.keeps fun k hk => ⟨h.firm.1 k hk, h.fg k hk⟩), (ht.block _ hy h.fy).trans h.ybox, (ht.block _ hr (fun hF => by have := h.ff _ hF; omega)).trans h.rbox, h.bel.trans (ht.below (fun k hk => by have := h.ff k hk; omega) h.bel.size), ?_, h.gw, ?_, ?_, h.gy, h.yw⟩
  · intro k hk
    rcases hf k hk with q | q
    · exact h.ff k q
    · omega
  · intro k hG hk
    rcases hf k hk with q | q
    · exact h.fg k hG q
    · have := h.firm.1 k hG; omega
  · intro hk
    rcases hf yb hk with q | q
    · exact h.fy q
    · omega
theorem Fil.put {N : Nat} (h : Fil w lb room yb F G Lx Ly yv U) (hf : HFirm (fun k => G k ∨ (N ≤ k ∧ k < U.heap.size)) U yv' Ly') (hy : yb < N) (hF : ∀ k, F k → k < N) :
    Fil w lb room yb F (fun k => G k ∨ (N ≤ k ∧ k < U.heap.size)) Lx Ly' yv' ((U.setCell ⟨yb, 0, none⟩ (.int .i64 room)).setCell ⟨yb, 1, none⟩ yv') := by
  have hyw := h.yw
  have far : ∀ k, k ≠ yb → ((U.setCell ⟨yb, 0, none⟩ (.int .i64 room)).setCell ⟨yb, 1, none⟩ yv').heap[k]? = U.heap[k]? := fun k hk => (RowKit.Below.heap_setCell _ _ _ _ hk).trans (RowKit.Below.heap_setCell _ _ _ _ hk)
  have hs : ((U.setCell ⟨yb, 0, none⟩ (.int .i64 room)).setCell ⟨yb, 1, none⟩ yv').heap.size = U.heap.size := by simp [World.setCell]
  refine ⟨h.log.keep ⟨Nat.le_of_eq hs.symm, fun k hk => far k (fun e => h.fy (e ▸ hk))⟩, hf.keep ⟨Nat.le_of_eq hs.symm, fun k hk => far k (fun e => ?_)⟩, row_set2 h.ybox, (far _ (by omega)).trans h.rbox, (h.bel.setCell (p := ⟨yb, 0, none⟩) (by show w.heap.size ≤ yb; omega) _).setCell (p := ⟨yb, 1, none⟩) (by show w.heap.size ≤ yb; omega) _, h.ff, ?_, ?_, h.fy, ?_, h.yw⟩
  · subst e
    rcases hk with q | q
    · exact h.gy q
    · omega
  · intro k hk
    rcases hk with q | q
    · exact h.gw k q
    · omega
  · intro k hk hFk
    rcases hk with q | q
    · exact h.fg k q hFk
    · have := hF k hFk; omega
  · intro hk
    rcases hk with q | q
    · exact h.gy q
    · omega
/-- What filled gives. -/
theorem Fil.last (h : Fil w lb room yb F G Lx Ly yv U) : LogOk F ((U.setCell ⟨w.heap.size, 0, none⟩ (.int .i64 room)).setCell ⟨w.heap.size, 1, none⟩ yv) lb room Lx ∧ HFirm G ((U.setCell ⟨w.heap.size, 0, none⟩ (.int .i64 room)).setCell ⟨w.heap.size, 1, none⟩ yv) yv Ly ∧ Below w.heap.size w ((U.setCell ⟨w.heap.size, 0, none⟩ (.int .i64 room)).setCell ⟨w.heap.size, 1, none⟩ yv) ∧ (∀ k, F k → w.heap.size ≤ k) ∧ (∀ k, G k → w.heap.size ≤ k) ∧ ∀ k, G k → ¬ F k := by
  have far : ∀ k, k ≠ w.heap.size → ((U.setCell ⟨w.heap.size, 0, none⟩ (.int .i64 room)).setCell ⟨w.heap.size, 1, none⟩ yv).heap[k]? = U.heap[k]? := fun k hk => (RowKit.Below.heap_setCell _ _ _ _ hk).trans (RowKit.Below.heap_setCell _ _ _ _ hk)
  have hs : ((U.setCell ⟨w.heap.size, 0, none⟩ (.int .i64 room)).setCell ⟨w.heap.size, 1, none⟩ yv).heap.size = U.heap.size := by simp [World.setCell]
  refine ⟨h.log.keep ⟨Nat.le_of_eq hs.symm, fun k hk => far k (fun e => by have := h.ff k hk; omega)⟩, h.firm.keep ⟨Nat.le_of_eq hs.symm, fun k hk => far k (fun e => by have := h.gw k hk; omega)⟩, (h.bel.setCell (p := ⟨w.heap.size, 0, none⟩) (Nat.le_refl _) _).setCell (p := ⟨w.heap.size, 1, none⟩) (Nat.le_refl _) _, fun k hk => Nat.le_of_lt (h.ff k hk), fun k hk => Nat.le_of_lt (h.gw k hk), h.fg⟩
end

set_option maxRecDepth 100000 in
set_option maxHeartbeats 8000000 in
theorem filled_any (room : Int) (v : Value) (l : List Ch) (w : World) (h : IsH w v l) (hr0 : 1 ≤ room) (hr1 : room ≤ 4096) :
    Calls Tryz.prog 15 #[.int .i64 room, v] w fun e w' => ∃ lb yv F G, e = .returned (.tuple #[.pointer (some ⟨lb, 0, none⟩), .agg #[.int .i64 room, yv]]) ∧ LogOk F w' lb room (fillL room l) ∧ HFirm G w' yv (fillL room l) ∧ Below w.heap.size w w' ∧ (∀ k, F k → w.heap.size ≤ k) ∧ (∀ k, G k → w.heap.size ≤ k) ∧ ∀ k, G k → ¬ F k := by
  obtain ⟨a1, c1, rfl, hc1, hl1, r1⟩ := h
  have HR : Hid (l = [] ∨ ∃ b o, a1 = some ⟨b, o, none⟩ ∧ ChsAt w b o l) := r1
  clear r1
  obtain ⟨W0, eW⟩ : ∃ X, X = w.alloc (.cells #[.int .i64 0, .slice none 0 0] 29) := ⟨_, rfl⟩
  have HR0 : Hid (W0.heap[w.heap.size]? = some (.cells #[.int .i64 0, .slice none 0 0] 29)) := by rw [eW]; exact heap_alloc_new _ _
  have hb0 : Below w.heap.size w W0 := by rw [eW]; exact (Below.refl _ _).alloc (Nat.le_refl _) _
  have hs0 : W0.heap.size = w.heap.size + 1 := by rw [eW]; simp
  go_enter Tryz.func15, Tryz.ntmps15
  go_wp2_with fail
  rw [← eW]
  clear eW
  refine (new_any room _).mono ?_
  rintro e w1 ⟨h, hb1⟩
  rcases h with ⟨h, _⟩ | ⟨_, lb, F, rfl, hL, hF⟩
  · omega
  obtain ⟨W2, eW2⟩ : ∃ X, X = w1.alloc (.cells #[.int .i64 room, .slice none 0 0] 29) := ⟨_, rfl⟩
  obtain ⟨yb, eyb⟩ : ∃ b, b = w1.heap.size := ⟨_, rfl⟩
  have hb2 : Below w1.heap.size w1 W2 := by rw [eW2]; exact (Below.refl _ _).alloc (Nat.le_refl _) _
  have HFl0 : Hid (Fil w lb room yb F (fun _ => False) (fillL room (l.take 0)) (fillL room (l.take 0)) (.slice none 0 0) W2) := by
    have hs1 := hb1.size
    refine ⟨hL.below hb2, HFirm.nil _, ?_, (hb2.block _ (by omega)).trans ((hb1.block _ (by omega)).trans HR0.out), hb0.trans ((hb1.mono (by omega)).trans (hb2.mono (by omega))), fun k hk => by have := hF k hk; omega, fun k hk => hk.elim, fun k hk => hk.elim, fun hk => ?_, fun hk => hk.elim, by omega⟩
    · rw [eyb, eW2]; exact heap_alloc_new _ _
    · have := hL.lt yb hk; omega
  clear hL hF hb1 HR0 hb0 hs0 hb2
  go_wp2
  rw [← eW2, ← eyb]
  clear eW2 eyb
  go_loopw [9] (fun i wr => ∃ (k : Nat) (F G : Nat → Prop) (yv : Value), k ≤ l.length ∧ i = .int .i64 (k : Int) ∧ Hid (Fil w lb room yb F G (fillL room (l.take k)) (fillL room (l.take k)) yv wr)) (fun i _ => l.length - (intOf i).toNat)
  case atStart => exact ⟨0, _, _, _, Nat.zero_le _, rfl, HFl0⟩
  case round =>
    obtain ⟨k, F, G, yv, hk, rfl, HFl⟩ := hrel
    by_cases hlt : k < l.length
    · obtain ⟨b1, o1, rfl, g1⟩ := HR.out.resolve_left (by intro e; subst e; simp at hlt)
      obtain ⟨a0, c0, i3, hs3, z⟩ := (g1 k hlt).all
      have hbb : b1 < w.heap.size := (g1 k hlt).lt
      have hc' : ∀ W', BelowH w W' → W'.cell? ⟨b1, o1 + k * 13, none⟩ = some (.int .i64 l[k].ac) ∧ W'.cell? ⟨b1, o1 + k * 13 + 1, none⟩ = some (.int .i64 l[k].ar) ∧ W'.cell? ⟨b1, o1 + k * 13 + 2, none⟩ = some (.int .i64 l[k].seq) ∧ W'.cell? ⟨b1, o1 + k * 13 + 3, none⟩ = some (.slice a0 l[k].deps.length c0) ∧ W'.cell? ⟨b1, o1 + k * 13 + 4, none⟩ = some (.int .i64 l[k].kind) ∧ W'.cell? ⟨b1, o1 + k * 13 + 5, none⟩ = some (.int .i64 l[k].nc) ∧ W'.cell? ⟨b1, o1 + k * 13 + 6, none⟩ = some (.int .i64 l[k].nr) ∧ W'.cell? ⟨b1, o1 + k * 13 + 7, none⟩ = some (.int .i64 l[k].pc) ∧ W'.cell? ⟨b1, o1 + k * 13 + 8, none⟩ = some (.int .i64 l[k].pr) ∧ W'.cell? ⟨b1, o1 + k * 13 + 9, none⟩ = some (.int .i64 l[k].fc) ∧ W'.cell? ⟨b1, o1 + k * 13 + 10, none⟩ = some (.int .i64 l[k].fr) ∧ W'.cell? ⟨b1, o1 + k * 13 + 11, none⟩ = some (.string l[k].name) ∧ W'.cell? ⟨b1, o1 + k * 13 + 12, none⟩ = some (.string l[k].value) := fun W' hb => by
        obtain ⟨z0, z1, z2, z3, z4, z5, z6, z7, z8, z9, z10, z11, z12⟩ := z
        exact ⟨(hb.cell (p := ⟨b1, o1 + k * 13, none⟩) hbb).trans z0, (hb.cell (p := ⟨b1, o1 + k * 13 + 1, none⟩) hbb).trans z1, (hb.cell (p := ⟨b1, o1 + k * 13 + 2, none⟩) hbb).trans z2, (hb.cell (p := ⟨b1, o1 + k * 13 + 3, none⟩) hbb).trans z3, (hb.cell (p := ⟨b1, o1 + k * 13 + 4, none⟩) hbb).trans z4, (hb.cell (p := ⟨b1, o1 + k * 13 + 5, none⟩) hbb).trans z5, (hb.cell (p := ⟨b1, o1 + k * 13 + 6, none⟩) hbb).trans z6, (hb.cell (p := ⟨b1, o1 + k * 13 + 7, none⟩) hbb).trans z7, (hb.cell (p := ⟨b1, o1 + k * 13 + 8, none⟩) hbb).trans z8, (hb.cell (p := ⟨b1, o1 + k * 13 + 9, none⟩) hbb).trans z9, (hb.cell (p := ⟨b1, o1 + k * 13 + 10, none⟩) hbb).trans z10, (hb.cell (p := ⟨b1, o1 + k * 13 + 11, none⟩) hbb).trans z11, (hb.cell (p := ⟨b1, o1 + k * 13 + 12, none⟩) hbb).trans z12⟩
      have k1 : (k : Int) < (l.length : Int) := by omega
      have k0 : (0 : Int) ≤ (k : Int) := by omega
      have HFs : Hid (fillL room (l.take (k + 1)) = addL (fillL room (l.take k)) room l[k]) := by
        have e := fillL_snoc room (l.take k) l[k]
        rw [← List.take_succ_eq_append_getElem hlt] at e
        exact e
      have hroom : ((fillL room (l.take k)).length : Int) ≤ room := fillL_room (by omega) _
      have HGd : Hid (Good (fillL room (l.take k))) := fillL_good _ _
      obtain ⟨⟨ac, ar, sq, ds, kd, nc, nr, pc, pr, fc, fr, nm, vl⟩, hc⟩ : ∃ c, c = l[k] := ⟨_, rfl⟩
      rw [← hc] at i3 hs3 hc' HFs
      simp only at hc'
      have HIc : Hid (IsI w (.slice a0 ds.length c0) ds) := i3
      have HSz : Hid (Sized (⟨ac, ar, sq, ds, kd, nc, nr, pc, pr, fc, fr, nm, vl⟩ : Ch)) := hs3
      have HC : Hid (∀ W', BelowH w W' → W'.cell? ⟨b1, o1 + k * 13, none⟩ = some (.int .i64 ac) ∧ W'.cell? ⟨b1, o1 + k * 13 + 1, none⟩ = some (.int .i64 ar) ∧ W'.cell? ⟨b1, o1 + k * 13 + 2, none⟩ = some (.int .i64 sq) ∧ W'.cell? ⟨b1, o1 + k * 13 + 3, none⟩ = some (.slice a0 ds.length c0) ∧ W'.cell? ⟨b1, o1 + k * 13 + 4, none⟩ = some (.int .i64 kd) ∧ W'.cell? ⟨b1, o1 + k * 13 + 5, none⟩ = some (.int .i64 nc) ∧ W'.cell? ⟨b1, o1 + k * 13 + 6, none⟩ = some (.int .i64 nr) ∧ W'.cell? ⟨b1, o1 + k * 13 + 7, none⟩ = some (.int .i64 pc) ∧ W'.cell? ⟨b1, o1 + k * 13 + 8, none⟩ = some (.int .i64 pr) ∧ W'.cell? ⟨b1, o1 + k * 13 + 9, none⟩ = some (.int .i64 fc) ∧ W'.cell? ⟨b1, o1 + k * 13 + 10, none⟩ = some (.int .i64 fr) ∧ W'.cell? ⟨b1, o1 + k * 13 + 11, none⟩ = some (.string nm) ∧ W'.cell? ⟨b1, o1 + k * 13 + 12, none⟩ = some (.string vl)) := hc'
      obtain ⟨p_0, p_1, p_2, p_3, p_4, p_5, p_6, p_7, p_8, p_9, p_10, p_11, p_12⟩ := HC.out _ HFl.out.bel
      generalize fillL room (l.take k) = L at *
      clear hc i3 hs3 g1 z hc'
      go_wp2_with fail
      refine (add_any F lb room L (⟨ac, ar, sq, ds, kd, nc, nr, pc, pr, fc, fr, nm, vl⟩ : Ch) (.slice a0 ds.length c0) _ HFl.out.log HGd.out hroom hr1 (HIc.out.below HFl.out.bel) HSz.out).mono ?_
      rintro e w3 ⟨rfl, F3, hL3, hf1, hf2, ht⟩
      rw [← HFs.out] at hL3
      have HF3 : Hid (Fil w lb room yb F3 G (fillL room (l.take (k + 1))) L yv w3) := HFl.out.add hL3 hf2 ht
      generalize whyR L room (⟨ac, ar, sq, ds, kd, nc, nr, pc, pr, fc, fr, nm, vl⟩ : Ch) = we
      clear hL3 hf1 hf2 ht HFl HGd p_0 p_1 p_2 p_3 p_4 p_5 p_6 p_7 p_8 p_9 p_10 p_11 p_12
      obtain ⟨F, eF⟩ : ∃ F', F' = F3 := ⟨_, rfl⟩
      obtain ⟨Lx, eLx⟩ : ∃ X, X = fillL room (l.take (k + 1)) := ⟨_, rfl⟩
      obtain ⟨Ly, eLy⟩ : ∃ X, X = L := ⟨_, rfl⟩
      rw [← eF, ← eLx, ← eLy] at HF3
      obtain ⟨ay, cy, ey⟩ := HF3.out.firm.isH.form
      rw [ey] at HF3
      have HFl : Hid (Fil w lb room yb F G Lx Ly (.slice ay Ly.length cy) w3) := HF3
      have HBw : Hid (BelowH w w3) := HF3.out.bel
      have hly : Ly.length ≤ 4096 := by rw [eLy]; omega
      have HLL : Hid (fillL room (l.take (k + 1)) = addL Ly room (⟨ac, ar, sq, ds, kd, nc, nr, pc, pr, fc, fr, nm, vl⟩ : Ch)) := by rw [eLy]; exact HFs.out
      have HLx : Hid (Lx = fillL room (l.take (k + 1))) := eLx
      clear HF3 eF eLx eLy ey HFs hroom
      go_upto_region 7 with fail
      refine wp_region_held_drew (S := fun W' => BelowH w W') (by kernel_rfl) (BelowH.below HBw.out (Below.refl _ _).drew) (fun hHeld => ?_)
      obtain ⟨Ua3u0, eW⟩ : ∃ X, X = w3.drew := ⟨_, rfl⟩
      have hb : Below w3.heap.size w3 Ua3u0 := by rw [eW]; exact (Below.refl _ _).drew
      replace HFl : Hid (Fil w lb room yb F G Lx Ly (.slice ay Ly.length cy) Ua3u0) := HFl.out.below hb
      replace HBw : Hid (BelowH w Ua3u0) := HBw.out.below hb
      rw [← eW] at hHeld ⊢
      clear eW hb
      refine wpAnyH_take (i := 1) (oi := ⟨some 31, _, _, _, _, _⟩) (v := ?va3ux1) rfl (by kernel_rfl) (by kernel_rfl) (by kernel_rfl) (fun _ _ _ h => h) (Or.inl ⟨by rfl, ?hya3ux1⟩) hHeld ?resta3ux1
      case hya3ux1 => (intro w _; go_simp; try with_reducible rfl)
      simp only [Act.put, List.setIfInBounds_toArray, List.set_cons_zero, List.set_cons_succ]
      refine wpAnyH_take (i := 2) (oi := ⟨some 32, _, _, _, _, _⟩) (v := ?va3ux2) rfl (by kernel_rfl) (by kernel_rfl) (by kernel_rfl) (fun _ _ _ h => h) (Or.inl ⟨by rfl, ?hya3ux2⟩) hHeld ?resta3ux2
      case hya3ux2 => (intro w _; go_simp; try with_reducible rfl)
      simp only [Act.put, List.setIfInBounds_toArray, List.set_cons_zero, List.set_cons_succ]
      refine wpAnyH_take (i := 3) (oi := ⟨some 33, _, _, _, _, _⟩) (v := ?va3ux3) rfl (by kernel_rfl) (by kernel_rfl) (by kernel_rfl) (fun _ _ _ h => h) (Or.inl ⟨by rfl, ?hya3ux3⟩) hHeld ?resta3ux3
      case hya3ux3 => (intro w hSw; (try dsimp only at hSw); have hk := hSw; obtain ⟨p_0, p_1, p_2, p_3, p_4, p_5, p_6, p_7, p_8, p_9, p_10, p_11, p_12⟩ := HC.out _ hk; go_simp; try with_reducible rfl)
      simp only [Act.put, List.setIfInBounds_toArray, List.set_cons_zero, List.set_cons_succ]
      refine wpAnyH_take (i := 4) (oi := ⟨some 34, _, _, _, _, _⟩) (v := ?va3ux4) rfl (by kernel_rfl) (by kernel_rfl) (by kernel_rfl) (fun _ _ _ h => h) (Or.inl ⟨by rfl, ?hya3ux4⟩) hHeld ?resta3ux4
      case hya3ux4 => (intro w hSw; (try dsimp only at hSw); have hk := hSw; obtain ⟨p_0, p_1, p_2, p_3, p_4, p_5, p_6, p_7, p_8, p_9, p_10, p_11, p_12⟩ := HC.out _ hk; go_simp; try with_reducible rfl)
      simp only [Act.put, List.setIfInBounds_toArray, List.set_cons_zero, List.set_cons_succ]
      refine wpAnyH_ready (rs := [0]) (by kernel_rfl) (by simp) ?_
      refine AllReadyH.cons (o := ⟨some 30, _, _, _, _, _⟩) rfl (fun K hK => ?_) AllReadyH.nil
      obtain ⟨x_0, x_1, _, _⟩ := row2_cells HFl.out.ybox
      go_simp
      refine hK.out _ _ (hHeld) (fun hHeld2 => ?_)
      clear hK K hHeld
      have hHeld := hHeld2
      clear hHeld2
      (try simp only [Act.put, List.setIfInBounds_toArray, List.set_cons_zero, List.set_cons_succ])
      clear x_0 x_1
      refine wpAnyH_ready (rs := [5]) (by kernel_rfl) (by simp) ?_
      refine AllReadyH.cons (o := ⟨some 35, _, _, _, _, _⟩) rfl (fun K hK => ?_) AllReadyH.nil
      have hyb : yb < Ua3u0.heap.size := row_lt HFl.out.ybox
      have HFk : Hid (∀ k, F k → k < Ua3u0.heap.size) := HFl.out.log.lt
      go_simp
      refine (refAdd_any G _ Ly room ac ar sq (.slice a0 ds.length c0) kd nc nr pc pr fc fr nm vl ds Ua3u0 HFl.out.firm (HIc.out.below HBw.out) HSz.out hly).mono ?_
      rintro e Ua3u2 ⟨v6, rfl, hf6, hb⟩
      (try go_wp2_with fail)
      refine hK.out _ _ (BelowH.below hHeld hb) (fun hHeld2 => ?_)
      clear hK K hHeld
      have hHeld := hHeld2
      clear hHeld2
      (try simp only [Act.put, List.setIfInBounds_toArray, List.set_cons_zero, List.set_cons_succ])
      replace HFl : Hid (Fil w lb room yb F G Lx Ly (.slice ay Ly.length cy) Ua3u2) := HFl.out.below hb
      replace HBw : Hid (BelowH w Ua3u2) := HBw.out.below hb
      obtain ⟨a6, c6, e6⟩ := hf6.isH.form
      subst e6
      have HF6 : Hid (HFirm (fun k => G k ∨ (Ua3u0.heap.size ≤ k ∧ k < Ua3u2.heap.size)) Ua3u2 (.slice a6 (addL Ly room (⟨ac, ar, sq, ds, kd, nc, nr, pc, pr, fc, fr, nm, vl⟩ : Ch)).length c6) (addL Ly room (⟨ac, ar, sq, ds, kd, nc, nr, pc, pr, fc, fr, nm, vl⟩ : Ch))) := hf6
      clear hf6
      clear hb
      refine wpAnyH_take (i := 6) (oi := ⟨some 29, _, _, _, _, _⟩) (v := ?va3u_0_5x6) rfl (by kernel_rfl) (by kernel_rfl) (by kernel_rfl) (fun _ _ _ h => h) (Or.inl ⟨by rfl, ?hya3u_0_5x6⟩) hHeld ?resta3u_0_5x6
      case hya3u_0_5x6 => (intro w _; go_simp; try with_reducible rfl)
      simp only [Act.put, List.setIfInBounds_toArray, List.set_cons_zero, List.set_cons_succ]
      refine wpAnyH_take (i := 7) (oi := ⟨some 36, _, _, _, _, _⟩) (v := ?va3u_0_5x7) rfl (by kernel_rfl) (by kernel_rfl) (by kernel_rfl) (fun _ _ _ h => h) (Or.inl ⟨by rfl, ?hya3u_0_5x7⟩) hHeld ?resta3u_0_5x7
      case hya3u_0_5x7 => (intro w _; go_simp; try with_reducible rfl)
      simp only [Act.put, List.setIfInBounds_toArray, List.set_cons_zero, List.set_cons_succ]
      refine wpAnyH_take (i := 8) (oi := ⟨some 37, _, _, _, _, _⟩) (v := ?va3u_0_5x8) rfl (by kernel_rfl) (by kernel_rfl) (by kernel_rfl) (fun _ _ _ h => h) (Or.inl ⟨by rfl, ?hya3u_0_5x8⟩) hHeld ?resta3u_0_5x8
      case hya3u_0_5x8 => (intro w _; go_simp; try with_reducible rfl)
      simp only [Act.put, List.setIfInBounds_toArray, List.set_cons_zero, List.set_cons_succ]
      refine wpAnyH_ready (rs := [9]) (by kernel_rfl) (by simp) ?_
      refine AllReadyH.cons (o := ⟨none, _, _, _, _, _⟩) rfl (fun K hK => ?_) AllReadyH.nil
      obtain ⟨r_0, r_1, r_2, r_3⟩ := row2_cells HFl.out.ybox
      go_simp
      refine hK.out _ _ ((HFl.out.put HF6.out hyb HFk.out).bel) (fun hHeld2 => ?_)
      clear hK K hHeld
      have hHeld := hHeld2
      clear hHeld2
      (try simp only [Act.put, List.setIfInBounds_toArray, List.set_cons_zero, List.set_cons_succ])
      have HFl9 : Hid (Fil w lb room yb F (fun k => G k ∨ (Ua3u0.heap.size ≤ k ∧ k < Ua3u2.heap.size)) Lx (addL Ly room (⟨ac, ar, sq, ds, kd, nc, nr, pc, pr, fc, fr, nm, vl⟩ : Ch)) (.slice a6 (addL Ly room (⟨ac, ar, sq, ds, kd, nc, nr, pc, pr, fc, fr, nm, vl⟩ : Ch)).length c6) ((Ua3u2.setCell ⟨yb, 0, none⟩ (.int .i64 room)).setCell ⟨yb, 1, none⟩ (.slice a6 (addL Ly room (⟨ac, ar, sq, ds, kd, nc, nr, pc, pr, fc, fr, nm, vl⟩ : Ch)).length c6))) := HFl.out.put HF6.out hyb HFk.out
      clear r_0 r_1 r_2 r_3 HFl HF6
      refine wpAnyH_done (by kernel_rfl) ?_ _
      clear hHeld
      go_wp2
      go_roundw
      case rel => exact ⟨k + 1, _, _, _, by omega, by go_num, (by have e2 := HLL.out; have e3 : Lx = addL Ly room (⟨ac, ar, sq, ds, kd, nc, nr, pc, pr, fc, fr, nm, vl⟩ : Ch) := HLx.out.trans e2; rw [e2]; rw [e3] at HFl9; exact HFl9)⟩
      case measure => simp [intOf]; omega
    · have hkl : k = l.length := by omega
      subst hkl
      rw [List.take_length] at HFl
      obtain ⟨Ly, eLy⟩ : ∃ X, X = fillL room l := ⟨_, rfl⟩
      rw [← eLy] at HFl
      obtain ⟨Lx, eLx⟩ : ∃ X, X = Ly := ⟨_, rfl⟩
      obtain ⟨ay, cy, ey⟩ := HFl.out.firm.isH.form
      subst ey
      have HLy : Hid (fillL room l = Ly) := eLy.symm
      clear eLy
      rw [show Fil w lb room yb F G Ly Ly = Fil w lb room yb F G Lx Ly by rw [eLx]] at HFl
      have HLx : Hid (Lx = Ly) := eLx
      clear eLx hlt
      go_upto_region 8 with fail
      refine wp_region_held_drew (S := fun W' => W'.heap[yb]? = some (.cells #[.int .i64 room, .slice ay Ly.length cy] 29)) (by kernel_rfl) HFl.out.ybox (fun hHeld => ?_)
      obtain ⟨Ub4u0, eW⟩ : ∃ X, X = wr.drew := ⟨_, rfl⟩
      have hb : Below wr.heap.size wr Ub4u0 := by rw [eW]; exact (Below.refl _ _).drew
      replace HFl : Hid (Fil w lb room yb F G Lx Ly (.slice ay Ly.length cy) Ub4u0) := HFl.out.below hb
      rw [← eW] at hHeld ⊢
      clear eW hb
      refine wpAnyH_take (i := 0) (oi := ⟨some 38, _, _, _, _, _⟩) (v := ?vb4ux0) rfl (by kernel_rfl) (by kernel_rfl) (by kernel_rfl) (fun _ _ _ h => h) (Or.inl ⟨by rfl, ?hyb4ux0⟩) hHeld ?restb4ux0
      case hyb4ux0 => (intro w _; go_simp; try with_reducible rfl)
      simp only [Act.put, List.setIfInBounds_toArray, List.set_cons_zero, List.set_cons_succ]
      refine wpAnyH_take (i := 1) (oi := ⟨some 39, _, _, _, _, _⟩) (v := ?vb4ux1) rfl (by kernel_rfl) (by kernel_rfl) (by kernel_rfl) (fun _ _ _ h => h) (Or.inl ⟨by rfl, ?hyb4ux1⟩) hHeld ?restb4ux1
      case hyb4ux1 => (intro w hSw; (try dsimp only at hSw); have hk := hSw; obtain ⟨x_0, x_1, _, _⟩ := row2_cells hk; go_simp; try with_reducible rfl)
      simp only [Act.put, List.setIfInBounds_toArray, List.set_cons_zero, List.set_cons_succ]
      refine wpAnyH_take (i := 2) (oi := ⟨some 4, _, _, _, _, _⟩) (v := ?vb4ux2) rfl (by kernel_rfl) (by kernel_rfl) (by kernel_rfl) (fun _ _ _ h => h) (Or.inl ⟨by rfl, ?hyb4ux2⟩) hHeld ?restb4ux2
      case hyb4ux2 => (intro w _; go_simp; try with_reducible rfl)
      simp only [Act.put, List.setIfInBounds_toArray, List.set_cons_zero, List.set_cons_succ]
      refine wpAnyH_ready (rs := [3]) (by kernel_rfl) (by simp) ?_
      refine AllReadyH.cons (o := ⟨none, _, _, _, _, _⟩) rfl (fun K hK => ?_) AllReadyH.nil
      obtain ⟨r_0, r_1, r_2, r_3⟩ := row2_cells HFl.out.rbox
      go_simp
      refine hK.out _ _ (row_set_other (row_set_other hHeld HFl.out.ne) HFl.out.ne) (fun hHeld2 => ?_)
      clear hK K hHeld
      have hHeld := hHeld2
      clear hHeld2
      (try simp only [Act.put, List.setIfInBounds_toArray, List.set_cons_zero, List.set_cons_succ])
      have HE := HFl.out.last
      have HSm : Hid (((Ub4u0.setCell ⟨w.heap.size, 0, none⟩ (.int .i64 room)).setCell ⟨w.heap.size, 1, none⟩ (.slice ay Ly.length cy)).heap[w.heap.size]? = some (.cells #[.int .i64 room, .slice ay Ly.length cy] 29)) := row_set2 HFl.out.rbox
      clear r_0 r_1 r_2 r_3
      refine wpAnyH_done (by kernel_rfl) ?_ _
      clear hHeld
      have HE2 : Hid (_ ∧ _) := HE
      clear HE
      go_wp2
      (try simp only [Exit.inBlock, Exit.then])
      refine bodyPost_ret (v := .tuple #[.pointer (some ⟨lb, 0, none⟩), .agg #[.int .i64 room, .slice ay Ly.length cy]]) ?res rfl ?post
      case res => exact results_tmp_row rfl _ _ w.heap.size _ _ _ _ rfl HSm.out Tryz.underlying29 rfl (by kernel_rfl) rfl
      obtain ⟨q1, q2, q3⟩ := HE2.out
      rw [HLx.out] at q1
      refine ⟨lb, _, F, G, rfl, ?_, ?_, q3⟩
      · rw [HLy.out]; exact q1
      · rw [HLy.out]; exact q2

end Go.Proofs.YtcnolipgmpjcbaaGreat

namespace Go.Proofs.YtcnolipgmpjcbaaGreat
open Go.RowKit Go.Shelf
set_option linter.unusedVariables false
set_option linter.unusedSimpArgs false

attribute [local go_sem] Oper.semAt_some

/-- What Since answers. -/
def sinceR (L : List Ch) (kn : List Int) (most : Int) : List Ch × Bool × Int := if checkL kn ≠ 0 then ([], false, checkL kn) else if most < 1 then ([], false, 1) else ((lackL L kn).take most.toNat, decide (most < ((lackL L kn).length : Int)), 0)
theorem results_since {fn : Func} (hr : fn.results = #[.cell 6 22, .cell 7 4, .cell 8 24]) (tmps : Array Value) (R1 R2 R3 : Nat) (w : World) (a : Option Addr) (n c : Nat) (b : Bool) (e : Int) (h1 : tmps.getD 6 undef = .pointer (some ⟨R1, 0, none⟩)) (h2 : tmps.getD 7 undef = .pointer (some ⟨R2, 0, none⟩)) (h3 : tmps.getD 8 undef = .pointer (some ⟨R3, 0, none⟩))
    (c1 : w.cell? ⟨R1, 0, none⟩ = some (.slice a n c)) (c2 : w.cell? ⟨R2, 0, none⟩ = some (.bool b)) (c3 : w.cell? ⟨R3, 0, none⟩ = some (.int .i64 e)) : (results fn tmps).run Tryz.prog w = .ok (.tuple #[.slice a n c, .bool b, .int .i64 e]) w := by
  have h1' : tmps[6]?.getD undef = .pointer (some ⟨R1, 0, none⟩) := by simpa using h1
  have h2' : tmps[7]?.getD undef = .pointer (some ⟨R2, 0, none⟩) := by simpa using h2
  have h3' : tmps[8]?.getD undef = .pointer (some ⟨R3, 0, none⟩) := by simpa using h3
  simp [results, hr, h1', h2', h3', asAddr, loadVar, isAgg, run_underlying Tryz.underlying4, run_underlying Tryz.underlying22, run_underlying Tryz.underlying24, load, go_sem]
  simp [Sem.run, c1, c2, c3]

/-- The boxes of most and of the results. -/
def Four (b r1 r2 r3 : Nat) (most : Int) (W : World) : Prop := Boxed W b 3 (.int .i64 most) ∧ Boxed W r1 22 (.slice none 0 0) ∧ Boxed W r2 4 (.bool false) ∧ Boxed W r3 24 (.int .i64 0)
theorem Four.cells {b r1 r2 r3 : Nat} {most : Int} {W : World} (h : Four b r1 r2 r3 most W) : (W.cell? ⟨b, 0, none⟩ = some (.int .i64 most) ∧ W.frozen? ⟨b, 0, none⟩ = false) ∧ (W.cell? ⟨r1, 0, none⟩ = some (.slice none 0 0) ∧ W.frozen? ⟨r1, 0, none⟩ = false) ∧ (W.cell? ⟨r2, 0, none⟩ = some (.bool false) ∧ W.frozen? ⟨r2, 0, none⟩ = false) ∧ (W.cell? ⟨r3, 0, none⟩ = some (.int .i64 0) ∧ W.frozen? ⟨r3, 0, none⟩ = false) :=
  ⟨⟨h.1.cell, h.1.frozen⟩, ⟨h.2.1.cell, h.2.1.frozen⟩, ⟨h.2.2.1.cell, h.2.2.1.frozen⟩, ⟨h.2.2.2.cell, h.2.2.2.frozen⟩⟩
theorem Four.keep {w : World} {r1 r2 r3 r4 : Nat} {most : Int} {W W' : World} (h : Four w.heap.size r1 r2 r3 most W) (hk : ∀ k, k < r4 → W'.heap[k]? = W.heap[k]?) (hr : r1 = w.heap.size + 1 ∧ r2 = w.heap.size + 2 ∧ r3 = w.heap.size + 3 ∧ r4 = w.heap.size + 4) : Four w.heap.size r1 r2 r3 most W' :=
  ⟨(hk _ (by omega)).trans h.1, (hk _ (by omega)).trans h.2.1, (hk _ (by omega)).trans h.2.2.1, (hk _ (by omega)).trans h.2.2.2⟩
theorem boxed_far {W : World} {b g i : Nat} {t : TypeId} {v u : Value} (h : Boxed W b t v) (hne : b ≠ g) : Boxed (W.setCell ⟨g, i, none⟩ u) b t v := (RowKit.Below.heap_setCell _ _ _ _ hne).trans h
theorem set3 {w : World} {r1 r2 r3 r4 : Nat} {most : Int} {W : World} (h : Four w.heap.size r1 r2 r3 most W) (hr : r1 = w.heap.size + 1 ∧ r2 = w.heap.size + 2 ∧ r3 = w.heap.size + 3 ∧ r4 = w.heap.size + 4) (a b c : Value) (hb : Below w.heap.size w W) :
    Boxed (((W.setCell ⟨r1, 0, none⟩ a).setCell ⟨r2, 0, none⟩ b).setCell ⟨r3, 0, none⟩ c) r1 22 a ∧ Boxed (((W.setCell ⟨r1, 0, none⟩ a).setCell ⟨r2, 0, none⟩ b).setCell ⟨r3, 0, none⟩ c) r2 4 b ∧ Boxed (((W.setCell ⟨r1, 0, none⟩ a).setCell ⟨r2, 0, none⟩ b).setCell ⟨r3, 0, none⟩ c) r3 24 c ∧ Below w.heap.size w (((W.setCell ⟨r1, 0, none⟩ a).setCell ⟨r2, 0, none⟩ b).setCell ⟨r3, 0, none⟩ c) := by
  obtain ⟨e1, e2, e3, _⟩ := hr
  refine ⟨boxed_far (boxed_far (h.2.1.set a) (by omega)) (by omega), boxed_far ((boxed_far h.2.2.1 (by omega)).set b) (by omega), (boxed_far (boxed_far h.2.2.2 (by omega)) (by omega)).set c, ?_⟩
  exact ((hb.setCell (p := ⟨r1, 0, none⟩) (by show _ ≤ r1; omega) _).setCell (p := ⟨r2, 0, none⟩) (by show _ ≤ r2; omega) _).setCell (p := ⟨r3, 0, none⟩) (by show _ ≤ r3; omega) _

theorem rowIn_new {w W : World} {a : Option Addr} {d : List Int} (S : Nat → Prop) (hr : d = [] ∨ ∃ b o, a = some ⟨b, o, none⟩ ∧ IntsAt w b o d) (hb : Below w.heap.size w W) (hS : ∀ k, k < w.heap.size → S k) : RowIn S W a d := by
  by_cases hd : d = []
  · exact .inl hd
  · obtain ⟨b, o, e, hr⟩ := hr.resolve_left hd
    exact .inr ⟨b, o, e, hS b (hr.lt hd), hr.below hb⟩
/-- What lies where when Since returns. -/
def RetS (w W2 : World) (r1 r2 r3 : Nat) (L : List Ch) (sv : Value) (b : Bool) (U : World) : Prop := ∃ E : List (Ch × Value), E.map Prod.fst = L ∧ OwnH W2.heap.size U sv E ∧ (∀ x ∈ E, OwnI W2.heap.size U x.2 x.1.deps ∧ Sized x.1 ∧ x.1.deps.length ≤ 17592186044416) ∧ Below w.heap.size w U ∧ Boxed U r1 22 sv ∧ Boxed U r2 4 (.bool b) ∧ Boxed U r3 24 (.int .i64 0) ∧ w.heap.size ≤ W2.heap.size
theorem RetS.grown {w W2 : World} {r1 r2 r3 : Nat} {L : List Ch} {sv : Value} {b : Bool} {U U' : World} (h : RetS w W2 r1 r2 r3 L sv b U) {row : Option Nat} (hg : U.grownBy U' row) (hr : ∀ r, row = some r → W2.heap.size ≤ r ∧ ∃ o : Obj, U.heap[r]? = some o ∧ o.isCells = false) : RetS w W2 r1 r2 r3 L sv b U' := by
  have hr2 : ∀ r, row = some r → ∃ o : Obj, U.heap[r]? = some o ∧ o.isCells = false := fun r e => (hr r e).2
  obtain ⟨E, q1, q2, q3, q4, q5, q6, q7, q8⟩ := h
  exact ⟨E, q1, ownsRow_own q2 hg hr2, fun x hx => ⟨ownsRow_own (q3 x hx).1 hg hr2, (q3 x hx).2⟩, q4.grown hg q4.size (fun j e => Nat.le_trans q8 (hr j e).1), row_own q5 hg hr2, row_own q6 hg hr2, row_own q7 hg hr2, q8⟩
theorem RetS.of {w W2 : World} {r1 r2 r3 r4 : Nat} {most : Int} {S : Nat → Prop} {L : List Ch} {sv : Value} {E : List (Ch × Value)} {U : World} (h : AllB w W2 r4 S sv E U) (hf : Four w.heap.size r1 r2 r3 most U) (hr : r1 = w.heap.size + 1 ∧ r2 = w.heap.size + 2 ∧ r3 = w.heap.size + 3 ∧ r4 = w.heap.size + 4) (b : Bool) (hE : E.map Prod.fst = L) :
    RetS w W2 r1 r2 r3 L sv b (((U.setCell ⟨r1, 0, none⟩ sv).setCell ⟨r2, 0, none⟩ (.bool b)).setCell ⟨r3, 0, none⟩ (.int .i64 0)) := by
  obtain ⟨c1, c2, c3, c4⟩ := set3 hf hr sv (.bool b) (.int .i64 0) h.bel
  obtain ⟨e1, e2, e3, e4⟩ := hr
  have hb2 := h.b2
  have far : ∀ k, W2.heap.size ≤ k → (((U.setCell ⟨r1, 0, none⟩ sv).setCell ⟨r2, 0, none⟩ (.bool b)).setCell ⟨r3, 0, none⟩ (.int .i64 0)).heap[k]? = U.heap[k]? := fun k hk =>
    (RowKit.Below.heap_setCell _ _ _ _ (by show k ≠ r3; omega)).trans ((RowKit.Below.heap_setCell _ _ _ _ (by show k ≠ r2; omega)).trans (RowKit.Below.heap_setCell _ _ _ _ (by show k ≠ r1; omega)))
  exact ⟨E, hE, ownsRow_keep h.own fun k e => far k (World.ownsRow.lt h.own k e).1, fun x hx => ⟨OwnI.keepF (h.dep x hx).1 fun k e => far k (World.ownsRow.lt (h.dep x hx).1 k e).1, (h.dep x hx).2⟩, c4, c1, c2, c3, h.b4⟩

set_option maxRecDepth 100000 in
set_option maxHeartbeats 8000000 in
theorem since_in (n : Nat) (hn : 5 ≤ n) (v : Value) (room : Int) (L : List Ch) (F : Nat → Prop) (kv : Value) (kn : List Int) (most : Int) (w : World) (h : LogV F w v room L) (hs : Srt L) (hl : L.length ≤ 4096) (hk : IsI w kv kn) :
    CallsIn Fence.wide n Tryz.prog 21 #[v, kv, .int .i64 most] w fun e w' => ∃ v' E, e = .returned (.tuple #[v', .bool (sinceR L kn most).2.1, .int .i64 (sinceR L kn most).2.2]) ∧ E.map Prod.fst = (sinceR L kn most).1 ∧ OwnH w.heap.size w' v' E ∧ (∀ x ∈ E, OwnI w.heap.size w' x.2 x.1.deps ∧ Sized x.1 ∧ x.1.deps.length ≤ 17592186044416) ∧ Below w.heap.size w w' := by
  obtain ⟨i0, hi, hz0, hz1, hz2⟩ := info_parts infoChange
  have hro : Fence.wide.round = none := rfl
  have h1n : 1 ≤ n := by omega
  have hFl := h.lt
  have HIk : Hid (IsI w kv kn) := hk
  obtain ⟨ak, ck, rfl, hck, hkl, hrk⟩ := hk
  have HRk : Hid (kn = [] ∨ ∃ b o, ak = some ⟨b, o, none⟩ ∧ IntsAt w b o kn) := hrk
  have HLv : Hid (LogV F w v room L) := h
  have HSrt : Hid (Srt L) := hs
  have HDf : Hid (sinceR L kn most = if checkL kn ≠ 0 then ([], false, checkL kn) else if most < 1 then ([], false, 1) else ((lackL L kn).take most.toNat, decide (most < ((lackL L kn).length : Int)), 0)) := rfl
  clear hrk h hs
  refine callsIn_of_wp_marks Tryz.func21 rfl trivial ?_ hro
  simp only [Tryz.ntmps21, List.size_toArray, List.length_cons, List.length_nil, Nat.reduceAdd, Nat.reduceSub, Array.replicate_succ, Array.replicate_zero, List.push_toArray, List.append_toArray, List.nil_append, List.cons_append]
  gi_wp2_with fail
  refine ⟨trivial, ?_⟩
  obtain ⟨W0, eW0⟩ : ∃ X, X = (((w.alloc (.cells #[.int .i64 most] 3)).alloc (.cells #[.slice none 0 0] 22)).alloc (.cells #[.bool false] 4)).alloc (.cells #[.int .i64 0] 24) := ⟨_, rfl⟩
  obtain ⟨r3, e3⟩ : ∃ b, b = w.heap.size + 1 + 1 + 1 := ⟨_, rfl⟩
  obtain ⟨r2, e2⟩ : ∃ b, b = w.heap.size + 1 + 1 := ⟨_, rfl⟩
  obtain ⟨r1, e1⟩ : ∃ b, b = w.heap.size + 1 := ⟨_, rfl⟩
  obtain ⟨r4, e4⟩ : ∃ b, b = W0.heap.size := ⟨_, rfl⟩
  have hs0 : W0.heap.size = w.heap.size + 4 := by rw [eW0]; simp
  have HRs : Hid (r1 = w.heap.size + 1 ∧ r2 = w.heap.size + 2 ∧ r3 = w.heap.size + 3 ∧ r4 = w.heap.size + 4) := ⟨e1, e2, e3, e4.trans hs0⟩
  have HFr : Hid (Four w.heap.size r1 r2 r3 most W0) := by
    rw [eW0, e1, e2, e3]
    refine ⟨?_, ?_, ?_, ?_⟩
    · exact (((Boxed.new w 3 (.int .i64 most)).alloc _).alloc _).alloc _
    · have := ((Boxed.new (w.alloc (.cells #[.int .i64 most] 3)) 22 (.slice none 0 0)).alloc (.cells #[.bool false] 4)).alloc (.cells #[.int .i64 0] 24)
      rw [show (w.alloc (.cells #[.int .i64 most] 3)).heap.size = w.heap.size + 1 by simp] at this
      exact this
    · have := (Boxed.new ((w.alloc (.cells #[.int .i64 most] 3)).alloc (.cells #[.slice none 0 0] 22)) 4 (.bool false)).alloc (.cells #[.int .i64 0] 24)
      rw [show ((w.alloc (.cells #[.int .i64 most] 3)).alloc (.cells #[.slice none 0 0] 22)).heap.size = w.heap.size + 1 + 1 by simp] at this
      exact this
    · have := Boxed.new (((w.alloc (.cells #[.int .i64 most] 3)).alloc (.cells #[.slice none 0 0] 22)).alloc (.cells #[.bool false] 4)) 24 (.int .i64 0)
      rw [show (((w.alloc (.cells #[.int .i64 most] 3)).alloc (.cells #[.slice none 0 0] 22)).alloc (.cells #[.bool false] 4)).heap.size = w.heap.size + 1 + 1 + 1 by simp] at this
      exact this
  have HB0 : Hid (Below w.heap.size w W0) := by rw [eW0]; exact ((((Below.refl _ _).alloc (Nat.le_refl _) _).alloc (by simp) _).alloc (by simp; omega) _).alloc (by simp; omega) _
  rw [← eW0, ← e3, ← e2, ← e1]
  have n12 : r1 ≠ r2 := by have := HRs.out; omega
  have n13 : r1 ≠ r3 := by have := HRs.out; omega
  have n14 : r1 ≠ r4 := by have := HRs.out; omega
  have n21 : r2 ≠ r1 := by have := HRs.out; omega
  have n23 : r2 ≠ r3 := by have := HRs.out; omega
  have n24 : r2 ≠ r4 := by have := HRs.out; omega
  have n31 : r3 ≠ r1 := by have := HRs.out; omega
  have n32 : r3 ≠ r2 := by have := HRs.out; omega
  have n34 : r3 ≠ r4 := by have := HRs.out; omega
  have n41 : r4 ≠ r1 := by have := HRs.out; omega
  have n42 : r4 ≠ r2 := by have := HRs.out; omega
  have n43 : r4 ≠ r3 := by have := HRs.out; omega
  clear eW0 e1 e2 e3 hs0
  refine (callsIn_wide.2 (check_any _ kn _ (HIk.out.below HB0.out))).mono ?_
  rintro e w' ⟨rfl, hw⟩
  replace hw := hw.symm
  subst hw
  obtain ⟨⟨x0, f0⟩, ⟨x1, f1⟩, ⟨x2, f2⟩, ⟨x3, f3⟩⟩ := HFr.out.cells
  by_cases hc : checkL kn = 0
  · rw [hc]
    by_cases hm : most < 1
    · have HS3 := set3 HFr.out HRs.out (.slice none 0 0) (.bool false) (.int .i64 1) HB0.out
      have HSq : Hid (sinceR L kn most = ([], false, 1)) := by rw [HDf.out, if_neg (by simp [hc]), if_pos hm]; rfl
      have HS4 : Hid _ := HS3
      clear HS3 HDf
      gi_wp2
      obtain ⟨c1, c2, c3, hbl⟩ := HS4.out
      refine ⟨_, results_since rfl _ r1 r2 r3 _ none 0 0 false 1 rfl rfl rfl c1.cell c2.cell c3.cell, .slice none 0 0, [], by rw [HSq.out], by rw [HSq.out]; rfl, OwnH.nil0 _ _, fun x hx => by simp at hx, hbl⟩
    · have HSq : Hid (sinceR L kn most = ((lackL L kn).take most.toNat, decide (most < ((lackL L kn).length : Int)), 0)) := by rw [HDf.out, if_neg (by simp [hc]), if_neg hm]; rfl
      clear HDf
      clear hc
      gi_wp2_with fail
      refine ⟨trivial, ?_⟩
      obtain ⟨W1, eW1⟩ : ∃ X, X = W0.alloc (.cells #[.slice none 0 0] 22) := ⟨_, rfl⟩
      have hbA : Below W0.heap.size W0 W1 := by rw [eW1]; exact (Below.refl _ _).alloc (Nat.le_refl _) _
      have HX0 : Hid (Boxed W1 r4 22 (.slice none 0 0)) := by rw [e4, eW1]; exact heap_alloc_new _ _
      have hs1 : W1.heap.size = r4 + 1 := by rw [e4, eW1]; simp
      rw [← eW1, ← e4]
      have HFr1 : Hid (Four w.heap.size r1 r2 r3 most W1) := HFr.out.keep (fun k hk => hbA.block k (by have := HRs.out; omega)) HRs.out
      have HBe1 : Hid (Below w.heap.size w W1) := HB0.out.trans (hbA.mono HB0.out.size)
      clear x0 x1 x2 x3 f0 f1 f2 f3 HFr HB0 eW1 e4 hbA
      refine (callsIn_wide.2 (orEmpty_any v room L F _ (HLv.out.below HBe1.out))).mono ?_
      rintro e w1 ⟨lb, F', rfl, ⟨mb, ord, own, D, h1⟩, h2, hff⟩
      have HL1 : Hid (LogIs F' w1 lb room L mb ord own D) := h1
      have HB1 : Hid (Below w.heap.size w w1) := HBe1.out.trans (h2.mono HBe1.out.size)
      have HX1 : Hid (Boxed w1 r4 22 (.slice none 0 0)) := (h2.block _ (by omega)).trans HX0.out
      have HF1 : Hid (¬ F' r4) := fun hk => by have hr := HRs.out; rcases hff _ hk with h3 | h3; exact absurd (hFl _ h3) (by omega); omega
      have hsz1 : r4 < w1.heap.size := by have := h2.size; omega
      have HFr2 : Hid (Four w.heap.size r1 r2 r3 most w1) := HFr1.out.keep (fun k hk => h2.block k (by have := HRs.out; omega)) HRs.out
      clear h1 h2 hff HX0 HFr1 HBe1 hs1
      gi_wp2_with fail
      refine ⟨trivial, ?_⟩
      refine (callsIn_wide.2 (missing_any lb (.slice ak kn.length ck) _ ⟨_, _, _, rfl⟩)).mono ?_
      rintro e w2 ⟨rfl, hw2⟩
      gi_wp2
      obtain ⟨W2, eW2⟩ : ∃ X, X = w2 := ⟨_, rfl⟩
      have HC1 : Hid (W2.cell? ⟨w1.heap.size, 0, none⟩ = some (.pointer (some ⟨lb, 0, none⟩))) := by
        rw [eW2, hw2]
        have := (Boxed.new w1 23 (.pointer (some ⟨lb, 0, none⟩))).alloc (.cells #[.slice ak kn.length ck] 32)
        exact this.cell
      have HC2 : Hid (W2.cell? ⟨w1.heap.size + 1, 0, none⟩ = some (.slice ak kn.length ck)) := by
        rw [eW2, hw2]
        have := Boxed.new (w1.alloc (.cells #[.pointer (some ⟨lb, 0, none⟩)] 23)) 32 (.slice ak kn.length ck)
        rw [show (w1.alloc (.cells #[.pointer (some ⟨lb, 0, none⟩)] 23)).heap.size = w1.heap.size + 1 by simp] at this
        exact this.cell
      have hb2 : Below w1.heap.size w1 W2 := by rw [eW2, hw2]; exact ((Below.refl _ _).alloc (Nat.le_refl _) _).alloc (by simp) _
      have hsz2 : W2.heap.size = w1.heap.size + 2 := by rw [eW2, hw2]; simp
      rw [← hw2, ← eW2]
      clear eW2 hw2
      have HL2 : Hid (LogIs F' W2 lb room L mb ord own D) := HL1.out.below hb2
      have HFr3 : Hid (Four w.heap.size r1 r2 r3 most W2) := HFr2.out.keep (fun k hk => hb2.block k (by have := HRs.out; omega)) HRs.out
      obtain ⟨S, eS⟩ : ∃ S : Nat → Prop, S = fun k => F' k ∨ k = w1.heap.size ∨ k = w1.heap.size + 1 ∨ k < r4 := ⟨_, rfl⟩
      have HS : Hid (∀ k, S k → k < W2.heap.size) := fun k hk => by rw [eS] at hk; rcases hk with hk | rfl | rfl | hk; exact HL2.out.lt k hk; omega; omega; omega
      have HSr : Hid (∀ k, k < r4 → S k) := fun k hk => by rw [eS]; exact .inr (.inr (.inr hk))
      have HA0 : Hid (AllB w W2 r4 S (.slice none 0 0) [] W2) :=
        ⟨(hb2.block _ hsz1).trans HX1.out, OwnH.nil0 _ _, fun x hx => by simp at hx, HB1.out.trans (hb2.mono HB1.out.size), ⟨KeepsS.refl _ _, HS.out⟩, by have := HRs.out; omega, by omega, fun hk => by rw [eS] at hk; rcases hk with hk | hk | hk | hk; exact HF1.out hk; omega; omega; omega, by have := HRs.out; omega⟩
      have HSF : Hid (∀ k, F' k → S k) := fun k hk => by rw [eS]; exact .inl hk
      have HRw : Hid (RowIn S W2 ak kn) := rowIn_new S HRk.out (HB1.out.trans (hb2.mono HB1.out.size)) (fun k hk => HSr.out k (by have := HRs.out; omega))
      have HSq0 := missing_seq (n - 1) (by omega) w1.heap.size (w1.heap.size + 1) ck S F' lb room L mb ord own D ak kn W2 HL2.out HSrt.out hl HSF.out (by rw [eS]; exact .inr (.inl rfl)) (by rw [eS]; exact .inr (.inr (.inl rfl))) HA0.out.kp.2 HC1.out HC2.out HRw.out hck hkl
      clear eS hb2 HX1 HF1 HS HC1 HC2 HL1 HFr2 HRw
      have hm1 : 1 ≤ most := by omega
      refine range_of h1n (gf := 64) (lb := #[.pointer (some ⟨w1.heap.size, 0, none⟩), .pointer (some ⟨w1.heap.size + 1, 0, none⟩)]) rfl (enters_of Tryz.func64 (by kernel_rfl) rfl) HSq0 KeepsS.trans (keepsSK_b HA0.out.kp.2) (Below.refl _ _) (fun _ => rfl)
        (fun k W => ∃ ov E, AllB w W2 r4 S ov E W ∧ E.map Prod.fst = (lackL L kn).take k ∧ (k : Int) ≤ most) (fun c k W => c = .ret ∧ most < ((lackL L kn).length : Int) ∧ ∃ sv, RetS w W2 r1 r2 r3 ((lackL L kn).take most.toNat) sv true W)
        (fun k A B row ⟨ov, E, h1, h2, h3⟩ hg hr => ⟨ov, E, h1.grown hg hr, h2, h3⟩) (fun c k A B row ⟨h1, h2, sv, h3⟩ hg hr => ⟨h1, h2, sv, h3.grown hg hr⟩) ⟨_, _, HA0.out, rfl, by omega⟩
        (fun x a' W => ∃ Bx ov, W2.heap.size ≤ Bx ∧ W.heap[Bx]? = some (.cells (chCells x.1 x.2).toArray 34) ∧ Boxed W r4 22 ov ∧ ov.ownBlock ≠ some Bx ∧ a' = { tmps := #[v, .slice ak kn.length ck, .int .i64 most, undef, undef, .pointer (some ⟨w.heap.size, 0, none⟩), .pointer (some ⟨r1, 0, none⟩), .pointer (some ⟨r2, 0, none⟩), .pointer (some ⟨r3, 0, none⟩), .int .i64 0, .pointer (some ⟨r4, 0, none⟩), .pointer (some ⟨Bx, 0, none⟩), .slice ak kn.length ck, .int .i64 0, .int .i64 0, .bool false, undef, .int .i64 most, .bool (decide (most < 1)), v, .pointer (some ⟨lb, 0, none⟩), .slice ak kn.length ck, .func (.func 64) #[] #[.pointer (some ⟨w1.heap.size, 0, none⟩), .pointer (some ⟨w1.heap.size + 1, 0, none⟩)], chV x.1 x.2, undef, undef, undef, undef, undef, undef, undef, undef, undef, undef, undef], defers := [] })
        (fun x a' u A B row ⟨Bx, ov, h1, h2, h3, h4, h5⟩ hg hr => ⟨Bx, ov, h1, row_own h2 hg (fun r e => (hr r e).2), row_own h3 hg (fun r e => (hr r e).2), h4, h5⟩)
        ?assign ?body ?done ?stop
      case assign =>
        rintro l k hk W K ⟨ov, E, hA, hE, hkm⟩ hK
        obtain ⟨⟨ac, ar, sq, ds, kd, nc, nr, pc, pr, fc, fr, nm, vl⟩, a0, c0, e1, _⟩ := lackE_get HL2.out HSrt.out hk
        rw [e1] at hK ⊢
        have hb : Below W.heap.size W (W.alloc (.cells #[.int .i64 ac, .int .i64 ar, .int .i64 sq, .slice a0 ds.length c0, .int .i64 kd, .int .i64 nc, .int .i64 nr, .int .i64 pc, .int .i64 pr, .int .i64 fc, .int .i64 fr, .string nm, .string vl] 34)) := (Below.refl _ _).alloc (Nat.le_refl _) _
        have hfin := fun a' e5 => hK a' (W.alloc (.cells #[.int .i64 ac, .int .i64 ar, .int .i64 sq, .slice a0 ds.length c0, .int .i64 kd, .int .i64 nc, .int .i64 nr, .int .i64 pc, .int .i64 pr, .int .i64 fc, .int .i64 fr, .string nm, .string vl] 34)) (keepsFrom_below hb) (KeepsS.of_below hb (fun j hj => Nat.lt_of_lt_of_le (hA.kp.2 j hj) hA.size)) ⟨ov, E, hA.below hb, hE, hkm⟩ ⟨W.heap.size, ov, hA.size, heap_alloc_new _ _, (hb.block _ hA.box.lt).trans hA.box, fun e => by have := (World.ownsRow.lt hA.own _ e).2; omega, e5⟩
        have HFin : Hid (K { tmps := #[v, .slice ak kn.length ck, .int .i64 most, undef, undef, .pointer (some ⟨w.heap.size, 0, none⟩), .pointer (some ⟨r1, 0, none⟩), .pointer (some ⟨r2, 0, none⟩), .pointer (some ⟨r3, 0, none⟩), .int .i64 0, .pointer (some ⟨r4, 0, none⟩), .pointer (some ⟨W.heap.size, 0, none⟩), .slice ak kn.length ck, .int .i64 0, .int .i64 0, .bool false, undef, .int .i64 most, .bool (decide (most < 1)), v, .pointer (some ⟨lb, 0, none⟩), .slice ak kn.length ck, .func (.func 64) #[] #[.pointer (some ⟨w1.heap.size, 0, none⟩), .pointer (some ⟨w1.heap.size + 1, 0, none⟩)], .agg #[.int .i64 ac, .int .i64 ar, .int .i64 sq, .slice a0 ds.length c0, .int .i64 kd, .int .i64 nc, .int .i64 nr, .int .i64 pc, .int .i64 pr, .int .i64 fc, .int .i64 fr, .string nm, .string vl], undef, undef, undef, undef, undef, undef, undef, undef, undef, undef, undef], defers := [] } (W.alloc (.cells #[.int .i64 ac, .int .i64 ar, .int .i64 sq, .slice a0 ds.length c0, .int .i64 kd, .int .i64 nc, .int .i64 nr, .int .i64 pc, .int .i64 pr, .int .i64 fc, .int .i64 fr, .string nm, .string vl] 34))) := hfin _ rfl
        clear hK hfin hb hA hE
        simp only [encH, chV, chCells]
        gi_wp2
        exact HFin.out
      case body =>
        rintro l k hk a' W hlD ⟨ov, E, hA, hE, hkm⟩ ⟨Bx, ov2, hx1, hx2, hx3, hx4, rfl⟩
        have eov : ov2 = ov := by have := hx3.symm.trans hA.box; injection this with this; injection this with this; injection this with this; injection this
        subst eov
        have hkl2 : k < (lackL L kn).length := by rw [← lackE_length D]; exact hk
        obtain ⟨⟨ac, ar, sq, ds, kd, nc, nr, pc, pr, fc, fr, nm, vl⟩, a0, c0, e1, e2, e3, e4, e5, e6, e7⟩ := lackE_get HL2.out HSrt.out hk
        rw [e1] at hx2
        simp only [e1]
        have hEk : E.length = k := by
          have h1 : E.length = ((lackL L kn).take k).length := by rw [← hE]; simp
          rw [h1, List.length_take]
          omega
        have hEl : E.length ≤ 4096 := by
          have h2 : (lackL L kn).length ≤ L.length := List.length_filter_le _ _
          omega
        obtain ⟨aw, cw, eo⟩ := hA.own.form
        subst eo
        have HA : Hid (AllB w W2 r4 S (.slice aw E.length cw) E W) := hA
        have HFr : Hid (Four w.heap.size r1 r2 r3 most W) := HFr3.out.keep (fun j hj => hA.kp.1.2 j (HSr.out j hj)) HRs.out
        have xb := hA.box.cell
        have xf := hA.box.frozen
        obtain ⟨⟨x0, f0⟩, ⟨x1, f1⟩, ⟨x2, f2⟩, ⟨x3, f3⟩⟩ := HFr.out.cells
        by_cases hq : (E.length : Int) = most
        · have HRt : Hid (RetS w W2 r1 r2 r3 ((lackL L kn).take most.toNat) (.slice aw E.length cw) true (((W.setCell ⟨r1, 0, none⟩ (.slice aw E.length cw)).setCell ⟨r2, 0, none⟩ (.bool true)).setCell ⟨r3, 0, none⟩ (.int .i64 0))) := RetS.of hA HFr.out HRs.out true (by rw [hE]; congr 1; omega)
          have HKf : Hid (KeepsFrom W2.heap.size W (((W.setCell ⟨r1, 0, none⟩ (.slice aw E.length cw)).setCell ⟨r2, 0, none⟩ (.bool true)).setCell ⟨r3, 0, none⟩ (.int .i64 0))) := KeepsFrom.trans (KeepsFrom.trans (keepsFrom_set _ _ _) (keepsFrom_set _ _ _)) (keepsFrom_set _ _ _)
          have hml : most < ((lackL L kn).length : Int) := by omega
          have hq2 : ((E.length : Int) == most) = true := by rw [beq_iff_eq]; exact hq
          clear hA hE hx2 hx3 hx4 e1 e2 e3 e4 e5 e6 e7 hEk hkm
          rw [← hq] at x0
          simp only [chV, chCells]
          gi_wp2
          exact ⟨HKf.out, rfl, hml, _, HRt.out⟩
        · have hq2 : ((E.length : Int) == most) = false := by rw [beq_eq_false_iff_ne]; exact hq
          have HKf : Hid (KF W2.heap.size W W) := keepsFrom_below (Below.refl _ _)
          have HKw : Hid (KeepsG S W W) := ⟨KeepsS.refl _ _, fun j hj => Nat.lt_of_lt_of_le (hA.kp.2 j hj) hA.size⟩
          have HIc : Hid (IsI W (.slice a0 ds.length c0) ds) := OwnI.isI (e2.keepF fun j e => hA.kp.1.2 j (HSF.out j (e5 j e))) e4
          have HBx : Hid (W.drew.heap[Bx]? = some (.cells #[.int .i64 ac, .int .i64 ar, .int .i64 sq, .slice a0 ds.length c0, .int .i64 kd, .int .i64 nc, .int .i64 nr, .int .i64 pc, .int .i64 pr, .int .i64 fc, .int .i64 fr, .string nm, .string vl] 34)) := hx2
          have HNe : Hid ((Value.slice aw E.length cw).ownBlock ≠ some Bx) := hx4
          have HSz : Hid (Sized (⟨ac, ar, sq, ds, kd, nc, nr, pc, pr, fc, fr, nm, vl⟩ : Ch) ∧ ds.length ≤ 17592186044416) := ⟨e3, e4⟩
          have HEm : Hid (E.map Prod.fst = (lackL L kn).take k) := hE
          have HTk : Hid ((lackL L kn).take k ++ [(⟨ac, ar, sq, ds, kd, nc, nr, pc, pr, fc, fr, nm, vl⟩ : Ch)] = (lackL L kn).take (k + 1)) := e6.symm
          have hkm2 : (k : Int) + 1 ≤ most := by omega
          clear e1 e2 e3 e4 e5 e6 e7 hA hE hx2 hx3 hx4 hkm hEk hq HFr
          simp only [chV, chCells]
          gi_wp2
          clear x0 x1 x2 x3 f0 f1 f2 f3 xb xf
          refine region_round_held (S := fun W' => W'.heap[Bx]? = some (.cells #[.int .i64 ac, .int .i64 ar, .int .i64 sq, .slice a0 ds.length c0, .int .i64 kd, .int .i64 nc, .int .i64 nr, .int .i64 pc, .int .i64 pr, .int .i64 fc, .int .i64 fr, .string nm, .string vl] 34)) l (by kernel_rfl) (by kernel_rfl) (lets_block lets_round) HBx.out (fun hHeld => ?_)
          obtain ⟨Ua4u0, eW⟩ : ∃ X, X = W.drew := ⟨_, rfl⟩
          have hb : Below W.heap.size W Ua4u0 := by rw [eW]; exact (Below.refl _ _).drew
          replace HA : Hid (AllB w W2 r4 S (.slice aw E.length cw) E Ua4u0) := HA.out.below hb
          replace HKf : Hid (KF W2.heap.size W Ua4u0) := HKf.out.below hb
          replace HKw : Hid (KeepsG S W Ua4u0) := HKw.out.below hb
          replace HIc : Hid (IsI Ua4u0 (.slice a0 ds.length c0) ds) := HIc.out.below hb
          rw [← eW] at hHeld ⊢
          clear eW hb
          refine wpAnyH_take (i := 1) (oi := ⟨some 30, _, _, _, _, _⟩) (v := ?va4ux1) rfl (by kernel_rfl) (by kernel_rfl) (by kernel_rfl) (fun _ _ _ h => h) (Or.inl ⟨by rfl, ?hya4ux1⟩) hHeld ?resta4ux1
          case hya4ux1 => (intro w hSw; (try dsimp only at hSw); have hk := hSw; obtain ⟨k_0, k_1, k_2, k_3, k_4, k_5, k_6, k_7, k_8, k_9, k_10, k_11, k_12⟩ := row_cells hk; go_simp; try with_reducible rfl)
          simp only [Act.put, List.setIfInBounds_toArray, List.set_cons_zero, List.set_cons_succ]
          refine wpAnyH_ready (rs := [0, 2]) (by kernel_rfl) (by simp) ?_
          refine AllReadyH.cons (o := ⟨some 29, _, _, _, _, _⟩) rfl (fun K hK => ?_) (AllReadyH.cons (o := ⟨some 31, _, _, _, _, _⟩) rfl (fun K hK => ?_) AllReadyH.nil)
          · have xo := HA.out.box.cell
            go_simp
            refine hK.out _ _ (hHeld) (fun hHeld2 => ?_)
            clear hK K hHeld
            have hHeld := hHeld2
            clear hHeld2
            (try simp only [Act.put, List.setIfInBounds_toArray, List.set_cons_zero, List.set_cons_succ])
            clear xo
            refine wpAnyH_ready (rs := [2]) (by kernel_rfl) (by simp) ?_
            refine AllReadyH.cons (o := ⟨some 31, _, _, _, _, _⟩) rfl (fun K hK => ?_) AllReadyH.nil
            have hWs := HA.out.size
            go_simp
            refine (copyCh_any ac ar sq (.slice a0 ds.length c0) kd nc nr pc pr fc fr nm vl ds _ HIc.out).mono ?_
            rintro e Ua4u2 ⟨v2, rfl, ho, hb⟩
            (try go_wp2_with fail)
            refine hK.out _ _ ((hb.block _ (Array.getElem?_eq_some_iff.1 hHeld).1).trans hHeld) (fun hHeld2 => ?_)
            clear hK K hHeld
            have hHeld := hHeld2
            clear hHeld2
            (try simp only [Act.put, List.setIfInBounds_toArray, List.set_cons_zero, List.set_cons_succ])
            replace HA : Hid (AllB w W2 r4 S (.slice aw E.length cw) E Ua4u2) := HA.out.below hb
            replace HKf : Hid (KF W2.heap.size W Ua4u2) := HKf.out.below hb
            replace HKw : Hid (KeepsG S W Ua4u2) := HKw.out.below hb
            replace HIc : Hid (IsI Ua4u2 (.slice a0 ds.length c0) ds) := HIc.out.below hb
            obtain ⟨a2, c2, e2⟩ := ho.form
            subst e2
            have HO : Hid (OwnI W2.heap.size Ua4u2 (.slice a2 ds.length c2) ds) := ho.low (by omega)
            clear ho hWs
            clear hb
            refine wpAnyH_ready (rs := [3]) (by kernel_rfl) (by simp) ?_
            refine AllReadyH.cons (o := ⟨some 32, _, _, _, _, _⟩) rfl (fun K hK => ?_) AllReadyH.nil
            go_simp
            refine hK.out _ _ ((Below.block ((Below.refl _ Ua4u2).alloc (Nat.le_refl _) _) _ (Array.getElem?_eq_some_iff.1 hHeld).1).trans hHeld) (fun hHeld2 => ?_)
            clear hK K hHeld
            have hHeld := hHeld2
            clear hHeld2
            (try simp only [Act.put, List.setIfInBounds_toArray, List.set_cons_zero, List.set_cons_succ])
            obtain ⟨Ua4u3, eW⟩ : ∃ X, X = Ua4u2.alloc (.cells #[.int .i64 ac, .int .i64 ar, .int .i64 sq, .slice a2 ds.length c2, .int .i64 kd, .int .i64 nc, .int .i64 nr, .int .i64 pc, .int .i64 pr, .int .i64 fc, .int .i64 fr, .string nm, .string vl] 34) := ⟨_, rfl⟩
            have hb : Below Ua4u2.heap.size Ua4u2 Ua4u3 := by rw [eW]; exact (Below.refl _ _).alloc (Nat.le_refl _) _
            replace HA : Hid (AllB w W2 r4 S (.slice aw E.length cw) E Ua4u3) := HA.out.below hb
            replace HKf : Hid (KF W2.heap.size W Ua4u3) := HKf.out.below hb
            replace HKw : Hid (KeepsG S W Ua4u3) := HKw.out.below hb
            replace HIc : Hid (IsI Ua4u3 (.slice a0 ds.length c0) ds) := HIc.out.below hb
            replace HO : Hid (OwnI W2.heap.size Ua4u3 (.slice a2 ds.length c2) ds) := HO.out.below hb
            have HV : Hid (RowHas Ua4u3 Ua4u2.heap.size [.int .i64 ac, .int .i64 ar, .int .i64 sq, .slice a2 ds.length c2, .int .i64 kd, .int .i64 nc, .int .i64 nr, .int .i64 pc, .int .i64 pr, .int .i64 fc, .int .i64 fr, .string nm, .string vl]) := by rw [eW]; exact RowHas.new _ _ _
            rw [← eW] at hHeld ⊢
            clear eW
            obtain ⟨vb, evb⟩ : ∃ vb, vb = Ua4u2.heap.size := ⟨_, rfl⟩
            rw [← evb] at HV ⊢
            clear evb
            clear hb
            refine wpAnyH_ready (rs := [4]) (by kernel_rfl) (by simp) ?_
            refine AllReadyH.cons (o := ⟨some 33, _, _, _, _, _⟩) rfl (fun K hK => ?_) AllReadyH.nil
            refine step_append_lies _ (by rfl) _ _ 22 (by rfl) W2.heap.size 34 i0 (.agg #[.int .i64 0, .int .i64 0, .int .i64 0, .slice none 0 0, .int .i64 0, .int .i64 0, .int .i64 0, .int .i64 0, .int .i64 0, .int .i64 0, .int .i64 0, .string ⟨#[]⟩, .string ⟨#[]⟩]) 13 136 Tryz.underlying22 hi hz0 hz1 hz2 rfl (by decide) (.slice aw E.length cw) E.length (flatH E) (by rfl) HA.out.own ⟨vb, 0, none⟩ 1 1 [.int .i64 ac, .int .i64 ar, .int .i64 sq, .slice a2 ds.length c2, .int .i64 kd, .int .i64 nc, .int .i64 nr, .int .i64 pc, .int .i64 pr, .int .i64 fc, .int .i64 fr, .string nm, .string vl] (by rfl) rfl HV.out.2 (fun x hx => by simp at hx; rcases hx with rfl | rfl | rfl | rfl | rfl | rfl | rfl | rfl | rfl | rfl | rfl | rfl | rfl <;> rfl) (by decide) (by unfold maxLen; omega) (by omega) (HA.out.size) Ua4u3.heap.size rfl ?_
            intro g3 c3 Ua4u4 hown3 hgrow3 hat3 hlt3
            have HP3 : Hid (∀ u, u = Value.slice (some ⟨g3, 0, none⟩) (E.length + 1) c3 → AllB w W2 r4 S u (E ++ [((⟨ac, ar, sq, ds, kd, nc, nr, pc, pr, fc, fr, nm, vl⟩ : Ch), .slice a2 ds.length c2)]) (Ua4u4.setCell ⟨r4, 0, none⟩ u)) := fun u eu => by subst eu; exact HA.out.push hown3 hgrow3 HO.out HSz.out
            have HKf3 : Hid (KF W2.heap.size W Ua4u4) := KeepsFrom.trans HKf.out (keepsFrom_row HA.out.own hgrow3)
            have HKw3 : Hid (KeepsG S W Ua4u4) := HKw.out.row HA.out.own hgrow3 HA.out.kp.2
            have HBX3 : Hid (Boxed Ua4u4 r4 22 (.slice aw E.length cw)) := HA.out.box.kept hgrow3 (fun e => by have := (World.ownsRow.lt HA.out.own _ e.symm).1; have := HA.out.b2; omega)
            have HB0 : Hid (r4 < W2.heap.size ∧ ¬ S r4) := ⟨HA.out.b2, HA.out.b3⟩
            refine hK.out _ _ ((hgrow3.block _ (Array.getElem?_eq_some_iff.1 hHeld).1 (fun e => HNe.out e.symm)).trans hHeld) (fun hHeld2 => ?_)
            clear hK K hHeld
            have hHeld := hHeld2
            clear hHeld2
            (try simp only [Act.put, List.setIfInBounds_toArray, List.set_cons_zero, List.set_cons_succ])
            clear hown3 hgrow3 hat3 hlt3 HA HKf HKw HIc HO HV
            refine wpAnyH_ready (rs := [5]) (by kernel_rfl) (by simp) ?_
            refine AllReadyH.cons (o := ⟨none, _, _, _, _, _⟩) rfl (fun K hK => ?_) AllReadyH.nil
            have xo := HBX3.out.cell
            have xf := HBX3.out.frozen
            go_simp
            refine hK.out _ _ ((RowKit.Below.heap_setCell _ _ _ _ (fun e => by have h1 := HB0.out.1; have e2 : Bx = r4 := e; omega)).trans hHeld) (fun hHeld2 => ?_)
            clear hK K hHeld
            have hHeld := hHeld2
            clear hHeld2
            (try simp only [Act.put, List.setIfInBounds_toArray, List.set_cons_zero, List.set_cons_succ])
            obtain ⟨Ua4u5, eW⟩ : ∃ X, X = Ua4u4.setCell ⟨r4, 0, none⟩ (Value.slice (some ⟨g3, 0, none⟩) (E.length + 1) c3) := ⟨_, rfl⟩
            have HA4 : Hid (AllB w W2 r4 S (Value.slice (some ⟨g3, 0, none⟩) (E.length + 1) c3) (E ++ [((⟨ac, ar, sq, ds, kd, nc, nr, pc, pr, fc, fr, nm, vl⟩ : Ch), .slice a2 ds.length c2)]) Ua4u5) := by rw [eW]; exact HP3.out _ rfl
            have HKf4 : Hid (KF W2.heap.size W Ua4u5) := by rw [eW]; exact KeepsFrom.trans HKf3.out (keepsFrom_set _ _ _)
            have HKw4 : Hid (KeepsG S W Ua4u5) := by rw [eW]; exact HKw3.out.set HB0.out.2
            rw [← eW] at hHeld ⊢
            clear eW xo xf HP3 HKf3 HKw3 HBX3
            refine wpAnyH_done (by kernel_rfl) ?_ _
            clear hHeld
            exact ⟨HKf4.out, HKw4.out.1, _, _, HA4.out, by rw [List.map_append, HEm.out]; exact HTk.out, by omega⟩
          · have hWs := HA.out.size
            go_simp
            refine (copyCh_any ac ar sq (.slice a0 ds.length c0) kd nc nr pc pr fc fr nm vl ds _ HIc.out).mono ?_
            rintro e Ua4u6 ⟨v2, rfl, ho, hb⟩
            (try go_wp2_with fail)
            refine hK.out _ _ ((hb.block _ (Array.getElem?_eq_some_iff.1 hHeld).1).trans hHeld) (fun hHeld2 => ?_)
            clear hK K hHeld
            have hHeld := hHeld2
            clear hHeld2
            (try simp only [Act.put, List.setIfInBounds_toArray, List.set_cons_zero, List.set_cons_succ])
            replace HA : Hid (AllB w W2 r4 S (.slice aw E.length cw) E Ua4u6) := HA.out.below hb
            replace HKf : Hid (KF W2.heap.size W Ua4u6) := HKf.out.below hb
            replace HKw : Hid (KeepsG S W Ua4u6) := HKw.out.below hb
            replace HIc : Hid (IsI Ua4u6 (.slice a0 ds.length c0) ds) := HIc.out.below hb
            obtain ⟨a2, c2, e2⟩ := ho.form
            subst e2
            have HO : Hid (OwnI W2.heap.size Ua4u6 (.slice a2 ds.length c2) ds) := ho.low (by omega)
            clear ho hWs
            clear hb
            refine wpAnyH_ready (rs := [0, 3]) (by kernel_rfl) (by simp) ?_
            refine AllReadyH.cons (o := ⟨some 29, _, _, _, _, _⟩) rfl (fun K hK => ?_) (AllReadyH.cons (o := ⟨some 32, _, _, _, _, _⟩) rfl (fun K hK => ?_) AllReadyH.nil)
            · have xo := HA.out.box.cell
              go_simp
              refine hK.out _ _ (hHeld) (fun hHeld2 => ?_)
              clear hK K hHeld
              have hHeld := hHeld2
              clear hHeld2
              (try simp only [Act.put, List.setIfInBounds_toArray, List.set_cons_zero, List.set_cons_succ])
              clear xo
              refine wpAnyH_ready (rs := [3]) (by kernel_rfl) (by simp) ?_
              refine AllReadyH.cons (o := ⟨some 32, _, _, _, _, _⟩) rfl (fun K hK => ?_) AllReadyH.nil
              go_simp
              refine hK.out _ _ ((Below.block ((Below.refl _ Ua4u6).alloc (Nat.le_refl _) _) _ (Array.getElem?_eq_some_iff.1 hHeld).1).trans hHeld) (fun hHeld2 => ?_)
              clear hK K hHeld
              have hHeld := hHeld2
              clear hHeld2
              (try simp only [Act.put, List.setIfInBounds_toArray, List.set_cons_zero, List.set_cons_succ])
              obtain ⟨Ua4u8, eW⟩ : ∃ X, X = Ua4u6.alloc (.cells #[.int .i64 ac, .int .i64 ar, .int .i64 sq, .slice a2 ds.length c2, .int .i64 kd, .int .i64 nc, .int .i64 nr, .int .i64 pc, .int .i64 pr, .int .i64 fc, .int .i64 fr, .string nm, .string vl] 34) := ⟨_, rfl⟩
              have hb : Below Ua4u6.heap.size Ua4u6 Ua4u8 := by rw [eW]; exact (Below.refl _ _).alloc (Nat.le_refl _) _
              replace HA : Hid (AllB w W2 r4 S (.slice aw E.length cw) E Ua4u8) := HA.out.below hb
              replace HKf : Hid (KF W2.heap.size W Ua4u8) := HKf.out.below hb
              replace HKw : Hid (KeepsG S W Ua4u8) := HKw.out.below hb
              replace HIc : Hid (IsI Ua4u8 (.slice a0 ds.length c0) ds) := HIc.out.below hb
              replace HO : Hid (OwnI W2.heap.size Ua4u8 (.slice a2 ds.length c2) ds) := HO.out.below hb
              have HV : Hid (RowHas Ua4u8 Ua4u6.heap.size [.int .i64 ac, .int .i64 ar, .int .i64 sq, .slice a2 ds.length c2, .int .i64 kd, .int .i64 nc, .int .i64 nr, .int .i64 pc, .int .i64 pr, .int .i64 fc, .int .i64 fr, .string nm, .string vl]) := by rw [eW]; exact RowHas.new _ _ _
              rw [← eW] at hHeld ⊢
              clear eW
              obtain ⟨vb, evb⟩ : ∃ vb, vb = Ua4u6.heap.size := ⟨_, rfl⟩
              rw [← evb] at HV ⊢
              clear evb
              clear hb
              refine wpAnyH_ready (rs := [4]) (by kernel_rfl) (by simp) ?_
              refine AllReadyH.cons (o := ⟨some 33, _, _, _, _, _⟩) rfl (fun K hK => ?_) AllReadyH.nil
              refine step_append_lies _ (by rfl) _ _ 22 (by rfl) W2.heap.size 34 i0 (.agg #[.int .i64 0, .int .i64 0, .int .i64 0, .slice none 0 0, .int .i64 0, .int .i64 0, .int .i64 0, .int .i64 0, .int .i64 0, .int .i64 0, .int .i64 0, .string ⟨#[]⟩, .string ⟨#[]⟩]) 13 136 Tryz.underlying22 hi hz0 hz1 hz2 rfl (by decide) (.slice aw E.length cw) E.length (flatH E) (by rfl) HA.out.own ⟨vb, 0, none⟩ 1 1 [.int .i64 ac, .int .i64 ar, .int .i64 sq, .slice a2 ds.length c2, .int .i64 kd, .int .i64 nc, .int .i64 nr, .int .i64 pc, .int .i64 pr, .int .i64 fc, .int .i64 fr, .string nm, .string vl] (by rfl) rfl HV.out.2 (fun x hx => by simp at hx; rcases hx with rfl | rfl | rfl | rfl | rfl | rfl | rfl | rfl | rfl | rfl | rfl | rfl | rfl <;> rfl) (by decide) (by unfold maxLen; omega) (by omega) (HA.out.size) Ua4u8.heap.size rfl ?_
              intro g3 c3 Ua4u9 hown3 hgrow3 hat3 hlt3
              have HP3 : Hid (∀ u, u = Value.slice (some ⟨g3, 0, none⟩) (E.length + 1) c3 → AllB w W2 r4 S u (E ++ [((⟨ac, ar, sq, ds, kd, nc, nr, pc, pr, fc, fr, nm, vl⟩ : Ch), .slice a2 ds.length c2)]) (Ua4u9.setCell ⟨r4, 0, none⟩ u)) := fun u eu => by subst eu; exact HA.out.push hown3 hgrow3 HO.out HSz.out
              have HKf3 : Hid (KF W2.heap.size W Ua4u9) := KeepsFrom.trans HKf.out (keepsFrom_row HA.out.own hgrow3)
              have HKw3 : Hid (KeepsG S W Ua4u9) := HKw.out.row HA.out.own hgrow3 HA.out.kp.2
              have HBX3 : Hid (Boxed Ua4u9 r4 22 (.slice aw E.length cw)) := HA.out.box.kept hgrow3 (fun e => by have := (World.ownsRow.lt HA.out.own _ e.symm).1; have := HA.out.b2; omega)
              have HB0 : Hid (r4 < W2.heap.size ∧ ¬ S r4) := ⟨HA.out.b2, HA.out.b3⟩
              refine hK.out _ _ ((hgrow3.block _ (Array.getElem?_eq_some_iff.1 hHeld).1 (fun e => HNe.out e.symm)).trans hHeld) (fun hHeld2 => ?_)
              clear hK K hHeld
              have hHeld := hHeld2
              clear hHeld2
              (try simp only [Act.put, List.setIfInBounds_toArray, List.set_cons_zero, List.set_cons_succ])
              clear hown3 hgrow3 hat3 hlt3 HA HKf HKw HIc HO HV
              refine wpAnyH_ready (rs := [5]) (by kernel_rfl) (by simp) ?_
              refine AllReadyH.cons (o := ⟨none, _, _, _, _, _⟩) rfl (fun K hK => ?_) AllReadyH.nil
              have xo := HBX3.out.cell
              have xf := HBX3.out.frozen
              go_simp
              refine hK.out _ _ ((RowKit.Below.heap_setCell _ _ _ _ (fun e => by have h1 := HB0.out.1; have e2 : Bx = r4 := e; omega)).trans hHeld) (fun hHeld2 => ?_)
              clear hK K hHeld
              have hHeld := hHeld2
              clear hHeld2
              (try simp only [Act.put, List.setIfInBounds_toArray, List.set_cons_zero, List.set_cons_succ])
              obtain ⟨Ua4u10, eW⟩ : ∃ X, X = Ua4u9.setCell ⟨r4, 0, none⟩ (Value.slice (some ⟨g3, 0, none⟩) (E.length + 1) c3) := ⟨_, rfl⟩
              have HA4 : Hid (AllB w W2 r4 S (Value.slice (some ⟨g3, 0, none⟩) (E.length + 1) c3) (E ++ [((⟨ac, ar, sq, ds, kd, nc, nr, pc, pr, fc, fr, nm, vl⟩ : Ch), .slice a2 ds.length c2)]) Ua4u10) := by rw [eW]; exact HP3.out _ rfl
              have HKf4 : Hid (KF W2.heap.size W Ua4u10) := by rw [eW]; exact KeepsFrom.trans HKf3.out (keepsFrom_set _ _ _)
              have HKw4 : Hid (KeepsG S W Ua4u10) := by rw [eW]; exact HKw3.out.set HB0.out.2
              rw [← eW] at hHeld ⊢
              clear eW xo xf HP3 HKf3 HKw3 HBX3
              refine wpAnyH_done (by kernel_rfl) ?_ _
              clear hHeld
              exact ⟨HKf4.out, HKw4.out.1, _, _, HA4.out, by rw [List.map_append, HEm.out]; exact HTk.out, by omega⟩
            · go_simp
              refine hK.out _ _ ((Below.block ((Below.refl _ Ua4u6).alloc (Nat.le_refl _) _) _ (Array.getElem?_eq_some_iff.1 hHeld).1).trans hHeld) (fun hHeld2 => ?_)
              clear hK K hHeld
              have hHeld := hHeld2
              clear hHeld2
              (try simp only [Act.put, List.setIfInBounds_toArray, List.set_cons_zero, List.set_cons_succ])
              obtain ⟨Ua4u11, eW⟩ : ∃ X, X = Ua4u6.alloc (.cells #[.int .i64 ac, .int .i64 ar, .int .i64 sq, .slice a2 ds.length c2, .int .i64 kd, .int .i64 nc, .int .i64 nr, .int .i64 pc, .int .i64 pr, .int .i64 fc, .int .i64 fr, .string nm, .string vl] 34) := ⟨_, rfl⟩
              have hb : Below Ua4u6.heap.size Ua4u6 Ua4u11 := by rw [eW]; exact (Below.refl _ _).alloc (Nat.le_refl _) _
              replace HA : Hid (AllB w W2 r4 S (.slice aw E.length cw) E Ua4u11) := HA.out.below hb
              replace HKf : Hid (KF W2.heap.size W Ua4u11) := HKf.out.below hb
              replace HKw : Hid (KeepsG S W Ua4u11) := HKw.out.below hb
              replace HIc : Hid (IsI Ua4u11 (.slice a0 ds.length c0) ds) := HIc.out.below hb
              replace HO : Hid (OwnI W2.heap.size Ua4u11 (.slice a2 ds.length c2) ds) := HO.out.below hb
              have HV : Hid (RowHas Ua4u11 Ua4u6.heap.size [.int .i64 ac, .int .i64 ar, .int .i64 sq, .slice a2 ds.length c2, .int .i64 kd, .int .i64 nc, .int .i64 nr, .int .i64 pc, .int .i64 pr, .int .i64 fc, .int .i64 fr, .string nm, .string vl]) := by rw [eW]; exact RowHas.new _ _ _
              rw [← eW] at hHeld ⊢
              clear eW
              obtain ⟨vb, evb⟩ : ∃ vb, vb = Ua4u6.heap.size := ⟨_, rfl⟩
              rw [← evb] at HV ⊢
              clear evb
              clear hb
              refine wpAnyH_ready (rs := [0]) (by kernel_rfl) (by simp) ?_
              refine AllReadyH.cons (o := ⟨some 29, _, _, _, _, _⟩) rfl (fun K hK => ?_) AllReadyH.nil
              have xo := HA.out.box.cell
              go_simp
              refine hK.out _ _ (hHeld) (fun hHeld2 => ?_)
              clear hK K hHeld
              have hHeld := hHeld2
              clear hHeld2
              (try simp only [Act.put, List.setIfInBounds_toArray, List.set_cons_zero, List.set_cons_succ])
              clear xo
              refine wpAnyH_ready (rs := [4]) (by kernel_rfl) (by simp) ?_
              refine AllReadyH.cons (o := ⟨some 33, _, _, _, _, _⟩) rfl (fun K hK => ?_) AllReadyH.nil
              refine step_append_lies _ (by rfl) _ _ 22 (by rfl) W2.heap.size 34 i0 (.agg #[.int .i64 0, .int .i64 0, .int .i64 0, .slice none 0 0, .int .i64 0, .int .i64 0, .int .i64 0, .int .i64 0, .int .i64 0, .int .i64 0, .int .i64 0, .string ⟨#[]⟩, .string ⟨#[]⟩]) 13 136 Tryz.underlying22 hi hz0 hz1 hz2 rfl (by decide) (.slice aw E.length cw) E.length (flatH E) (by rfl) HA.out.own ⟨vb, 0, none⟩ 1 1 [.int .i64 ac, .int .i64 ar, .int .i64 sq, .slice a2 ds.length c2, .int .i64 kd, .int .i64 nc, .int .i64 nr, .int .i64 pc, .int .i64 pr, .int .i64 fc, .int .i64 fr, .string nm, .string vl] (by rfl) rfl HV.out.2 (fun x hx => by simp at hx; rcases hx with rfl | rfl | rfl | rfl | rfl | rfl | rfl | rfl | rfl | rfl | rfl | rfl | rfl <;> rfl) (by decide) (by unfold maxLen; omega) (by omega) (HA.out.size) Ua4u11.heap.size rfl ?_
              intro g3 c3 Ua4u13 hown3 hgrow3 hat3 hlt3
              have HP3 : Hid (∀ u, u = Value.slice (some ⟨g3, 0, none⟩) (E.length + 1) c3 → AllB w W2 r4 S u (E ++ [((⟨ac, ar, sq, ds, kd, nc, nr, pc, pr, fc, fr, nm, vl⟩ : Ch), .slice a2 ds.length c2)]) (Ua4u13.setCell ⟨r4, 0, none⟩ u)) := fun u eu => by subst eu; exact HA.out.push hown3 hgrow3 HO.out HSz.out
              have HKf3 : Hid (KF W2.heap.size W Ua4u13) := KeepsFrom.trans HKf.out (keepsFrom_row HA.out.own hgrow3)
              have HKw3 : Hid (KeepsG S W Ua4u13) := HKw.out.row HA.out.own hgrow3 HA.out.kp.2
              have HBX3 : Hid (Boxed Ua4u13 r4 22 (.slice aw E.length cw)) := HA.out.box.kept hgrow3 (fun e => by have := (World.ownsRow.lt HA.out.own _ e.symm).1; have := HA.out.b2; omega)
              have HB0 : Hid (r4 < W2.heap.size ∧ ¬ S r4) := ⟨HA.out.b2, HA.out.b3⟩
              refine hK.out _ _ ((hgrow3.block _ (Array.getElem?_eq_some_iff.1 hHeld).1 (fun e => HNe.out e.symm)).trans hHeld) (fun hHeld2 => ?_)
              clear hK K hHeld
              have hHeld := hHeld2
              clear hHeld2
              (try simp only [Act.put, List.setIfInBounds_toArray, List.set_cons_zero, List.set_cons_succ])
              clear hown3 hgrow3 hat3 hlt3 HA HKf HKw HIc HO HV
              refine wpAnyH_ready (rs := [5]) (by kernel_rfl) (by simp) ?_
              refine AllReadyH.cons (o := ⟨none, _, _, _, _, _⟩) rfl (fun K hK => ?_) AllReadyH.nil
              have xo := HBX3.out.cell
              have xf := HBX3.out.frozen
              go_simp
              refine hK.out _ _ ((RowKit.Below.heap_setCell _ _ _ _ (fun e => by have h1 := HB0.out.1; have e2 : Bx = r4 := e; omega)).trans hHeld) (fun hHeld2 => ?_)
              clear hK K hHeld
              have hHeld := hHeld2
              clear hHeld2
              (try simp only [Act.put, List.setIfInBounds_toArray, List.set_cons_zero, List.set_cons_succ])
              obtain ⟨Ua4u14, eW⟩ : ∃ X, X = Ua4u13.setCell ⟨r4, 0, none⟩ (Value.slice (some ⟨g3, 0, none⟩) (E.length + 1) c3) := ⟨_, rfl⟩
              have HA4 : Hid (AllB w W2 r4 S (Value.slice (some ⟨g3, 0, none⟩) (E.length + 1) c3) (E ++ [((⟨ac, ar, sq, ds, kd, nc, nr, pc, pr, fc, fr, nm, vl⟩ : Ch), .slice a2 ds.length c2)]) Ua4u14) := by rw [eW]; exact HP3.out _ rfl
              have HKf4 : Hid (KF W2.heap.size W Ua4u14) := by rw [eW]; exact KeepsFrom.trans HKf3.out (keepsFrom_set _ _ _)
              have HKw4 : Hid (KeepsG S W Ua4u14) := by rw [eW]; exact HKw3.out.set HB0.out.2
              rw [← eW] at hHeld ⊢
              clear eW xo xf HP3 HKf3 HKw3 HBX3
              refine wpAnyH_done (by kernel_rfl) ?_ _
              clear hHeld
              exact ⟨HKf4.out, HKw4.out.1, _, _, HA4.out, by rw [List.map_append, HEm.out]; exact HTk.out, by omega⟩
      case done =>
        rintro Dd W hDd ⟨ov, E, hA, hE, hkm⟩ hDf
        have HFr : Hid (Four w.heap.size r1 r2 r3 most W) := HFr3.out.keep (fun j hj => hA.kp.1.2 j (HSr.out j hj)) HRs.out
        have hll2 : ((lackL L kn).length : Int) ≤ most := by rw [← lackE_length D]; exact hkm
        have hE2 : E.map Prod.fst = (lackL L kn).take most.toNat := by rw [hE, lackE_length, List.take_length, List.take_of_length_le (by omega)]
        obtain ⟨aw, cw, eo⟩ := hA.own.form
        subst eo
        have HRt : Hid (RetS w W2 r1 r2 r3 ((lackL L kn).take most.toNat) (.slice aw E.length cw) false (((W.setCell ⟨r1, 0, none⟩ (.slice aw E.length cw)).setCell ⟨r2, 0, none⟩ (.bool false)).setCell ⟨r3, 0, none⟩ (.int .i64 0))) := RetS.of hA HFr.out HRs.out false hE2
        have HSq2 : Hid (sinceR L kn most = ((lackL L kn).take most.toNat, false, 0)) := by
          have h := HSq.out
          rw [decide_eq_false (by omega)] at h
          exact h
        have HDf : Hid ((((W.setCell ⟨r1, 0, none⟩ (.slice aw E.length cw)).setCell ⟨r2, 0, none⟩ (.bool false)).setCell ⟨r3, 0, none⟩ (.int .i64 0)).heap[Dd]? = some (.deferred (some []))) := ((RowKit.Below.heap_setCell _ _ _ _ (by show Dd ≠ r3; have := HRs.out; omega)).trans ((RowKit.Below.heap_setCell _ _ _ _ (by show Dd ≠ r2; have := HRs.out; omega)).trans (RowKit.Below.heap_setCell _ _ _ _ (by show Dd ≠ r1; have := HRs.out; omega)))).trans hDf
        have xb := hA.box.cell
        obtain ⟨⟨x0, f0⟩, ⟨x1, f1⟩, ⟨x2, f2⟩, ⟨x3, f3⟩⟩ := HFr.out.cells
        clear hA hE hE2 hDf
        gi_wp2
        refine ⟨by simp, .inl ⟨_, _, rfl, run_takeDeferred HDf.out, ?_⟩⟩
        obtain ⟨E2, q1, q2, q3, q4, q5, q6, q7, q8⟩ := HRt.out.grown (grownBy_putObj' _ Dd (.deferred none)) (fun r e => by cases e; exact ⟨hDd, _, HDf.out, rfl⟩)
        refine ⟨_, results_since rfl _ r1 r2 r3 _ aw E.length cw false 0 rfl rfl rfl q5.cell q6.cell q7.cell, .slice aw E.length cw, E2, by rw [HSq2.out], by rw [HSq2.out]; exact q1, ownsRow_low q2 q8, fun x hx => ⟨(q3 x hx).1.low q8, (q3 x hx).2⟩, q4⟩
      case stop =>
        rintro Dd c k W hDd hk ⟨rfl, hml, sv, hR⟩ hDf
        have HDf : Hid (W.heap[Dd]? = some (.deferred (some []))) := hDf
        have HRt : Hid (RetS w W2 r1 r2 r3 ((lackL L kn).take most.toNat) sv true W) := hR
        have HSq2 : Hid (sinceR L kn most = ((lackL L kn).take most.toNat, true, 0)) := by
          have h := HSq.out
          rw [decide_eq_true hml] at h
          exact h
        clear hDf hR
        gi_wp2
        refine ⟨by simp, .inl ⟨_, _, rfl, run_takeDeferred HDf.out, ?_⟩⟩
        obtain ⟨E2, q1, q2, q3, q4, q5, q6, q7, q8⟩ := HRt.out.grown (grownBy_putObj' _ Dd (.deferred none)) (fun r e => by cases e; exact ⟨hDd, _, HDf.out, rfl⟩)
        obtain ⟨aw, cw, eo⟩ := q2.form
        subst eo
        refine ⟨_, results_since rfl _ r1 r2 r3 _ aw E2.length cw true 0 rfl rfl rfl q5.cell q6.cell q7.cell, .slice aw E2.length cw, E2, by rw [HSq2.out], by rw [HSq2.out]; exact q1, ownsRow_low q2 q8, fun x hx => ⟨(q3 x hx).1.low q8, (q3 x hx).2⟩, q4⟩
  · have HS3 := set3 HFr.out HRs.out (.slice none 0 0) (.bool false) (.int .i64 (checkL kn)) HB0.out
    have HSq : Hid (sinceR L kn most = ([], false, checkL kn)) := by rw [HDf.out, if_pos hc]; rfl
    have HS4 : Hid _ := HS3
    clear HS3 HDf
    generalize checkL kn = cc at *
    have hq : (cc == 0) = false := by rw [beq_eq_false_iff_ne]; exact hc
    have hq2 : (cc != 0) = true := by rw [bne_iff_ne]; exact hc
    gi_wp2
    obtain ⟨c1, c2, c3, hbl⟩ := HS4.out
    refine ⟨_, results_since rfl _ r1 r2 r3 _ none 0 0 false cc rfl rfl rfl c1.cell c2.cell c3.cell, .slice none 0 0, [], by rw [HSq.out], by rw [HSq.out]; rfl, OwnH.nil0 _ _, fun x hx => by simp at hx, hbl⟩

end Go.Proofs.YtcnolipgmpjcbaaGreat

namespace Go.Proofs.YtcnolipgmpjcbaaGreat
open Go.RowKit
set_option linter.unusedVariables false
set_option linter.unusedSimpArgs false

/-- A row of changes that the call made itself, whose clocks are old ones of G, or own copies. -/
structure PutA (G : Nat → Prop) (w : World) (v : Value) (E : List (Ch × Value)) (U : World) : Prop where
  own : OwnH w.heap.size U v E
  dep : ∀ x ∈ E, (IsG G U x.2 x.1.deps ∨ OwnI w.heap.size U x.2 x.1.deps) ∧ Sized x.1 ∧ x.1.deps.length ≤ 17592186044416
  bel : Below w.heap.size w U
  gl : ∀ k, G k → k < w.heap.size
section
variable {G : Nat → Prop} {w : World} {v ov : Value} {E : List (Ch × Value)} {U U' : World}
theorem PutA.below (h : PutA G w v E U) (hb : Below U.heap.size U U') : PutA G w v E U' :=
  ⟨h.own.below hb, fun x hx => ⟨(h.dep x hx).1.imp (fun q => q.keep (KeepsS.of_below hb (fun k hk => Nat.lt_of_lt_of_le (h.gl k hk) h.bel.size))) (fun q => q.below hb), (h.dep x hx).2⟩, h.bel.trans (hb.mono h.bel.size), h.gl⟩
theorem PutA.push (h : PutA G w ov E U) {c : Ch} {dv v : Value} (hown : U'.ownsRow w.heap.size 34 13 v (E.length + 1) (flatH E ++ chCells c dv)) (hg : U.grownBy U' ov.ownBlock) (hd : IsG G U dv c.deps ∨ OwnI w.heap.size U dv c.deps) (hs : Sized c ∧ c.deps.length ≤ 17592186044416) :
    PutA G w v (E ++ [(c, dv)]) U' := by
  have hrow : ∀ j, ov.ownBlock = some j → w.heap.size ≤ j := fun j e => (World.ownsRow.lt h.own j e).1
  have dkeep : ∀ (d : Value) (l : List Int), (IsG G U d l ∨ OwnI w.heap.size U d l) → (IsG G U' d l ∨ OwnI w.heap.size U' d l) := fun d l hq => hq.imp
    (fun q => q.keep (KeepsS.of_grown hg (fun k hk => Nat.lt_of_lt_of_le (h.gl k hk) h.bel.size) (fun r e hS => by have := hrow r e; have := h.gl r hS; omega)))
    (fun q => OwnI.keepF q fun k e => hg.block k (World.ownsRow.lt q k e).2 (fun e2 => ownsRow_apart q h.own (by decide) k e e2.symm))
  refine ⟨OwnH.snoc hown, fun x hx => ?_, h.bel.grown hg h.bel.size (fun j e => by have := hrow j e; omega), h.gl⟩
  rcases List.mem_append.1 hx with hx | hx
  · exact ⟨dkeep _ _ (h.dep x hx).1, (h.dep x hx).2⟩
  · rw [List.mem_singleton] at hx
    subst hx
    exact ⟨dkeep _ _ hd, hs⟩
theorem PutA.firm (h : PutA G w v E U) (hl : E.length ≤ 281474976710656) : HFirm (fun k => G k ∨ (w.heap.size ≤ k ∧ k < U.heap.size)) U v (E.map Prod.fst) := by
  have h0 := h.own
  refine ⟨fun k hk => hk.elim (fun q => Nat.lt_of_lt_of_le (h.gl k q) h.bel.size) (fun q => q.2), ?_⟩
  rcases h.own.2 with ⟨rfl, hn⟩ | ⟨g, cap, cur, rfl, hg, hc, hcap, rest⟩
  · have e : E = [] := List.eq_nil_of_length_eq_zero hn
    subst e
    exact ⟨none, 0, rfl, Nat.le_refl _, by simp, .inl rfl⟩
  · refine ⟨_, cap, by simp, by simpa using hcap, by simpa using hl, .inr ⟨g, 0, rfl, .inr ⟨by omega, (Array.getElem?_eq_some_iff.1 hc).1⟩, fun i hi => ?_⟩⟩
    have hi' : i < E.length := by simpa using hi
    rw [show (E.map Prod.fst)[i] = E[i].1 by simp]
    have hd := h.dep _ (List.getElem_mem hi')
    refine ⟨E[i].2, fun j u hj => ?_, ?_, hd.2.1⟩
    · have hj2 : j < 13 := (List.getElem?_eq_some_iff.1 hj).1
      rw [show 0 + i * 13 + j = i * 13 + j by omega]
      exact (World.ownsRow.cellAt h0 (i * 13 + j) (by omega)).trans (flatH_get E i hi' j u hj)
    · rcases hd.1 with q | q
      · exact q.mono fun k hk => .inl hk
      · exact IsG.own q hd.2.2 fun k h1 h2 => .inr ⟨by omega, h2⟩
end

set_option maxRecDepth 100000 in
set_option maxHeartbeats 8000000 in
theorem refAll_any (G : Nat → Prop) (v : Value) (L : List Ch) (kv : Value) (kn : List Int) (w : World) (h1 : HFirm G w v L) (hkn : IsI w kv kn) (hll : L.length ≤ 4096) :
    Calls Tryz.prog 27 #[v, kv] w fun e w' => ∃ v', e = .returned v' ∧ HFirm (fun k => G k ∨ (w.heap.size ≤ k ∧ k < w'.heap.size)) w' v' (lackL L kn) ∧ Below w.heap.size w w' := by
  obtain ⟨i0, hi, hz0, hz1, hz2⟩ := info_parts infoChange
  have HGl : Hid (∀ k, G k → k < w.heap.size) := h1.1
  obtain ⟨a1, c1, rfl, hc1, h1⟩ := h1.one
  have H1 : Hid (∀ i (hi : i < L.length), ∃ b o a2 e2, a1 = some ⟨b, o, none⟩ ∧ IsG G w (.slice a2 L[i].deps.length e2) L[i].deps ∧ Sized L[i] ∧ ∀ W', KeepsS G w W' → ∀ j u, (chCells L[i] (.slice a2 L[i].deps.length e2))[j]? = some u → W'.cell? ⟨b, o + i * 13 + j, none⟩ = some u) := h1
  have HIk : Hid (IsI w kv kn) := hkn
  obtain ⟨ak, ck, ek⟩ := hkn.form
  subst ek
  obtain ⟨W0, eW⟩ : ∃ X, X = w.alloc (.cells #[] 34) := ⟨_, rfl⟩
  have HP0 : Hid (PutA G w (.slice (some ⟨w.heap.size, 0, none⟩) 0 0) [] W0) := by
    refine ⟨?_, fun x hx => by simp at hx, ?_, HGl.out⟩
    · rw [eW]; exact World.ownsRow_made w (e := 34) (size := 13) (base := w.heap.size) #[] 0 (Nat.le_refl _) (by unfold maxLen; omega) (by simp)
    · rw [eW]; exact (Below.refl _ _).alloc (Nat.le_refl _) _
  clear h1 hkn
  go_enter Tryz.func27, Tryz.ntmps27
  go_wp2
  rw [← eW]
  clear eW
  go_loopw [5, 6] (fun ov iv wr => ∃ (k : Nat) (E : List (Ch × Value)), k ≤ L.length ∧ iv = .int .i64 (k : Int) ∧ Hid (PutA G w ov E wr) ∧ Hid (E.map Prod.fst = lackL (L.take k) kn)) (fun _ iv _ => L.length - (intOf iv).toNat)
  case atStart => exact ⟨0, [], Nat.zero_le _, rfl, HP0, (rfl : ([] : List Ch) = _)⟩
  case round =>
    obtain ⟨k, E, hk, rfl, HP, HS⟩ := hrel
    obtain ⟨aw, cw, eo⟩ := HP.out.own.form
    subst eo
    have hEl : E.length ≤ 4096 := by
      have h2 := congrArg List.length HS.out
      have h3 : (lackL (L.take k) kn).length ≤ (L.take k).length := List.length_filter_le _ _
      rw [List.length_map] at h2
      rw [List.length_take] at h3
      omega
    by_cases hlt : k < L.length
    · have hnx := lack_next (kn := kn) hlt
      obtain ⟨b1, o1, a2, c2, rfl, hg2, hz2', hcl⟩ := H1.out k hlt
      have k1 : (k : Int) < (L.length : Int) := by omega
      have k0 : (0 : Int) ≤ (k : Int) := by omega
      obtain ⟨⟨ac2, ar2, sq2, ds2, kd2, nc2, nr2, pc2, pr2, fc2, fr2, nm2, vl2⟩, ec2⟩ : ∃ c, c = L[k] := ⟨_, rfl⟩
      rw [← ec2] at hg2 hz2' hcl hnx
      have HG2 : Hid (IsG G w (Value.slice a2 ds2.length c2) ds2) := hg2
      have HZ2 : Hid (Sized (⟨ac2, ar2, sq2, ds2, kd2, nc2, nr2, pc2, pr2, fc2, fr2, nm2, vl2⟩ : Ch) ∧ ds2.length ≤ 17592186044416) := ⟨hz2', by obtain ⟨_, _, _, _, h, _⟩ := hg2; exact h⟩
      have HC : Hid (∀ W', Below w.heap.size w W' → W'.cell? ⟨b1, o1 + k * 13, none⟩ = some (.int .i64 ac2) ∧ W'.cell? ⟨b1, o1 + k * 13 + 1, none⟩ = some (.int .i64 ar2) ∧ W'.cell? ⟨b1, o1 + k * 13 + 2, none⟩ = some (.int .i64 sq2) ∧ W'.cell? ⟨b1, o1 + k * 13 + 3, none⟩ = some (.slice a2 ds2.length c2) ∧ W'.cell? ⟨b1, o1 + k * 13 + 4, none⟩ = some (.int .i64 kd2) ∧ W'.cell? ⟨b1, o1 + k * 13 + 5, none⟩ = some (.int .i64 nc2) ∧ W'.cell? ⟨b1, o1 + k * 13 + 6, none⟩ = some (.int .i64 nr2) ∧ W'.cell? ⟨b1, o1 + k * 13 + 7, none⟩ = some (.int .i64 pc2) ∧ W'.cell? ⟨b1, o1 + k * 13 + 8, none⟩ = some (.int .i64 pr2) ∧ W'.cell? ⟨b1, o1 + k * 13 + 9, none⟩ = some (.int .i64 fc2) ∧ W'.cell? ⟨b1, o1 + k * 13 + 10, none⟩ = some (.int .i64 fr2) ∧ W'.cell? ⟨b1, o1 + k * 13 + 11, none⟩ = some (.string nm2) ∧ W'.cell? ⟨b1, o1 + k * 13 + 12, none⟩ = some (.string vl2)) := fun W' hb => chAll (hcl W' (KeepsS.of_below hb HGl.out))
      obtain ⟨wb, hwb⟩ : ∃ b, b = withinB (⟨ac2, ar2, sq2, ds2, kd2, nc2, nr2, pc2, pr2, fc2, fr2, nm2, vl2⟩ : Ch) kn := ⟨_, rfl⟩
      rw [← hwb] at hnx
      have HWb : Hid (withinB (⟨ac2, ar2, sq2, ds2, kd2, nc2, nr2, pc2, pr2, fc2, fr2, nm2, vl2⟩ : Ch) kn = wb) := hwb.symm
      have HNx : Hid (lackL (L.take (k + 1)) kn = lackL (L.take k) kn ++ (if wb = true then [] else [(⟨ac2, ar2, sq2, ds2, kd2, nc2, nr2, pc2, pr2, fc2, fr2, nm2, vl2⟩ : Ch)])) := hnx
      obtain ⟨p_0, p_1, p_2, p_3, p_4, p_5, p_6, p_7, p_8, p_9, p_10, p_11, p_12⟩ := HC.out _ HP.out.bel
      clear ec2 hg2 hz2' hcl hnx hwb
      go_wp2_with fail
      refine (refWithin_any ac2 ar2 sq2 (.slice a2 ds2.length c2) kd2 nc2 nr2 pc2 pr2 fc2 fr2 nm2 vl2 ds2 (.slice ak kn.length ck) kn _ (HIk.out.below HP.out.bel)).mono ?_
      rintro e W4 ⟨rfl, hb4⟩
      rw [HWb.out]
      replace HP : Hid (PutA G w (.slice aw E.length cw) E W4) := HP.out.below hb4
      clear hb4 p_0 p_1 p_2 p_3 p_4 p_5 p_6 p_7 p_8 p_9 p_10 p_11 p_12
      cases wb
      · have HS3 : Hid ((E ++ [((⟨ac2, ar2, sq2, ds2, kd2, nc2, nr2, pc2, pr2, fc2, fr2, nm2, vl2⟩ : Ch), (Value.slice a2 ds2.length c2))]).map Prod.fst = lackL (L.take (k + 1)) kn) := by
          show _ = _
          rw [HNx.out, List.map_append, HS.out]; rfl
        obtain ⟨p_0, p_1, p_2, p_3, p_4, p_5, p_6, p_7, p_8, p_9, p_10, p_11, p_12⟩ := HC.out _ HP.out.bel
        go_wp2_with (at_builtin; refine wpList_append_lies _ rfl _ _ 22 rfl w.heap.size 34 i0 (.agg #[.int .i64 0, .int .i64 0, .int .i64 0, .slice none 0 0, .int .i64 0, .int .i64 0, .int .i64 0, .int .i64 0, .int .i64 0, .int .i64 0, .int .i64 0, .string ⟨#[]⟩, .string ⟨#[]⟩]) 13 136 Tryz.underlying22 hi hz0 hz1 hz2 rfl (by decide) (Value.slice aw E.length cw) E.length (flatH E) rfl (HP.out.below ((Below.refl _ W4).alloc (Nat.le_refl _) (.cells #[.int .i64 ac2, .int .i64 ar2, .int .i64 sq2, .slice a2 ds2.length c2, .int .i64 kd2, .int .i64 nc2, .int .i64 nr2, .int .i64 pc2, .int .i64 pr2, .int .i64 fc2, .int .i64 fr2, .string nm2, .string vl2] 34))).own ⟨W4.heap.size, 0, none⟩ 1 1 [.int .i64 ac2, .int .i64 ar2, .int .i64 sq2, .slice a2 ds2.length c2, .int .i64 kd2, .int .i64 nc2, .int .i64 nr2, .int .i64 pc2, .int .i64 pr2, .int .i64 fc2, .int .i64 fr2, .string nm2, .string vl2] rfl rfl (RowHas.new W4 [.int .i64 ac2, .int .i64 ar2, .int .i64 sq2, .slice a2 ds2.length c2, .int .i64 kd2, .int .i64 nc2, .int .i64 nr2, .int .i64 pc2, .int .i64 pr2, .int .i64 fc2, .int .i64 fr2, .string nm2, .string vl2] 34).2 (fun x hx => by simp at hx; rcases hx with rfl | rfl | rfl | rfl | rfl | rfl | rfl | rfl | rfl | rfl | rfl | rfl | rfl <;> rfl) (by decide) (by unfold maxLen; omega) (by omega) (by have := HP.out.bel.size; simp; omega) _ rfl ?_; intro g3 c3 W9 hown3 hgrow3 hat3 hlt3; have HP9 : Hid (PutA G w (.slice (some ⟨g3, 0, none⟩) (E.length + 1) c3) (E ++ [((⟨ac2, ar2, sq2, ds2, kd2, nc2, nr2, pc2, pr2, fc2, fr2, nm2, vl2⟩ : Ch), (Value.slice a2 ds2.length c2))]) W9) := (HP.out.below ((Below.refl _ W4).alloc (Nat.le_refl _) (.cells #[.int .i64 ac2, .int .i64 ar2, .int .i64 sq2, .slice a2 ds2.length c2, .int .i64 kd2, .int .i64 nc2, .int .i64 nr2, .int .i64 pc2, .int .i64 pr2, .int .i64 fc2, .int .i64 fr2, .string nm2, .string vl2] 34))).push hown3 hgrow3 (.inl (HG2.out.keep (KeepsS.of_below ((HP.out.below ((Below.refl _ W4).alloc (Nat.le_refl _) (.cells #[.int .i64 ac2, .int .i64 ar2, .int .i64 sq2, .slice a2 ds2.length c2, .int .i64 kd2, .int .i64 nc2, .int .i64 nr2, .int .i64 pc2, .int .i64 pr2, .int .i64 fc2, .int .i64 fr2, .string nm2, .string vl2] 34))).bel) HGl.out))) HZ2.out; clear hown3 hgrow3 hat3 hlt3 HP)
        go_roundw
        case rel => exact ⟨k + 1, _, by omega, by go_num, HP9, HS3⟩
        case measure => simp [intOf]; omega
      · have HS3 : Hid (E.map Prod.fst = lackL (L.take (k + 1)) kn) := by
          show _ = _
          rw [HNx.out, HS.out]; simp
        go_wp2
        go_roundw
        case rel => exact ⟨k + 1, E, by omega, by go_num, HP, HS3⟩
        case measure => simp [intOf]; omega
    · have HS3 : Hid (E.map Prod.fst = lackL L kn) := by
        show _ = _
        rw [HS.out, List.take_of_length_le (by omega)]
      go_wp2
      go_ret
      have hf := HP.out.firm (by omega)
      rw [HS3.out] at hf
      exact ⟨_, rfl, hf, HP.out.bel⟩

theorem IsH.takeS {w : World} {a : Option Addr} {c n : Nat} {L : List Ch} (h : IsH w (.slice a n c) L) {k : Nat} (hk : k ≤ L.length) : IsH w (.slice a k c) (L.take k) := by
  obtain ⟨a', c', e, h1, h2, h3⟩ := h
  cases e
  refine ⟨a, c, by rw [List.length_take, Nat.min_eq_left hk], by rw [List.length_take]; omega, by rw [List.length_take]; omega, ?_⟩
  rcases h3 with rfl | ⟨b, o, e, h3⟩
  · left; simp
  · refine .inr ⟨b, o, e, fun i hi => ?_⟩
    rw [List.getElem_take]
    exact h3 i (by rw [List.length_take] at hi; omega)

set_option maxRecDepth 100000 in
set_option maxHeartbeats 4000000 in
theorem refSince_any (G : Nat → Prop) (v : Value) (L : List Ch) (kv : Value) (kn : List Int) (most : Int) (w : World) (h1 : HFirm G w v L) (hkn : IsI w kv kn) (hll : L.length ≤ 4096) :
    Calls Tryz.prog 22 #[v, kv, .int .i64 most] w fun e w' => ∃ v', e = .returned (.tuple #[v', .bool (sinceR L kn most).2.1, .int .i64 (sinceR L kn most).2.2]) ∧ IsH w' v' (sinceR L kn most).1 ∧ Below w.heap.size w w' := by
  have HFm : Hid (HFirm G w v L) := h1
  obtain ⟨a1, c1, e1⟩ := h1.isH.form
  subst e1
  have HIk : Hid (IsI w kv kn) := hkn
  obtain ⟨ak, ck, ek⟩ := hkn.form
  subst ek
  have HDf : Hid (sinceR L kn most = if checkL kn ≠ 0 then ([], false, checkL kn) else if most < 1 then ([], false, 1) else ((lackL L kn).take most.toNat, decide (most < ((lackL L kn).length : Int)), 0)) := rfl
  have HCk : Hid (∀ W, Below w.heap.size w W → Calls Tryz.prog 26 #[.slice ak kn.length ck] W fun e w' => e = .returned (.int .i64 (checkL kn)) ∧ Below W.heap.size W w') := fun W hb => (refCheck_any _ kn W (HIk.out.below hb)).mono (fun e w' h => ⟨h.1, by first | exact h.2 | (rw [h.2]; exact Below.refl _ _)⟩)
  clear h1 hkn
  go_enter Tryz.func22, Tryz.ntmps22
  go_wp2_with fail
  refine (HCk.out _ (Below.refl _ _)).mono ?_
  rintro e W1 ⟨rfl, hb1⟩
  have HB1 : Hid (Below w.heap.size w W1) := hb1
  clear hb1
  by_cases hc : checkL kn = 0
  · rw [hc]
    by_cases hm : most < 1
    · have HSq : Hid (sinceR L kn most = ([], false, 1)) := by rw [HDf.out, if_neg (by simp [hc]), if_pos hm]; rfl
      clear HDf
      go_wp2
      (try simp only [Exit.inBlock, Exit.then])
      refine bodyPost_ret (results_tmp3 rfl _ _ _) rfl ?_
      exact ⟨_, by rw [HSq.out]; rfl, by rw [HSq.out]; exact IsH.non 0, HB1.out⟩
    · have HSq : Hid (sinceR L kn most = ((lackL L kn).take most.toNat, decide (most < ((lackL L kn).length : Int)), 0)) := by rw [HDf.out, if_neg (by simp [hc]), if_neg hm]; rfl
      clear HDf hc
      go_wp2_with fail
      refine (refAll_any G _ L _ kn _ (HFm.out.below HB1.out) (HIk.out.below HB1.out) hll).mono ?_
      rintro e W2 ⟨v2, rfl, hf2, hb2⟩
      have HB2 : Hid (Below w.heap.size w W2) := HB1.out.trans (hb2.mono HB1.out.size)
      have HH2 : Hid (IsH W2 v2 (lackL L kn)) := hf2.isH
      obtain ⟨a2, c2, rfl, hc2, hl2, _⟩ := hf2.isH
      clear hf2 hb2
      obtain ⟨mn, emn⟩ : ∃ m : Nat, (m : Int) = most := ⟨most.toNat, by omega⟩
      subst emn
      have HSq2 : Hid (sinceR L kn (mn : Int) = ((lackL L kn).take mn, decide ((mn : Int) < ((lackL L kn).length : Int)), 0)) := by have h := HSq.out; rw [Int.toNat_natCast] at h; exact h
      clear HSq
      by_cases hlt : mn < (lackL L kn).length
      · have HSq : Hid (sinceR L kn (mn : Int) = ((lackL L kn).take mn, true, 0)) := by have h := HSq2.out; rw [decide_eq_true (by omega)] at h; exact h
        have HT : Hid (IsH W2 (.slice a2 mn c2) ((lackL L kn).take mn)) := HH2.out.takeS (by omega)
        have q1 : mn ≤ c2 := by omega
        have q2 : (mn : Int) < ((lackL L kn).length : Int) := by omega
        have q3 : (0 : Int) ≤ (mn : Int) := by omega
        go_wp2
        (try simp only [Exit.inBlock, Exit.then])
        refine bodyPost_ret (results_tmp3 rfl _ _ _) rfl ?_
        exact ⟨_, by rw [HSq.out]; rfl, by rw [HSq.out]; exact HT.out, HB2.out⟩
      · have HSq : Hid (sinceR L kn (mn : Int) = (lackL L kn, false, 0)) := by have h := HSq2.out; rw [decide_eq_false (by omega), List.take_of_length_le (by omega)] at h; exact h
        have q2 : ¬ (mn : Int) < ((lackL L kn).length : Int) := by omega
        go_wp2
        (try simp only [Exit.inBlock, Exit.then])
        refine bodyPost_ret (results_tmp3 rfl _ _ _) rfl ?_
        exact ⟨_, by rw [HSq.out]; rfl, by rw [HSq.out]; exact HH2.out, HB2.out⟩
  · have HSq : Hid (sinceR L kn most = ([], false, checkL kn)) := by rw [HDf.out, if_pos hc]; rfl
    clear HDf
    generalize checkL kn = cc at *
    have hq : (cc == 0) = false := by rw [beq_eq_false_iff_ne]; exact hc
    have hq2 : (cc != 0) = true := by rw [bne_iff_ne]; exact hc
    go_wp2_with fail
    refine (HCk.out _ HB1.out).mono ?_
    rintro e W2 ⟨rfl, hb2⟩
    have HB2 : Hid (Below w.heap.size w W2) := HB1.out.trans (hb2.mono HB1.out.size)
    clear hb2
    go_wp2
    (try simp only [Exit.inBlock, Exit.then])
    refine bodyPost_ret (results_tmp3 rfl _ _ _) rfl ?_
    exact ⟨_, by rw [HSq.out]; rfl, by rw [HSq.out]; exact IsH.non 0, HB2.out⟩

end Go.Proofs.YtcnolipgmpjcbaaGreat

namespace Go.Proofs.YtcnolipgmpjcbaaGreat
open Go.RowKit
set_option linter.unusedVariables false
set_option linter.unusedSimpArgs false

set_option maxRecDepth 100000 in
set_option maxHeartbeats 8000000 in
theorem refSameCh_eq (ac ar sq : Int) (v1 v2 : Value) (kd nc nr pc pr fc fr : Int) (nm vl : ByteArray) (ds : List Int) (w : World) (h1 : IsI w v1 ds) (h2 : IsI w v2 ds) :
    Calls Tryz.prog 18 #[.agg #[.int .i64 ac, .int .i64 ar, .int .i64 sq, v1, .int .i64 kd, .int .i64 nc, .int .i64 nr, .int .i64 pc, .int .i64 pr, .int .i64 fc, .int .i64 fr, .string nm, .string vl], .agg #[.int .i64 ac, .int .i64 ar, .int .i64 sq, v2, .int .i64 kd, .int .i64 nc, .int .i64 nr, .int .i64 pc, .int .i64 pr, .int .i64 fc, .int .i64 fr, .string nm, .string vl]] w fun e w' => e = .returned (.bool true) ∧ Below w.heap.size w w' := by
  obtain ⟨a1, c1, e1⟩ := h1.form
  subst e1
  obtain ⟨a2, c2, e2⟩ := h2.form
  subst e2
  have K0 := KeptC.start w [.int .i64 ac, .int .i64 ar, .int .i64 sq, .slice a1 ds.length c1, .int .i64 kd, .int .i64 nc, .int .i64 nr, .int .i64 pc, .int .i64 pr, .int .i64 fc, .int .i64 fr, .string nm, .string vl] 34
  have M0 := KeptC.start (w.alloc (.cells #[.int .i64 ac, .int .i64 ar, .int .i64 sq, .slice a1 ds.length c1, .int .i64 kd, .int .i64 nc, .int .i64 nr, .int .i64 pc, .int .i64 pr, .int .i64 fc, .int .i64 fr, .string nm, .string vl] 34)) [.int .i64 ac, .int .i64 ar, .int .i64 sq, .slice a2 ds.length c2, .int .i64 kd, .int .i64 nc, .int .i64 nr, .int .i64 pc, .int .i64 pr, .int .i64 fc, .int .i64 fr, .string nm, .string vl] 34
  rw [show (w.alloc (.cells #[.int .i64 ac, .int .i64 ar, .int .i64 sq, .slice a1 ds.length c1, .int .i64 kd, .int .i64 nc, .int .i64 nr, .int .i64 pc, .int .i64 pr, .int .i64 fc, .int .i64 fr, .string nm, .string vl] 34)).heap.size = w.heap.size + 1 by simp] at M0
  have K1 := K0.step M0.2.2
  have H1 : Hid (IsI _ (.slice a1 ds.length c1) ds) := h1.below K1.2.2
  have H2 : Hid (IsI _ (.slice a2 ds.length c2) ds) := h2.below K1.2.2
  clear h1 h2
  go_enter Tryz.func18, Tryz.ntmps18
  go_wp2_with fail
  refine (sameI_any _ _ ds ds _ H1.out H2.out).mono ?_
  rintro e w1 ⟨rfl, hb1⟩
  have d0 : decide (ds = ds) = true := by simp
  rw [d0]
  have K2 := K1.step hb1
  have M2 := M0.step hb1
  obtain ⟨k_0, k_1, k_2, k_3, k_4, k_5, k_6, k_7, k_8, k_9, k_10, k_11, k_12⟩ := K2.all
  obtain ⟨m_0, m_1, m_2, m_3, m_4, m_5, m_6, m_7, m_8, m_9, m_10, m_11, m_12⟩ := M2.all
  have q1 : (nm.toList == nm.toList) = true := by simp
  have q2 : (vl.toList == vl.toList) = true := by simp
  go_wp2
  go_ret
  exact ⟨rfl, K2.2.2⟩

end Go.Proofs.YtcnolipgmpjcbaaGreat

namespace Go.Proofs.YtcnolipgmpjcbaaGreat
open Go.RowKit
set_option linter.unusedVariables false
set_option linter.unusedSimpArgs false

theorem rangeAt_below {w W : World} {b o : Nat} {c : Ch} {dv : Value} (h : w.rangeAt b o (chCells c dv)) (hb : Below w.heap.size w W) : W.rangeAt b o (chCells c dv) := fun j v hj => by
  have h0 := h 0 _ rfl
  have hlt : b < w.heap.size := by
    rcases Nat.lt_or_ge b w.heap.size with h' | h'
    · exact h'
    · simp [World.cell?, h'] at h0
  exact (hb.cell (p := ⟨b, o + j, none⟩) hlt).trans (h j v hj)

set_option maxRecDepth 100000 in
set_option maxHeartbeats 4000000 in
theorem sameAll_eq (v1 v2 : Value) (L : List Ch) (w : World) (h1 : IsH w v1 L) (h2 : IsH w v2 L) :
    Calls Tryz.prog 23 #[v1, v2] w fun e w' => e = .returned (.bool true) ∧ Below w.heap.size w w' := by
  obtain ⟨a1, c1, rfl, hc1, hl1, r1⟩ := h1
  obtain ⟨a2, c2, rfl, hc2, hl2, r2⟩ := h2
  have R1 : Hid (L = [] ∨ ∃ b o, a1 = some ⟨b, o, none⟩ ∧ ChsAt w b o L) := r1
  have R2 : Hid (L = [] ∨ ∃ b o, a2 = some ⟨b, o, none⟩ ∧ ChsAt w b o L) := r2
  have q : ((L.length : Int) != (L.length : Int)) = false := by simp
  clear r1 r2
  go_enter Tryz.func23, Tryz.ntmps23
  go_wp2
  go_loopw [5] (fun i wr => ∃ k : Nat, k ≤ L.length ∧ i = .int .i64 (k : Int) ∧ Below w.heap.size w wr) (fun i _ => L.length - (intOf i).toNat)
  case atStart => exact ⟨0, Nat.zero_le _, rfl, Below.refl _ _⟩
  case round =>
    obtain ⟨k, hk, rfl, hb⟩ := hrel
    by_cases hlt : k < L.length
    · obtain ⟨b1, o1, rfl, g1⟩ := R1.out.resolve_left (by intro e; subst e; simp at hlt)
      obtain ⟨b2, o2, rfl, g2⟩ := R2.out.resolve_left (by intro e; subst e; simp at hlt)
      obtain ⟨a3, c3, i3, hs3, x3⟩ := (g1 k hlt).open
      obtain ⟨a4, c4, i4, hs4, x4⟩ := (g2 k hlt).open
      have k1 : (k : Int) < (L.length : Int) := by omega
      have k0 : (0 : Int) ≤ (k : Int) := by omega
      generalize L[k] = c at *
      have X3 : Hid (w.rangeAt b1 (o1 + k * 13) (chCells c (.slice a3 c.deps.length c3))) := x3
      have X4 : Hid (w.rangeAt b2 (o2 + k * 13) (chCells c (.slice a4 c.deps.length c4))) := x4
      have I3 : Hid (IsI w (.slice a3 c.deps.length c3) c.deps) := i3
      have I4 : Hid (IsI w (.slice a4 c.deps.length c4) c.deps) := i4
      have HB : Hid (Below w.heap.size w wr) := hb
      have hsw := hb.size
      clear g1 g2 i3 i4 hs3 hs4 x3 x4 hb
      go_upto_region 6 with fail
      refine wp_region_held_drew (S := fun W' => Below w.heap.size w W') (by kernel_rfl) (below_drewN HB.out 1) (fun hHeld => ?_)
      obtain ⟨Ua0, eW⟩ : ∃ X, X = wr.drew := ⟨_, rfl⟩
      rw [← eW] at hHeld ⊢
      clear eW
      refine wpAnyH_take (i := 0) (oi := ⟨some 17, _, _, _, _, _⟩) (v := ?vax0) rfl (by kernel_rfl) (by kernel_rfl) (by kernel_rfl) (fun _ _ _ h => h) (Or.inl ⟨by rfl, ?hyax0⟩) hHeld ?restax0
      case hyax0 => (intro w hSw; (try dsimp only at hSw); go_simp; try with_reducible rfl)
      simp only [Act.put, List.setIfInBounds_toArray, List.set_cons_zero, List.set_cons_succ]
      refine wpAnyH_take (i := 1) (oi := ⟨some 18, _, _, _, _, _⟩) (v := ?vax1) rfl (by kernel_rfl) (by kernel_rfl) (by kernel_rfl) (fun _ _ _ h => h) (Or.inl ⟨by rfl, ?hyax1⟩) hHeld ?restax1
      case hyax1 => (intro w hSw; (try dsimp only at hSw); go_simp; try with_reducible rfl)
      simp only [Act.put, List.setIfInBounds_toArray, List.set_cons_zero, List.set_cons_succ]
      refine wpAnyH_take (i := 2) (oi := ⟨some 19, _, _, _, _, _⟩) (v := ?vax2) rfl (by kernel_rfl) (by kernel_rfl) (by kernel_rfl) (fun _ _ _ h => h) (Or.inl ⟨by rfl, ?hyax2⟩) hHeld ?restax2
      case hyax2 => (intro w hSw; (try dsimp only at hSw); go_simp; try with_reducible rfl)
      simp only [Act.put, List.setIfInBounds_toArray, List.set_cons_zero, List.set_cons_succ]
      refine wpAnyH_take (i := 3) (oi := ⟨some 20, _, _, _, _, _⟩) (v := .agg (chCells c (.slice a3 c.deps.length c3)).toArray) rfl (by kernel_rfl) (by kernel_rfl) (by kernel_rfl) (fun _ _ _ h => h) (yieldsIf_load_mid (by rfl) 34 (.tmp 19) rfl b1 (o1 + k * 13) rfl (chCells c (.slice a3 c.deps.length c3)) _ (fun W hS => rangeAt_below X3.out hS) Tryz.underlying34 rfl sizeChange) hHeld ?_
      simp only [Act.put, List.setIfInBounds_toArray, List.set_cons_zero, List.set_cons_succ]
      refine wpAnyH_take (i := 4) (oi := ⟨some 21, _, _, _, _, _⟩) (v := ?vax4) rfl (by kernel_rfl) (by kernel_rfl) (by kernel_rfl) (fun _ _ _ h => h) (Or.inl ⟨by rfl, ?hyax4⟩) hHeld ?restax4
      case hyax4 => (intro w hSw; (try dsimp only at hSw); go_simp; try with_reducible rfl)
      simp only [Act.put, List.setIfInBounds_toArray, List.set_cons_zero, List.set_cons_succ]
      refine wpAnyH_take (i := 5) (oi := ⟨some 22, _, _, _, _, _⟩) (v := ?vax5) rfl (by kernel_rfl) (by kernel_rfl) (by kernel_rfl) (fun _ _ _ h => h) (Or.inl ⟨by rfl, ?hyax5⟩) hHeld ?restax5
      case hyax5 => (intro w hSw; (try dsimp only at hSw); go_simp; try with_reducible rfl)
      simp only [Act.put, List.setIfInBounds_toArray, List.set_cons_zero, List.set_cons_succ]
      refine wpAnyH_take (i := 6) (oi := ⟨some 23, _, _, _, _, _⟩) (v := ?vax6) rfl (by kernel_rfl) (by kernel_rfl) (by kernel_rfl) (fun _ _ _ h => h) (Or.inl ⟨by rfl, ?hyax6⟩) hHeld ?restax6
      case hyax6 => (intro w hSw; (try dsimp only at hSw); go_simp; try with_reducible rfl)
      simp only [Act.put, List.setIfInBounds_toArray, List.set_cons_zero, List.set_cons_succ]
      refine wpAnyH_take (i := 7) (oi := ⟨some 24, _, _, _, _, _⟩) (v := .agg (chCells c (.slice a4 c.deps.length c4)).toArray) rfl (by kernel_rfl) (by kernel_rfl) (by kernel_rfl) (fun _ _ _ h => h) (yieldsIf_load_mid (by rfl) 34 (.tmp 23) rfl b2 (o2 + k * 13) rfl (chCells c (.slice a4 c.deps.length c4)) _ (fun W hS => rangeAt_below X4.out hS) Tryz.underlying34 rfl sizeChange) hHeld ?_
      simp only [Act.put, List.setIfInBounds_toArray, List.set_cons_zero, List.set_cons_succ]
      refine wpAnyH_ready (rs := [8]) (by kernel_rfl) (by simp) ?_
      refine AllReadyH.cons (o := ⟨some 25, _, _, _, _, _⟩) rfl (fun K hK => ?_) AllReadyH.nil
      go_simp
      refine (refSameCh_eq c.ac c.ar c.seq (.slice a3 c.deps.length c3) (.slice a4 c.deps.length c4) c.kind c.nc c.nr c.pc c.pr c.fc c.fr c.name c.value c.deps _ (I3.out.below hHeld) (I4.out.below hHeld)).mono ?_
      rintro e Va1 ⟨rfl, hb⟩
      (try go_wp2_with fail)
      refine hK.out _ _ (hHeld.trans (hb.mono hHeld.size)) (fun hHeld2 => ?_)
      clear hK K hHeld
      have hHeld := hHeld2
      clear hHeld2
      (try simp only [Act.put, List.setIfInBounds_toArray, List.set_cons_zero, List.set_cons_succ])
      clear hb
      refine wpAnyH_take (i := 9) (oi := ⟨some 26, _, _, _, _, _⟩) (v := ?va_8x9) rfl (by kernel_rfl) (by kernel_rfl) (by kernel_rfl) (fun _ _ _ h => h) (Or.inl ⟨by rfl, ?hya_8x9⟩) hHeld ?resta_8x9
      case hya_8x9 => (intro w hSw; (try dsimp only at hSw); go_simp; try with_reducible rfl)
      simp only [Act.put, List.setIfInBounds_toArray, List.set_cons_zero, List.set_cons_succ]
      refine wpAnyH_done (by kernel_rfl) ?_ _
      have HZ := hHeld
      clear hHeld
      go_wp2
      go_roundw
      case rel => exact ⟨k + 1, by omega, by go_num, HZ⟩
      case measure => simp [intOf]; omega
    · go_wp2
      go_ret
      exact ⟨rfl, hb⟩

end Go.Proofs.YtcnolipgmpjcbaaGreat

namespace Go.Proofs.YtcnolipgmpjcbaaGreat
open Go.RowKit
set_option linter.unusedVariables false
set_option linter.unusedSimpArgs false

theorem sinceR_len (L : List Ch) (kn : List Int) (most : Int) : (sinceR L kn most).1.length ≤ L.length := by
  have h : (lackL L kn).length ≤ L.length := List.length_filter_le _ _
  unfold sinceR
  split
  · simp
  · split
    · simp
    · simp only [List.length_take]; omega
theorem since_any (v : Value) (room : Int) (L : List Ch) (F : Nat → Prop) (kv : Value) (kn : List Int) (most : Int) (w : World) (h : LogV F w v room L) (hs : Srt L) (hl : L.length ≤ 4096) (hk : IsI w kv kn) :
    Calls Tryz.prog 21 #[v, kv, .int .i64 most] w fun e w' => ∃ v' E, e = .returned (.tuple #[v', .bool (sinceR L kn most).2.1, .int .i64 (sinceR L kn most).2.2]) ∧ E.map Prod.fst = (sinceR L kn most).1 ∧ OwnH w.heap.size w' v' E ∧ (∀ x ∈ E, OwnI w.heap.size w' x.2 x.1.deps ∧ Sized x.1 ∧ x.1.deps.length ≤ 17592186044416) ∧ Below w.heap.size w w' :=
  callsIn_wide.1 (since_in 5 (Nat.le_refl _) v room L F kv kn most w h hs hl hk)

set_option maxRecDepth 100000 in
set_option maxHeartbeats 4000000 in
theorem sinceLaw_any (v : Value) (l : List Ch) (kv : Value) (kn : List Int) (most : Int) (w : World) (h : IsH w v l) (hk : IsI w kv kn) (_ : (Lit.int .i64 most).wf = true) :
    Calls Tryz.prog 5 #[v, kv, .int .i64 most] w fun e w' => e = .returned (.bool true) ∧ Below w.heap.size w w' := by
  have HH : Hid (IsH w v l) := h
  have HIk : Hid (IsI w kv kn) := hk
  obtain ⟨a1, c1, e1⟩ := h.form
  subst e1
  obtain ⟨ak, ck, ek⟩ := hk.form
  subst ek
  clear h hk
  go_enter Tryz.func5, Tryz.ntmps5
  go_wp2_with fail
  refine (filled_any 50 _ l _ HH.out (by omega) (by omega)).mono ?_
  rintro e w1 ⟨lb, yv, F, G, rfl, hL, hG, hb1, hF1, hG1, hFG⟩
  have hlen : (fillL 50 l).length ≤ 50 := by have := fillL_room (room := 50) (by omega) l; omega
  have HGd : Hid (Good (fillL 50 l)) := fillL_good _ _
  generalize fillL 50 l = L at *
  obtain ⟨ay, cy, ey⟩ := hG.isH.form
  subst ey
  obtain ⟨W2, eW2⟩ : ∃ X, X = w1.alloc (.cells #[.int .i64 50, .slice ay L.length cy] 29) := ⟨_, rfl⟩
  obtain ⟨yb, eyb⟩ : ∃ b, b = w1.heap.size := ⟨_, rfl⟩
  have hb2 : Below w1.heap.size w1 W2 := by rw [eW2]; exact (Below.refl _ _).alloc (Nat.le_refl _) _
  have HY : Hid (W2.heap[yb]? = some (.cells #[.int .i64 50, .slice ay L.length cy] 29)) := by rw [eyb, eW2]; exact heap_alloc_new _ _
  have HL : Hid (LogOk F W2 lb 50 L) := hL.below hb2
  have HG : Hid (HFirm G W2 (.slice ay L.length cy) L) := hG.below hb2
  have HB : Hid (Below w.heap.size w W2) := hb1.trans (hb2.mono hb1.size)
  clear hL hG hb1 hF1 hG1 hFG hb2
  go_wp2_with fail
  rw [← eW2, ← eyb]
  clear eW2 eyb
  refine (since_any _ 50 L F _ kn most _ HL.out.v HGd.out.srt (by omega) (HIk.out.below HB.out)).mono ?_
  rintro e w3 ⟨sv, E, rfl, hE, hO, hD, hb3⟩
  have hsl := sinceR_len L kn most
  have hEl : E.length ≤ 50 := by
    have : E.length = (sinceR L kn most).1.length := by rw [← hE]; simp
    omega
  have H3 : Hid (IsH w3 sv (sinceR L kn most).1) := by
    rw [← hE]
    exact OwnH.isH hO (by omega) (fun x hx => ⟨(hD x hx).1.isI (hD x hx).2.2, (hD x hx).2.1⟩)
  have HG3 : Hid (HFirm G w3 (.slice ay L.length cy) L) := HG.out.below hb3
  have HB3 : Hid (Below w.heap.size w w3) := HB.out.trans (hb3.mono HB.out.size)
  have hY3 : w3.heap[yb]? = some (.cells #[.int .i64 50, .slice ay L.length cy] 29) := (hb3.block _ (row_lt HY.out)).trans HY.out
  obtain ⟨y0, y1, _, _⟩ := row2_cells hY3
  clear hE hO hD hb3 HG HB HY hY3 HL
  go_wp2_with fail
  refine (refSince_any G _ L _ kn most _ HG3.out (HIk.out.below HB3.out) (by omega)).mono ?_
  rintro e w4 ⟨v4, rfl, h4, hb4⟩
  have H4 : Hid (IsH w4 v4 (sinceR L kn most).1) := h4
  replace H3 : Hid (IsH w4 sv (sinceR L kn most).1) := H3.out.below hb4
  have HB4 : Hid (Below w.heap.size w w4) := HB3.out.trans (hb4.mono HB3.out.size)
  clear h4 hb4 HG3 HB3 y0 y1
  generalize (sinceR L kn most).2.1 = mo at *
  generalize (sinceR L kn most).2.2 = er at *
  go_wp2_with fail
  refine (sameAll_eq _ _ (sinceR L kn most).1 _ H3.out H4.out).mono ?_
  rintro e w5 ⟨rfl, hb5⟩
  have HB5 : Hid (Below w.heap.size w w5) := HB4.out.trans (hb5.mono HB4.out.size)
  have qm : (mo == mo) = true := by simp
  clear hb5 HB4 H3 H4
  go_wp2_with fail
  refine (awake_any _).mono ?_
  rintro e w6 ⟨rfl, hb6⟩
  have HB6 : Hid (Below w.heap.size w w6) := HB5.out.trans (hb6.mono HB5.out.size)
  clear hb6 HB5
  go_wp2
  go_ret
  exact ⟨rfl, HB6.out⟩

end Go.Proofs.YtcnolipgmpjcbaaGreat

namespace Go.Proofs.YtcnolipgmpjcbaaGreat
open Go.ChangeShapes Go.WideShapes Go.ChangeAt Go.RowKit
open Go.ChangeMaps (open_string shut_string)
set_option linter.unusedVariables false

set_option maxRecDepth 100000 in
theorem oplogSince_lifted (os : Os) (started : os.Started) (H : Type) (enc : TypeId × Value → H) :
    ReturnsInHanded {} Tryz.checked os 5 .any (Rows.oplogSinceSpec.pre6 enc Tryz.prog Tryz.f5 Rows.oplogSinceRow.domain false) (Rows.oplogSinceSpec.post enc Tryz.prog Tryz.f5 false true false false) := by
  refine returnsInHanded_of_change_sized (C := Tryz.checked) ownI started (by kernel_rfl) Tryz.func5
    (ChangeSpec.witness6 (enc := enc) (C := Tryz.checked) false ⟨#[], #[.slice none 0 0, .slice none 0 0, .int .i64 0], []⟩ 8 (by kernel_rfl) (by kernel_rfl) (by kernel_rfl) (by kernel_rfl)) ?_
  intro W base args ds gs before hval0 hW _ hsz0 _
  have hval : ∀ (j : Nat) t v, Tryz.f5.params[j]? = some t → args[j]? = some v → Value.okWide Tryz.prog W .any base t v := hval0
  have hW' := hW
  obtain ⟨p, q, hA0, hV, rfl, hfz, hnd⟩ := hW
  have hA : DataW.TrodAll enc Tryz.prog W 0 (fun _ => true) true Tryz.f5.params.toList args.toList ds p := hA0
  rw [Tryz.params5] at hA hval
  obtain ⟨v0, v1, v2, d0, d1, d2, p0, p1, p2, rfl, rfl, rfl, h0, h1, h2⟩ := trodAll_three hA
  obtain ⟨rfl, rfl⟩ := trodVars_none hV
  have hk0 := h0
  have hk1 := h1
  obtain ⟨D1, hf1, hd1⟩ := open_intsV (hval 1 32 v1 rfl rfl) h1
  obtain ⟨x2, rfl, rfl, rfl, wx2⟩ := open_int Tryz.underlying3 (hval 2 3 v2 rfl rfl) h2
  have hsz : (DataW.weightsEach Tryz.prog (Tryz.f5.params.toList ++ Rows.oplogSinceSpec.plain.varTypes Tryz.prog) (_ ++ _)).all (· ≤ reachBytes) = true := hsz0
  rw [Tryz.params5] at hsz
  have hw0 : ∀ n ∈ d0.weights Tryz.prog 22, n ≤ reachBytes := fun n hn => by
    have h1 := List.all_eq_true.1 hsz n (DataW.weights_mem_each (j := 0) rfl rfl n hn)
    simpa using h1
  obtain ⟨D0, is0, hl0⟩ := open_chsV (hval 0 22 v0 rfl rfl) h0 hw0
  have hlt0 : ∀ x ∈ p0, x.block < W.heap.size := fun x hx => by simpa using hW'.lt x (by simp [hx])
  have len1 : D1.length ≤ 17592186044416 := by
    rcases hd1 with ⟨_, rfl⟩ | ⟨els, sp, e, he⟩
    · simp
    · subst e
      have h1 := sized_slice hsz (j := 1) (t := 32) rfl rfl Tryz.underlying32
      have h2 : reachBytes ≤ 140737488355328 := by decide
      rw [bytesInt] at h1
      omega
  have is1 : IsI W v1 D1 := by obtain ⟨a, cap, e, h1, h2⟩ := hf1; exact ⟨a, cap, e, h1, len1, h2⟩
  have hlt1 : ∀ x ∈ p1, x.block < W.heap.size := fun x hx => by simpa using hW'.lt x (by simp [hx])
  clear hA0 hval0
  refine (sinceLaw_any v0 D0 v1 D1 x2 W is0 is1 wx2).mono fun e W' ⟨he, bel⟩ => ?_
  subst he
  exact ⟨_, rfl, _, _, _, [], _, [], hW', trodAll_mk1 (shut_bool Tryz.underlying4 _), trodAll_mk3 (Below.trod laidOutI (by kernel_rfl) (of_decide_eq_true (by kernel_rfl)) hk0 bel hlt0) (Below.trod laidOutI (by kernel_rfl) (of_decide_eq_true (by kernel_rfl)) hk1 bel hlt1) (shut_int Tryz.underlying3 wx2), rfl, bel.frame _, fun h => by cases h⟩

theorem oplogSince_holds : Rows.OplogSinceSaid :=
  OpenClaim.holds_of_wide 5 Tryz.f5 rfl rfl rfl rfl rfl rfl rfl ⟨rfl, rfl, rfl, rfl, rfl⟩ rfl rfl rfl rfl rfl (by kernel_rfl) Tryz.func5 (by kernel_rfl)
    (of_decide_eq_true (by kernel_rfl)) (by unfold Func.isWrapper; first | (rw [if_pos (by decide +kernel)]; kernel_rfl) | (rw [if_neg (by decide +kernel)]; exact ⟨rfl, rfl⟩))
    (fun os started H enc _ => oplogSince_lifted os started H enc)
#print axioms oplogSince_holds
end Go.Proofs.YtcnolipgmpjcbaaGreat
