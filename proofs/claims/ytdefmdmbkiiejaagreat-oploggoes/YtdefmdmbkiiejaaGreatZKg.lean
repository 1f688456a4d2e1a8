/- OplogGoes of package topiarylaw07 is proved at this commit: for every input (a list of changes, a list of numbers, a number, any) the call returns true and the arguments read as they did. No condition. -/
import Derived.Test.YtdefmdmbkiiejaaGreatOlA
import Derived.Test.YtdefmdmbkiiejaaGreatCkA
import Derived.Test.YtdefmdmbkiiejaaGreatOlV5
import Derived.Test.YtdefmdmbkiiejaaGreatZIg
import Derived.Test.YtdefmdmbkiiejaaGreatZGg
import Derived.Test.YtdefmdmbkiiejaaGreatZHg
import Derived.Test.YtdefmdmbkiiejaaGreatBaseO
namespace Go.Proofs.YtdefmdmbkiiejaaGreat
open Go.RowKit
set_option linter.unusedVariables false
set_option linter.unusedSimpArgs false

set_option maxRecDepth 100000 in
set_option maxHeartbeats 8000000 in
theorem refSameCh_eq (ac ar sq : Int) (v1 v2 : Value) (kd nc nr pc pr fc fr : Int) (nm vl : ByteArray) (ds : List Int) (w : World) (h1 : IsI w v1 ds) (h2 : IsI w v2 ds) :
    Calls Tryz.prog 18 #[.agg #[.int .i64 ac, .int .i64 ar, .int .i64 sq, v1, .int .i64 kd, .int .i64 nc, .int .i64 nr, .int .i64 pc, .int .i64 pr, .int .i64 fc, .int .i64 fr, .string nm, .string vl], .agg #[.int .i64 ac, .int .i64 ar, .int .i64 sq, v2, .int .i64 kd, .int .i64 nc, .int .i64 nr, .int .i64 pc, .int .i64 pr, .int .i64 fc, .int .i64 fr, .string nm, .string vl]] w fun e w' => e = .returned (.bool true) ∧ Below w.heap.size w w' := by
  obtain ⟨a1, c1, e1⟩ := h1.form
  subst e1
  obtain ⟨a2, c2, e2⟩ := h2.form
  subst e2
  have K0 := KeptC.start w [.int .i64 ac, .int .i64 ar, .int .i64 sq, .slice a1 ds.length c1, .int .i64 kd, .int .i64 nc, .int .i64 nr, .int .i64 pc, .int .i64 pr, .int .i64 fc, .int .i64 fr, .string nm, .string vl] 34
  have M0 := KeptC.start (w.alloc (.cells #[.int .i64 ac, .int .i64 ar, .int .i64 sq, .slice a1 ds.length c1, .int .i64 kd, .int .i64 nc, .int .i64 nr, .int .i64 pc, .int .i64 pr, .int .i64 fc, .int .i64 fr, .string nm, .string vl] 34)) [.int .i64 ac, .int .i64 ar, .int .i64 sq, .slice a2 ds.length c2, .int .i64 kd, .int .i64 nc, .int .i64 nr, .int .i64 pc, .int .i64 pr, .int .i64 fc, .int .i64 fr, .string nm, .string vl] 34
  rw [show (w.alloc (.cells #[.int .i64 ac, .int .i64 ar, .int .i64 sq, .slice a1 ds.length c1, .int .i64 kd, .int .i64 nc, .int .i64 nr, .int .i64 pc, .int .i64 pr, .int .i64 fc, .int .i64 fr, .string nm, .string vl] 34)).heap.size = w.heap.size + 1 by simp] at M0
  have K1 := K0.step M0.2.2
  have H1 : Hid (IsI _ (.slice a1 ds.length c1) ds) := h1.below K1.2.2
  have H2 : Hid (IsI _ (.slice a2 ds.length c2) ds) := h2.below K1.2.2
  clear h1 h2
  go_enter Tryz.func18, Tryz.ntmps18
  go_wp2_with fail
  refine (sameI_any _ _ ds ds _ H1.out H2.out).mono ?_
  rintro e w1 ⟨rfl, hb1⟩
  have d0 : decide (ds = ds) = true := by simp
  rw [d0]
  have K2 := K1.step hb1
  have M2 := M0.step hb1
  obtain ⟨k_0, k_1, k_2, k_3, k_4, k_5, k_6, k_7, k_8, k_9, k_10, k_11, k_12⟩ := K2.all
  obtain ⟨m_0, m_1, m_2, m_3, m_4, m_5, m_6, m_7, m_8, m_9, m_10, m_11, m_12⟩ := M2.all
  have q1 : (nm.toList == nm.toList) = true := by simp
  have q2 : (vl.toList == vl.toList) = true := by simp
  go_wp2
  go_ret
  exact ⟨rfl, K2.2.2⟩

end Go.Proofs.YtdefmdmbkiiejaaGreat

namespace Go.Proofs.YtdefmdmbkiiejaaGreat
open Go.RowKit
set_option linter.unusedVariables false
set_option linter.unusedSimpArgs false

def firstC : Ch := ⟨1, 0, 1, [], 1, 1, 0, 0, 0, 0, 0, ⟨#[112]⟩, ⟨#[]⟩⟩
theorem first_sized : Sized firstC := ⟨by decide, by decide⟩
theorem why_first : whyR [] 3 firstC = 0 := by decide +kernel
theorem why_first2 : whyR [firstC] 3 firstC = 5 := by decide +kernel
theorem add_first : addL [] 3 firstC = [firstC] := by unfold addL; rw [if_pos why_first]; rfl
theorem add_first2 : addL [firstC] 3 firstC = [firstC] := by unfold addL; rw [if_neg (by rw [why_first2]; decide)]

set_option maxRecDepth 100000 in
set_option maxHeartbeats 2000000 in
theorem first_any (w : World) : Calls Tryz.prog 25 #[] w fun e w' => e = .returned (chV firstC (.slice none 0 0)) ∧ Below w.heap.size w w' := by
  go_enter Tryz.func25, Tryz.ntmps25
  go_wp2
  (try simp only [Exit.inBlock, Exit.then])
  refine bodyPost_ret (v := chV firstC (.slice none 0 0)) ?res rfl ?post
  case res => exact results_cell_row rfl _ _ w.heap.size _ _ _ _ rfl ((Below.heap_alloc _ _ _ (by simp)).trans (heap_alloc_new w _)) Tryz.underlying34 rfl (by kernel_rfl)
  exact ⟨rfl, ((Below.refl _ _).alloc (Nat.le_refl _) _).alloc (by simp) _⟩

set_option maxRecDepth 100000 in
set_option maxHeartbeats 4000000 in
theorem awake_any (w : World) : Calls Tryz.prog 10 #[] w fun e w' => e = .returned (.bool true) ∧ Below w.heap.size w w' := by
  have HF : Hid (∀ W, Calls Tryz.prog 25 #[] W fun e w' => e = .returned (chV firstC (.slice none 0 0)) ∧ Below W.heap.size W w') := fun W => first_any W
  go_enter Tryz.func10, Tryz.ntmps10
  go_wp2_with fail
  refine (new_any 3 _).mono ?_
  rintro e w1 ⟨h, hb1⟩
  rcases h with ⟨h, _⟩ | ⟨_, lb, F, rfl, hL, hF⟩
  · omega
  have HL : Hid (LogOk F w1 lb 3 []) := hL
  have HB1 : Hid (Below w.heap.size w w1) := hb1
  have HFn : Hid (∀ k, F k → w.heap.size ≤ k) := hF
  clear hL hb1 hF
  go_wp2_with fail
  refine (HF.out _).mono ?_
  rintro e w2 ⟨rfl, hb2⟩
  replace HL : Hid (LogOk F w2 lb 3 []) := HL.out.below hb2
  have HB2 : Hid (Below w.heap.size w w2) := HB1.out.trans (hb2.mono HB1.out.size)
  clear hb2 HB1
  go_wp2_with fail
  refine (add_any F lb 3 [] firstC (.slice none 0 0) _ HL.out Good.none (by simp) (by omega) (IsI.non 0) first_sized).mono ?_
  rintro e w3 ⟨rfl, F3, hL3, hf1, hf2, ht⟩
  rw [why_first]
  rw [add_first] at hL3
  have HL3 : Hid (LogOk F3 w3 lb 3 [firstC]) := hL3
  have HB3 : Hid (Below w.heap.size w w3) := HB2.out.trans (ht.below HFn.out HB2.out.size)
  have HF3 : Hid (∀ k, F3 k → w.heap.size ≤ k) := fun k hk => by
    rcases hf2 k hk with h | h
    · exact HFn.out k h
    · exact Nat.le_trans HB2.out.size h
  clear hL3 hf1 hf2 ht HL HB2 HFn
  go_wp2_with fail
  refine (HF.out _).mono ?_
  rintro e w4 ⟨rfl, hb4⟩
  replace HL3 : Hid (LogOk F3 w4 lb 3 [firstC]) := HL3.out.below hb4
  have HB4 : Hid (Below w.heap.size w w4) := HB3.out.trans (hb4.mono HB3.out.size)
  clear hb4 HB3
  go_wp2_with fail
  refine (add_any F3 lb 3 [firstC] firstC (.slice none 0 0) _ HL3.out (by rw [← add_first]; exact addL_good Good.none 3 firstC) (by simp) (by omega) (IsI.non 0) first_sized).mono ?_
  rintro e w5 ⟨rfl, F5, hL5, hf1, hf2, ht⟩
  rw [why_first2]
  rw [add_first2] at hL5
  have HL5 : Hid (LogOk F5 w5 lb 3 [firstC]) := hL5
  have HB5 : Hid (Below w.heap.size w w5) := HB4.out.trans (ht.below HF3.out HB4.out.size)
  clear hL5 hf1 hf2 ht HL3 HB4 HF3
  go_wp2_with fail
  refine (len_any _ 3 [firstC] F5 _ HL5.out.v).mono ?_
  rintro e w6 ⟨rfl, hb6⟩
  have HL6 : Hid (LogOk F5 w6 lb 3 [firstC]) := HL5.out.below hb6
  have HB6 : Hid (Below w.heap.size w w6) := HB5.out.trans (hb6.mono HB5.out.size)
  clear hb6 HB5 HL5
  rw [show ((([firstC] : List Ch).length : Nat) : Int) = 1 from rfl]
  go_wp2_with fail
  refine (last_any _ 3 [firstC] F5 _ HL6.out.v (by simp)).mono ?_
  rintro e w7 ⟨rfl, hb7⟩
  have HB7 : Hid (Below w.heap.size w w7) := HB6.out.trans (hb7.mono HB6.out.size)
  clear hb7 HB6 HL6
  rw [show lastL [firstC] = 1 from rfl]
  go_wp2
  go_ret
  exact ⟨rfl, HB7.out⟩

end Go.Proofs.YtdefmdmbkiiejaaGreat

namespace Go.Proofs.YtdefmdmbkiiejaaGreat
open Go.RowKit
set_option linter.unusedVariables false
set_option linter.unusedSimpArgs false

theorem results_tmp_row {P : Program} {fn : Func} {p u : Tmp} {ty : TypeId} (h : fn.results = #[.tmp u, .cell p ty]) (tmps : Array Value) (w : World) (g : Nat) (t : TypeId) (cs : Array Value) (fr : Nat × Nat) (d : TypeDesc)
    (hp : tmps.getD p undef = .pointer (some ⟨g, 0, none⟩)) (hg : w.heap[g]? = some (.cells cs t fr))
    (hu : P.underlying ty = some d) (hd : (match d with | .struct _ | .array _ _ => true | _ => false) = true) (hi : (P.info? ty).map (·.size) = some cs.size) {k : Value} (hk : tmps.getD u undef = k) :
    (results fn tmps).run P w = .ok (.tuple #[k, .agg cs]) w := by
  have e : (results fn tmps).run P w = ((asAddr (tmps.getD p undef)).run P w).andThen fun a w₁ => ((loadVar ty a).run P w₁).andThen fun v w₂ => .ok (.tuple #[tmps.getD u undef, v]) w₂ := by
    simp only [results, h]
    simp [Sem.run_bind, Result.andThen]
  rw [e, hp, hk]
  simp [asAddr, run_loadVar_row w g t ty cs fr d hg hu hd hi]
/-- A log and the document's, whose box is yb, beside each other; the call's result lies at its first block. -/
structure Fil (w : World) (lb : Nat) (room : Int) (yb : Nat) (F G : Nat → Prop) (Lx Ly : List Ch) (yv : Value) (U : World) : Prop where
  log : LogOk F U lb room Lx
  firm : HFirm G U yv Ly
  ybox : U.heap[yb]? = some (.cells #[.int .i64 room, yv] 29)
  rbox : U.heap[w.heap.size]? = some (.cells #[.int .i64 0, .slice none 0 0] 29)
  bel : Below w.heap.size w U
  ff : ∀ k, F k → w.heap.size < k
  gw : ∀ k, G k → w.heap.size < k
  fg : ∀ k, G k → ¬ F k
  fy : ¬ F yb
  gy : ¬ G yb
  yw : w.heap.size < yb
section
variable {w : World} {lb : Nat} {room : Int} {yb : Nat} {F F' G : Nat → Prop} {Lx Lx' Ly Ly' : List Ch} {yv yv' : Value} {U U' : World}
theorem Fil.ne (h : Fil w lb room yb F G Lx Ly yv U) : yb ≠ w.heap.size := by have := h.yw; omega
theorem Fil.below (h : Fil w lb room yb F G Lx Ly yv U) (hb : Below U.heap.size U U') : Fil w lb room yb F G Lx Ly yv U' :=
  ⟨h.log.below hb, h.firm.below hb, (hb.block _ (row_lt h.ybox)).trans h.ybox, (hb.block _ (row_lt h.rbox)).trans h.rbox, h.bel.trans (hb.mono h.bel.size), h.ff, h.gw, h.fg, h.fy, h.gy, h.yw⟩
theorem Fil.add (h : Fil w lb room yb F G Lx Ly yv U) (hl : LogOk F' U' lb room Lx') (hf : ∀ k, F' k → F k ∨ U.heap.size ≤ k) (ht : Touch F U U') : Fil w lb room yb F' G Lx' Ly yv U' := by
  have hy := row_lt h.ybox
  have hr := row_lt h.rbox
  refine ⟨hl, h.firm.keep (ht.keeps fun k hk => ⟨h.firm.1 k hk, h.fg k hk⟩), (ht.block _ hy h.fy).trans h.ybox, (ht.block _ hr (fun hF => by have := h.ff _ hF; omega)).trans h.rbox, h.bel.trans (ht.below (fun k hk => by have := h.ff k hk; omega) h.bel.size), ?_, h.gw, ?_, ?_, h.gy, h.yw⟩
  · intro k hk
    rcases hf k hk with q | q
    · exact h.ff k q
    · omega
  · intro k hG hk
    rcases hf k hk with q | q
    · exact h.fg k hG q
    · have := h.firm.1 k hG; omega
  · intro hk
    rcases hf yb hk with q | q
    · exact h.fy q
    · omega
theorem Fil.put {N : Nat} (h : Fil w lb room yb F G Lx Ly yv U) (hf : HFirm (fun k => G k ∨ (N ≤ k ∧ k < U.heap.size)) U yv' Ly') (hy : yb < N) (hF : ∀ k, F k → k < N) :
    Fil w lb room yb F (fun k => G k ∨ (N ≤ k ∧ k < U.heap.size)) Lx Ly' yv' ((U.setCell ⟨yb, 0, none⟩ (.int .i64 room)).setCell ⟨yb, 1, none⟩ yv') := by
  have hyw := h.yw
  have far : ∀ k, k ≠ yb → ((U.setCell ⟨yb, 0, none⟩ (.int .i64 room)).setCell ⟨yb, 1, none⟩ yv').heap[k]? = U.heap[k]? := fun k hk => (RowKit.Below.heap_setCell _ _ _ _ hk).trans (RowKit.Below.heap_setCell _ _ _ _ hk)
  have hs : ((U.setCell ⟨yb, 0, none⟩ (.int .i64 room)).setCell ⟨yb, 1, none⟩ yv').heap.size = U.heap.size := by simp [World.setCell]
  refine ⟨h.log.keep ⟨Nat.le_of_eq hs.symm, fun k hk => far k (fun e => h.fy (e ▸ hk))⟩, hf.keep ⟨Nat.le_of_eq hs.symm, fun k hk => far k (fun e => ?_)⟩, row_set2 h.ybox, (far _ (by omega)).trans h.rbox, (h.bel.setCell (p := ⟨yb, 0, none⟩) (by show w.heap.size ≤ yb; omega) _).setCell (p := ⟨yb, 1, none⟩) (by show w.heap.size ≤ yb; omega) _, h.ff, ?_, ?_, h.fy, ?_, h.yw⟩
  · subst e
    rcases hk with q | q
    · exact h.gy q
    · omega
  · intro k hk
    rcases hk with q | q
    · exact h.gw k q
    · omega
  · intro k hk hFk
    rcases hk with q | q
    · exact h.fg k q hFk
    · have := hF k hFk; omega
  · intro hk
    rcases hk with q | q
    · exact h.gy q
    · omega
/-- What filled gives. -/
theorem Fil.last (h : Fil w lb room yb F G Lx Ly yv U) : LogOk F ((U.setCell ⟨w.heap.size, 0, none⟩ (.int .i64 room)).setCell ⟨w.heap.size, 1, none⟩ yv) lb room Lx ∧ HFirm G ((U.setCell ⟨w.heap.size, 0, none⟩ (.int .i64 room)).setCell ⟨w.heap.size, 1, none⟩ yv) yv Ly ∧ Below w.heap.size w ((U.setCell ⟨w.heap.size, 0, none⟩ (.int .i64 room)).setCell ⟨w.heap.size, 1, none⟩ yv) ∧ (∀ k, F k → w.heap.size ≤ k) ∧ (∀ k, G k → w.heap.size ≤ k) ∧ ∀ k, G k → ¬ F k := by
  have far : ∀ k, k ≠ w.heap.size → ((U.setCell ⟨w.heap.size, 0, none⟩ (.int .i64 room)).setCell ⟨w.heap.size, 1, none⟩ yv).heap[k]? = U.heap[k]? := fun k hk => (RowKit.Below.heap_setCell _ _ _ _ hk).trans (RowKit.Below.heap_setCell _ _ _ _ hk)
  have hs : ((U.setCell ⟨w.heap.size, 0, none⟩ (.int .i64 room)).setCell ⟨w.heap.size, 1, none⟩ yv).heap.size = U.heap.size := by simp [World.setCell]
  refine ⟨h.log.keep ⟨Nat.le_of_eq hs.symm, fun k hk => far k (fun e => by have := h.ff k hk; omega)⟩, h.firm.keep ⟨Nat.le_of_eq hs.symm, fun k hk => far k (fun e => by have := h.gw k hk; omega)⟩, (h.bel.setCell (p := ⟨w.heap.size, 0, none⟩) (Nat.le_refl _) _).setCell (p := ⟨w.heap.size, 1, none⟩) (Nat.le_refl _) _, fun k hk => Nat.le_of_lt (h.ff k hk), fun k hk => Nat.le_of_lt (h.gw k hk), h.fg⟩
end

set_option maxRecDepth 100000 in
set_option maxHeartbeats 8000000 in
theorem filled_any (room : Int) (v : Value) (l : List Ch) (w : World) (h : IsH w v l) (hr0 : 1 ≤ room) (hr1 : room ≤ 4096) :
    Calls Tryz.prog 15 #[.int .i64 room, v] w fun e w' => ∃ lb yv F G, e = .returned (.tuple #[.pointer (some ⟨lb, 0, none⟩), .agg #[.int .i64 room, yv]]) ∧ LogOk F w' lb room (fillL room l) ∧ HFirm G w' yv (fillL room l) ∧ Below w.heap.size w w' ∧ (∀ k, F k → w.heap.size ≤ k) ∧ (∀ k, G k → w.heap.size ≤ k) ∧ ∀ k, G k → ¬ F k := by
  obtain ⟨a1, c1, rfl, hc1, hl1, r1⟩ := h
  have HR : Hid (l = [] ∨ ∃ b o, a1 = some ⟨b, o, none⟩ ∧ ChsAt w b o l) := r1
  clear r1
  obtain ⟨W0, eW⟩ : ∃ X, X = w.alloc (.cells #[.int .i64 0, .slice none 0 0] 29) := ⟨_, rfl⟩
  have HR0 : Hid (W0.heap[w.heap.size]? = some (.cells #[.int .i64 0, .slice none 0 0] 29)) := by rw [eW]; exact heap_alloc_new _ _
  have hb0 : Below w.heap.size w W0 := by rw [eW]; exact (Below.refl _ _).alloc (Nat.le_refl _) _
  have hs0 : W0.heap.size = w.heap.size + 1 := by rw [eW]; simp
  go_enter Tryz.func15, Tryz.ntmps15
  go_wp2_with fail
  rw [← eW]
  clear eW
  refine (new_any room _).mono ?_
  rintro e w1 ⟨h, hb1⟩
  rcases h with ⟨h, _⟩ | ⟨_, lb, F, rfl, hL, hF⟩
  · omega
  obtain ⟨W2, eW2⟩ : ∃ X, X = w1.alloc (.cells #[.int .i64 room, .slice none 0 0] 29) := ⟨_, rfl⟩
  obtain ⟨yb, eyb⟩ : ∃ b, b = w1.heap.size := ⟨_, rfl⟩
  have hb2 : Below w1.heap.size w1 W2 := by rw [eW2]; exact (Below.refl _ _).alloc (Nat.le_refl _) _
  have HFl0 : Hid (Fil w lb room yb F (fun _ => False) (fillL room (l.take 0)) (fillL room (l.take 0)) (.slice none 0 0) W2) := by
    have hs1 := hb1.size
    refine ⟨hL.below hb2, HFirm.nil _, ?_, (hb2.block _ (by omega)).trans ((hb1.block _ (by omega)).trans HR0.out), hb0.trans ((hb1.mono (by omega)).trans (hb2.mono (by omega))), fun k hk => by have := hF k hk; omega, fun k hk => hk.elim, fun k hk => hk.elim, fun hk => ?_, fun hk => hk.elim, by omega⟩
    · rw [eyb, eW2]; exact heap_alloc_new _ _
    · have := hL.lt yb hk; omega
  clear hL hF hb1 HR0 hb0 hs0 hb2
  go_wp2
  rw [← eW2, ← eyb]
  clear eW2 eyb
  go_loopw [9] (fun i wr => ∃ (k : Nat) (F G : Nat → Prop) (yv : Value), k ≤ l.length ∧ i = .int .i64 (k : Int) ∧ Hid (Fil w lb room yb F G (fillL room (l.take k)) (fillL room (l.take k)) yv wr)) (fun i _ => l.length - (intOf i).toNat)
  case atStart => exact ⟨0, _, _, _, Nat.zero_le _, rfl, HFl0⟩
  case round =>
    obtain ⟨k, F, G, yv, hk, rfl, HFl⟩ := hrel
    by_cases hlt : k < l.length
    · obtain ⟨b1, o1, rfl, g1⟩ := HR.out.resolve_left (by intro e; subst e; simp at hlt)
      obtain ⟨a0, c0, i3, hs3, z⟩ := (g1 k hlt).all
      have hbb : b1 < w.heap.size := (g1 k hlt).lt
      have hc' : ∀ W', BelowH w W' → W'.cell? ⟨b1, o1 + k * 13, none⟩ = some (.int .i64 l[k].ac) ∧ W'.cell? ⟨b1, o1 + k * 13 + 1, none⟩ = some (.int .i64 l[k].ar) ∧ W'.cell? ⟨b1, o1 + k * 13 + 2, none⟩ = some (.int .i64 l[k].seq) ∧ W'.cell? ⟨b1, o1 + k * 13 + 3, none⟩ = some (.slice a0 l[k].deps.length c0) ∧ W'.cell? ⟨b1, o1 + k * 13 + 4, none⟩ = some (.int .i64 l[k].kind) ∧ W'.cell? ⟨b1, o1 + k * 13 + 5, none⟩ = some (.int .i64 l[k].nc) ∧ W'.cell? ⟨b1, o1 + k * 13 + 6, none⟩ = some (.int .i64 l[k].nr) ∧ W'.cell? ⟨b1, o1 + k * 13 + 7, none⟩ = some (.int .i64 l[k].pc) ∧ W'.cell? ⟨b1, o1 + k * 13 + 8, none⟩ = some (.int .i64 l[k].pr) ∧ W'.cell? ⟨b1, o1 + k * 13 + 9, none⟩ = some (.int .i64 l[k].fc) ∧ W'.cell? ⟨b1, o1 + k * 13 + 10, none⟩ = some (.int .i64 l[k].fr) ∧ W'.cell? ⟨b1, o1 + k * 13 + 11, none⟩ = some (.string l[k].name) ∧ W'.cell? ⟨b1, o1 + k * 13 + 12, none⟩ = some (.string l[k].value) := fun W' hb => by
        obtain ⟨z0, z1, z2, z3, z4, z5, z6, z7, z8, z9, z10, z11, z12⟩ := z
        exact ⟨(hb.cell (p := ⟨b1, o1 + k * 13, none⟩) hbb).trans z0, (hb.cell (p := ⟨b1, o1 + k * 13 + 1, none⟩) hbb).trans z1, (hb.cell (p := ⟨b1, o1 + k * 13 + 2, none⟩) hbb).trans z2, (hb.cell (p := ⟨b1, o1 + k * 13 + 3, none⟩) hbb).trans z3, (hb.cell (p := ⟨b1, o1 + k * 13 + 4, none⟩) hbb).trans z4, (hb.cell (p := ⟨b1, o1 + k * 13 + 5, none⟩) hbb).trans z5, (hb.cell (p := ⟨b1, o1 + k * 13 + 6, none⟩) hbb).trans z6, (hb.cell (p := ⟨b1, o1 + k * 13 + 7, none⟩) hbb).trans z7, (hb.cell (p := ⟨b1, o1 + k * 13 + 8, none⟩) hbb).trans z8, (hb.cell (p := ⟨b1, o1 + k * 13 + 9, none⟩) hbb).trans z9, (hb.cell (p := ⟨b1, o1 + k * 13 + 10, none⟩) hbb).trans z10, (hb.cell (p := ⟨b1, o1 + k * 13 + 11, none⟩) hbb).trans z11, (hb.cell (p := ⟨b1, o1 + k * 13 + 12, none⟩) hbb).trans z12⟩
      have k1 : (k : Int) < (l.length : Int) := by omega
      have k0 : (0 : Int) ≤ (k : Int) := by omega
      have HFs : Hid (fillL room (l.take (k + 1)) = addL (fillL room (l.take k)) room l[k]) := by
        have e := fillL_snoc room (l.take k) l[k]
        rw [← List.take_succ_eq_append_getElem hlt] at e
        exact e
      have hroom : ((fillL room (l.take k)).length : Int) ≤ room := fillL_room (by omega) _
      have HGd : Hid (Good (fillL room (l.take k))) := fillL_good _ _
      obtain ⟨⟨ac, ar, sq, ds, kd, nc, nr, pc, pr, fc, fr, nm, vl⟩, hc⟩ : ∃ c, c = l[k] := ⟨_, rfl⟩
      rw [← hc] at i3 hs3 hc' HFs
      simp only at hc'
      have HIc : Hid (IsI w (.slice a0 ds.length c0) ds) := i3
      have HSz : Hid (Sized (⟨ac, ar, sq, ds, kd, nc, nr, pc, pr, fc, fr, nm, vl⟩ : Ch)) := hs3
      have HC : Hid (∀ W', BelowH w W' → W'.cell? ⟨b1, o1 + k * 13, none⟩ = some (.int .i64 ac) ∧ W'.cell? ⟨b1, o1 + k * 13 + 1, none⟩ = some (.int .i64 ar) ∧ W'.cell? ⟨b1, o1 + k * 13 + 2, none⟩ = some (.int .i64 sq) ∧ W'.cell? ⟨b1, o1 + k * 13 + 3, none⟩ = some (.slice a0 ds.length c0) ∧ W'.cell? ⟨b1, o1 + k * 13 + 4, none⟩ = some (.int .i64 kd) ∧ W'.cell? ⟨b1, o1 + k * 13 + 5, none⟩ = some (.int .i64 nc) ∧ W'.cell? ⟨b1, o1 + k * 13 + 6, none⟩ = some (.int .i64 nr) ∧ W'.cell? ⟨b1, o1 + k * 13 + 7, none⟩ = some (.int .i64 pc) ∧ W'.cell? ⟨b1, o1 + k * 13 + 8, none⟩ = some (.int .i64 pr) ∧ W'.cell? ⟨b1, o1 + k * 13 + 9, none⟩ = some (.int .i64 fc) ∧ W'.cell? ⟨b1, o1 + k * 13 + 10, none⟩ = some (.int .i64 fr) ∧ W'.cell? ⟨b1, o1 + k * 13 + 11, none⟩ = some (.string nm) ∧ W'.cell? ⟨b1, o1 + k * 13 + 12, none⟩ = some (.string vl)) := hc'
      obtain ⟨p_0, p_1, p_2, p_3, p_4, p_5, p_6, p_7, p_8, p_9, p_10, p_11, p_12⟩ := HC.out _ HFl.out.bel
      generalize fillL room (l.take k) = L at *
      clear hc i3 hs3 g1 z hc'
      go_wp2_with fail
      refine (add_any F lb room L (⟨ac, ar, sq, ds, kd, nc, nr, pc, pr, fc, fr, nm, vl⟩ : Ch) (.slice a0 ds.length c0) _ HFl.out.log HGd.out hroom hr1 (HIc.out.below HFl.out.bel) HSz.out).mono ?_
      rintro e w3 ⟨rfl, F3, hL3, hf1, hf2, ht⟩
      rw [← HFs.out] at hL3
      have HF3 : Hid (Fil w lb room yb F3 G (fillL room (l.take (k + 1))) L yv w3) := HFl.out.add hL3 hf2 ht
      generalize whyR L room (⟨ac, ar, sq, ds, kd, nc, nr, pc, pr, fc, fr, nm, vl⟩ : Ch) = we
      clear hL3 hf1 hf2 ht HFl HGd p_0 p_1 p_2 p_3 p_4 p_5 p_6 p_7 p_8 p_9 p_10 p_11 p_12
      obtain ⟨F, eF⟩ : ∃ F', F' = F3 := ⟨_, rfl⟩
      obtain ⟨Lx, eLx⟩ : ∃ X, X = fillL room (l.take (k + 1)) := ⟨_, rfl⟩
      obtain ⟨Ly, eLy⟩ : ∃ X, X = L := ⟨_, rfl⟩
      rw [← eF, ← eLx, ← eLy] at HF3
      obtain ⟨ay, cy, ey⟩ := HF3.out.firm.isH.form
      rw [ey] at HF3
      have HFl : Hid (Fil w lb room yb F G Lx Ly (.slice ay Ly.length cy) w3) := HF3
      have HBw : Hid (BelowH w w3) := HF3.out.bel
      have hly : Ly.length ≤ 4096 := by rw [eLy]; omega
      have HLL : Hid (fillL room (l.take (k + 1)) = addL Ly room (⟨ac, ar, sq, ds, kd, nc, nr, pc, pr, fc, fr, nm, vl⟩ : Ch)) := by rw [eLy]; exact HFs.out
      have HLx : Hid (Lx = fillL room (l.take (k + 1))) := eLx
      clear HF3 eF eLx eLy ey HFs hroom
      go_upto_region 7 with fail
      refine wp_region_held_drew (S := fun W' => BelowH w W') (by kernel_rfl) (BelowH.below HBw.out (Below.refl _ _).drew) (fun hHeld => ?_)
      obtain ⟨Ua3u0, eW⟩ : ∃ X, X = w3.drew := ⟨_, rfl⟩
      have hb : Below w3.heap.size w3 Ua3u0 := by rw [eW]; exact (Below.refl _ _).drew
      replace HFl : Hid (Fil w lb room yb F G Lx Ly (.slice ay Ly.length cy) Ua3u0) := HFl.out.below hb
      replace HBw : Hid (BelowH w Ua3u0) := HBw.out.below hb
      rw [← eW] at hHeld ⊢
      clear eW hb
      refine wpAnyH_take (i := 1) (oi := ⟨some 31, _, _, _, _, _⟩) (v := ?va3ux1) rfl (by kernel_rfl) (by kernel_rfl) (by kernel_rfl) (fun _ _ _ h => h) (Or.inl ⟨by rfl, ?hya3ux1⟩) hHeld ?resta3ux1
      case hya3ux1 => (intro w _; go_simp; try with_reducible rfl)
      simp only [Act.put, List.setIfInBounds_toArray, List.set_cons_zero, List.set_cons_succ]
      refine wpAnyH_take (i := 2) (oi := ⟨some 32, _, _, _, _, _⟩) (v := ?va3ux2) rfl (by kernel_rfl) (by kernel_rfl) (by kernel_rfl) (fun _ _ _ h => h) (Or.inl ⟨by rfl, ?hya3ux2⟩) hHeld ?resta3ux2
      case hya3ux2 => (intro w _; go_simp; try with_reducible rfl)
      simp only [Act.put, List.setIfInBounds_toArray, List.set_cons_zero, List.set_cons_succ]
      refine wpAnyH_take (i := 3) (oi := ⟨some 33, _, _, _, _, _⟩) (v := ?va3ux3) rfl (by kernel_rfl) (by kernel_rfl) (by kernel_rfl) (fun _ _ _ h => h) (Or.inl ⟨by rfl, ?hya3ux3⟩) hHeld ?resta3ux3
      case hya3ux3 => (intro w hSw; (try dsimp only at hSw); have hk := hSw; obtain ⟨p_0, p_1, p_2, p_3, p_4, p_5, p_6, p_7, p_8, p_9, p_10, p_11, p_12⟩ := HC.out _ hk; go_simp; try with_reducible rfl)
      simp only [Act.put, List.setIfInBounds_toArray, List.set_cons_zero, List.set_cons_succ]
      refine wpAnyH_take (i := 4) (oi := ⟨some 34, _, _, _, _, _⟩) (v := ?va3ux4) rfl (by kernel_rfl) (by kernel_rfl) (by kernel_rfl) (fun _ _ _ h => h) (Or.inl ⟨by rfl, ?hya3ux4⟩) hHeld ?resta3ux4
      case hya3ux4 => (intro w hSw; (try dsimp only at hSw); have hk := hSw; obtain ⟨p_0, p_1, p_2, p_3, p_4, p_5, p_6, p_7, p_8, p_9, p_10, p_11, p_12⟩ := HC.out _ hk; go_simp; try with_reducible rfl)
      simp only [Act.put, List.setIfInBounds_toArray, List.set_cons_zero, List.set_cons_succ]
      refine wpAnyH_ready (rs := [0]) (by kernel_rfl) (by simp) ?_
      refine AllReadyH.cons (o := ⟨some 30, _, _, _, _, _⟩) rfl (fun K hK => ?_) AllReadyH.nil
      obtain ⟨x_0, x_1, _, _⟩ := row2_cells HFl.out.ybox
      go_simp
      refine hK.out _ _ (hHeld) (fun hHeld2 => ?_)
      clear hK K hHeld
      have hHeld := hHeld2
      clear hHeld2
      (try simp only [Act.put, List.setIfInBounds_toArray, List.set_cons_zero, List.set_cons_succ])
      clear x_0 x_1
      refine wpAnyH_ready (rs := [5]) (by kernel_rfl) (by simp) ?_
      refine AllReadyH.cons (o := ⟨some 35, _, _, _, _, _⟩) rfl (fun K hK => ?_) AllReadyH.nil
      have hyb : yb < Ua3u0.heap.size := row_lt HFl.out.ybox
      have HFk : Hid (∀ k, F k → k < Ua3u0.heap.size) := HFl.out.log.lt
      go_simp
      refine (refAdd_any G _ Ly room ac ar sq (.slice a0 ds.length c0) kd nc nr pc pr fc fr nm vl ds Ua3u0 HFl.out.firm (HIc.out.below HBw.out) HSz.out hly).mono ?_
      rintro e Ua3u2 ⟨v6, rfl, hf6, hb⟩
      (try go_wp2_with fail)
      refine hK.out _ _ (BelowH.below hHeld hb) (fun hHeld2 => ?_)
      clear hK K hHeld
      have hHeld := hHeld2
      clear hHeld2
      (try simp only [Act.put, List.setIfInBounds_toArray, List.set_cons_zero, List.set_cons_succ])
      replace HFl : Hid (Fil w lb room yb F G Lx Ly (.slice ay Ly.length cy) Ua3u2) := HFl.out.below hb
      replace HBw : Hid (BelowH w Ua3u2) := HBw.out.below hb
      obtain ⟨a6, c6, e6⟩ := hf6.isH.form
      subst e6
      have HF6 : Hid (HFirm (fun k => G k ∨ (Ua3u0.heap.size ≤ k ∧ k < Ua3u2.heap.size)) Ua3u2 (.slice a6 (addL Ly room (⟨ac, ar, sq, ds, kd, nc, nr, pc, pr, fc, fr, nm, vl⟩ : Ch)).length c6) (addL Ly room (⟨ac, ar, sq, ds, kd, nc, nr, pc, pr, fc, fr, nm, vl⟩ : Ch))) := hf6
      clear hf6
      clear hb
      refine wpAnyH_take (i := 6) (oi := ⟨some 29, _, _, _, _, _⟩) (v := ?va3u_0_5x6) rfl (by kernel_rfl) (by kernel_rfl) (by kernel_rfl) (fun _ _ _ h => h) (Or.inl ⟨by rfl, ?hya3u_0_5x6⟩) hHeld ?resta3u_0_5x6
      case hya3u_0_5x6 => (intro w _; go_simp; try with_reducible rfl)
      simp only [Act.put, List.setIfInBounds_toArray, List.set_cons_zero, List.set_cons_succ]
      refine wpAnyH_take (i := 7) (oi := ⟨some 36, _, _, _, _, _⟩) (v := ?va3u_0_5x7) rfl (by kernel_rfl) (by kernel_rfl) (by kernel_rfl) (fun _ _ _ h => h) (Or.inl ⟨by rfl, ?hya3u_0_5x7⟩) hHeld ?resta3u_0_5x7
      case hya3u_0_5x7 => (intro w _; go_simp; try with_reducible rfl)
      simp only [Act.put, List.setIfInBounds_toArray, List.set_cons_zero, List.set_cons_succ]
      refine wpAnyH_take (i := 8) (oi := ⟨some 37, _, _, _, _, _⟩) (v := ?va3u_0_5x8) rfl (by kernel_rfl) (by kernel_rfl) (by kernel_rfl) (fun _ _ _ h => h) (Or.inl ⟨by rfl, ?hya3u_0_5x8⟩) hHeld ?resta3u_0_5x8
      case hya3u_0_5x8 => (intro w _; go_simp; try with_reducible rfl)
      simp only [Act.put, List.setIfInBounds_toArray, List.set_cons_zero, List.set_cons_succ]
      refine wpAnyH_ready (rs := [9]) (by kernel_rfl) (by simp) ?_
      refine AllReadyH.cons (o := ⟨none, _, _, _, _, _⟩) rfl (fun K hK => ?_) AllReadyH.nil
      obtain ⟨r_0, r_1, r_2, r_3⟩ := row2_cells HFl.out.ybox
      go_simp
      refine hK.out _ _ ((HFl.out.put HF6.out hyb HFk.out).bel) (fun hHeld2 => ?_)
      clear hK K hHeld
      have hHeld := hHeld2
      clear hHeld2
      (try simp only [Act.put, List.setIfInBounds_toArray, List.set_cons_zero, List.set_cons_succ])
      have HFl9 : Hid (Fil w lb room yb F (fun k => G k ∨ (Ua3u0.heap.size ≤ k ∧ k < Ua3u2.heap.size)) Lx (addL Ly room (⟨ac, ar, sq, ds, kd, nc, nr, pc, pr, fc, fr, nm, vl⟩ : Ch)) (.slice a6 (addL Ly room (⟨ac, ar, sq, ds, kd, nc, nr, pc, pr, fc, fr, nm, vl⟩ : Ch)).length c6) ((Ua3u2.setCell ⟨yb, 0, none⟩ (.int .i64 room)).setCell ⟨yb, 1, none⟩ (.slice a6 (addL Ly room (⟨ac, ar, sq, ds, kd, nc, nr, pc, pr, fc, fr, nm, vl⟩ : Ch)).length c6))) := HFl.out.put HF6.out hyb HFk.out
      clear r_0 r_1 r_2 r_3 HFl HF6
      refine wpAnyH_done (by kernel_rfl) ?_ _
      clear hHeld
      go_wp2
      go_roundw
      case rel => exact ⟨k + 1, _, _, _, by omega, by go_num, (by have e2 := HLL.out; have e3 : Lx = addL Ly room (⟨ac, ar, sq, ds, kd, nc, nr, pc, pr, fc, fr, nm, vl⟩ : Ch) := HLx.out.trans e2; rw [e2]; rw [e3] at HFl9; exact HFl9)⟩
      case measure => simp [intOf]; omega
    · have hkl : k = l.length := by omega
      subst hkl
      rw [List.take_length] at HFl
      obtain ⟨Ly, eLy⟩ : ∃ X, X = fillL room l := ⟨_, rfl⟩
      rw [← eLy] at HFl
      obtain ⟨Lx, eLx⟩ : ∃ X, X = Ly := ⟨_, rfl⟩
      obtain ⟨ay, cy, ey⟩ := HFl.out.firm.isH.form
      subst ey
      have HLy : Hid (fillL room l = Ly) := eLy.symm
      clear eLy
      rw [show Fil w lb room yb F G Ly Ly = Fil w lb room yb F G Lx Ly by rw [eLx]] at HFl
      have HLx : Hid (Lx = Ly) := eLx
      clear eLx hlt
      go_upto_region 8 with fail
      refine wp_region_held_drew (S := fun W' => W'.heap[yb]? = some (.cells #[.int .i64 room, .slice ay Ly.length cy] 29)) (by kernel_rfl) HFl.out.ybox (fun hHeld => ?_)
      obtain ⟨Ub4u0, eW⟩ : ∃ X, X = wr.drew := ⟨_, rfl⟩
      have hb : Below wr.heap.size wr Ub4u0 := by rw [eW]; exact (Below.refl _ _).drew
      replace HFl : Hid (Fil w lb room yb F G Lx Ly (.slice ay Ly.length cy) Ub4u0) := HFl.out.below hb
      rw [← eW] at hHeld ⊢
      clear eW hb
      refine wpAnyH_take (i := 0) (oi := ⟨some 38, _, _, _, _, _⟩) (v := ?vb4ux0) rfl (by kernel_rfl) (by kernel_rfl) (by kernel_rfl) (fun _ _ _ h => h) (Or.inl ⟨by rfl, ?hyb4ux0⟩) hHeld ?restb4ux0
      case hyb4ux0 => (intro w _; go_simp; try with_reducible rfl)
      simp only [Act.put, List.setIfInBounds_toArray, List.set_cons_zero, List.set_cons_succ]
      refine wpAnyH_take (i := 1) (oi := ⟨some 39, _, _, _, _, _⟩) (v := ?vb4ux1) rfl (by kernel_rfl) (by kernel_rfl) (by kernel_rfl) (fun _ _ _ h => h) (Or.inl ⟨by rfl, ?hyb4ux1⟩) hHeld ?restb4ux1
      case hyb4ux1 => (intro w hSw; (try dsimp only at hSw); have hk := hSw; obtain ⟨x_0, x_1, _, _⟩ := row2_cells hk; go_simp; try with_reducible rfl)
      simp only [Act.put, List.setIfInBounds_toArray, List.set_cons_zero, List.set_cons_succ]
      refine wpAnyH_take (i := 2) (oi := ⟨some 4, _, _, _, _, _⟩) (v := ?vb4ux2) rfl (by kernel_rfl) (by kernel_rfl) (by kernel_rfl) (fun _ _ _ h => h) (Or.inl ⟨by rfl, ?hyb4ux2⟩) hHeld ?restb4ux2
      case hyb4ux2 => (intro w _; go_simp; try with_reducible rfl)
      simp only [Act.put, List.setIfInBounds_toArray, List.set_cons_zero, List.set_cons_succ]
      refine wpAnyH_ready (rs := [3]) (by kernel_rfl) (by simp) ?_
      refine AllReadyH.cons (o := ⟨none, _, _, _, _, _⟩) rfl (fun K hK => ?_) AllReadyH.nil
      obtain ⟨r_0, r_1, r_2, r_3⟩ := row2_cells HFl.out.rbox
      go_simp
      refine hK.out _ _ (row_set_other (row_set_other hHeld HFl.out.ne) HFl.out.ne) (fun hHeld2 => ?_)
      clear hK K hHeld
      have hHeld := hHeld2
      clear hHeld2
      (try simp only [Act.put, List.setIfInBounds_toArray, List.set_cons_zero, List.set_cons_succ])
      have HE := HFl.out.last
      have HSm : Hid (((Ub4u0.setCell ⟨w.heap.size, 0, none⟩ (.int .i64 room)).setCell ⟨w.heap.size, 1, none⟩ (.slice ay Ly.length cy)).heap[w.heap.size]? = some (.cells #[.int .i64 room, .slice ay Ly.length cy] 29)) := row_set2 HFl.out.rbox
      clear r_0 r_1 r_2 r_3
      refine wpAnyH_done (by kernel_rfl) ?_ _
      clear hHeld
      have HE2 : Hid (_ ∧ _) := HE
      clear HE
      go_wp2
      (try simp only [Exit.inBlock, Exit.then])
      refine bodyPost_ret (v := .tuple #[.pointer (some ⟨lb, 0, none⟩), .agg #[.int .i64 room, .slice ay Ly.length cy]]) ?res rfl ?post
      case res => exact results_tmp_row rfl _ _ w.heap.size _ _ _ _ rfl HSm.out Tryz.underlying29 rfl (by kernel_rfl) rfl
      obtain ⟨q1, q2, q3⟩ := HE2.out
      rw [HLx.out] at q1
      refine ⟨lb, _, F, G, rfl, ?_, ?_, q3⟩
      · rw [HLy.out]; exact q1
      · rw [HLy.out]; exact q2

end Go.Proofs.YtdefmdmbkiiejaaGreat

namespace Go.Proofs.YtdefmdmbkiiejaaGreat
open Go.RowKit
set_option linter.unusedVariables false
set_option linter.unusedSimpArgs false

/-- A row of changes that the call made itself, whose clocks are old ones of G, or own copies. -/
structure PutA (G : Nat → Prop) (w : World) (v : Value) (E : List (Ch × Value)) (U : World) : Prop where
  own : OwnH w.heap.size U v E
  dep : ∀ x ∈ E, (IsG G U x.2 x.1.deps ∨ OwnI w.heap.size U x.2 x.1.deps) ∧ Sized x.1 ∧ x.1.deps.length ≤ 17592186044416
  bel : Below w.heap.size w U
  gl : ∀ k, G k → k < w.heap.size
section
variable {G : Nat → Prop} {w : World} {v ov : Value} {E : List (Ch × Value)} {U U' : World}
theorem PutA.below (h : PutA G w v E U) (hb : Below U.heap.size U U') : PutA G w v E U' :=
  ⟨h.own.below hb, fun x hx => ⟨(h.dep x hx).1.imp (fun q => q.keep (KeepsS.of_below hb (fun k hk => Nat.lt_of_lt_of_le (h.gl k hk) h.bel.size))) (fun q => q.below hb), (h.dep x hx).2⟩, h.bel.trans (hb.mono h.bel.size), h.gl⟩
theorem PutA.push (h : PutA G w ov E U) {c : Ch} {dv v : Value} (hown : U'.ownsRow w.heap.size 34 13 v (E.length + 1) (flatH E ++ chCells c dv)) (hg : U.grownBy U' ov.ownBlock) (hd : IsG G U dv c.deps ∨ OwnI w.heap.size U dv c.deps) (hs : Sized c ∧ c.deps.length ≤ 17592186044416) :
    PutA G w v (E ++ [(c, dv)]) U' := by
  have hrow : ∀ j, ov.ownBlock = some j → w.heap.size ≤ j := fun j e => (World.ownsRow.lt h.own j e).1
  have dkeep : ∀ (d : Value) (l : List Int), (IsG G U d l ∨ OwnI w.heap.size U d l) → (IsG G U' d l ∨ OwnI w.heap.size U' d l) := fun d l hq => hq.imp
    (fun q => q.keep (KeepsS.of_grown hg (fun k hk => Nat.lt_of_lt_of_le (h.gl k hk) h.bel.size) (fun r e hS => by have := hrow r e; have := h.gl r hS; omega)))
    (fun q => OwnI.keepF q fun k e => hg.block k (World.ownsRow.lt q k e).2 (fun e2 => ownsRow_apart q h.own (by decide) k e e2.symm))
  refine ⟨OwnH.snoc hown, fun x hx => ?_, h.bel.grown hg h.bel.size (fun j e => by have := hrow j e; omega), h.gl⟩
  rcases List.mem_append.1 hx with hx | hx
  · exact ⟨dkeep _ _ (h.dep x hx).1, (h.dep x hx).2⟩
  · rw [List.mem_singleton] at hx
    subst hx
    exact ⟨dkeep _ _ hd, hs⟩
theorem PutA.firm (h : PutA G w v E U) (hl : E.length ≤ 281474976710656) : HFirm (fun k => G k ∨ (w.heap.size ≤ k ∧ k < U.heap.size)) U v (E.map Prod.fst) := by
  have h0 := h.own
  refine ⟨fun k hk => hk.elim (fun q => Nat.lt_of_lt_of_le (h.gl k q) h.bel.size) (fun q => q.2), ?_⟩
  rcases h.own.2 with ⟨rfl, hn⟩ | ⟨g, cap, cur, rfl, hg, hc, hcap, rest⟩
  · have e : E = [] := List.eq_nil_of_length_eq_zero hn
    subst e
    exact ⟨none, 0, rfl, Nat.le_refl _, by simp, .inl rfl⟩
  · refine ⟨_, cap, by simp, by simpa using hcap, by simpa using hl, .inr ⟨g, 0, rfl, .inr ⟨by omega, (Array.getElem?_eq_some_iff.1 hc).1⟩, fun i hi => ?_⟩⟩
    have hi' : i < E.length := by simpa using hi
    rw [show (E.map Prod.fst)[i] = E[i].1 by simp]
    have hd := h.dep _ (List.getElem_mem hi')
    refine ⟨E[i].2, fun j u hj => ?_, ?_, hd.2.1⟩
    · have hj2 : j < 13 := (List.getElem?_eq_some_iff.1 hj).1
      rw [show 0 + i * 13 + j = i * 13 + j by omega]
      exact (World.ownsRow.cellAt h0 (i * 13 + j) (by omega)).trans (flatH_get E i hi' j u hj)
    · rcases hd.1 with q | q
      · exact q.mono fun k hk => .inl hk
      · exact IsG.own q hd.2.2 fun k h1 h2 => .inr ⟨by omega, h2⟩
end

set_option maxRecDepth 100000 in
set_option maxHeartbeats 8000000 in
theorem refAll_any (G : Nat → Prop) (v : Value) (L : List Ch) (kv : Value) (kn : List Int) (w : World) (h1 : HFirm G w v L) (hkn : IsI w kv kn) (hll : L.length ≤ 4096) :
    Calls Tryz.prog 27 #[v, kv] w fun e w' => ∃ v', e = .returned v' ∧ HFirm (fun k => G k ∨ (w.heap.size ≤ k ∧ k < w'.heap.size)) w' v' (lackL L kn) ∧ Below w.heap.size w w' := by
  obtain ⟨i0, hi, hz0, hz1, hz2⟩ := info_parts infoChange
  have HGl : Hid (∀ k, G k → k < w.heap.size) := h1.1
  obtain ⟨a1, c1, rfl, hc1, h1⟩ := h1.one
  have H1 : Hid (∀ i (hi : i < L.length), ∃ b o a2 e2, a1 = some ⟨b, o, none⟩ ∧ IsG G w (.slice a2 L[i].deps.length e2) L[i].deps ∧ Sized L[i] ∧ ∀ W', KeepsS G w W' → ∀ j u, (chCells L[i] (.slice a2 L[i].deps.length e2))[j]? = some u → W'.cell? ⟨b, o + i * 13 + j, none⟩ = some u) := h1
  have HIk : Hid (IsI w kv kn) := hkn
  obtain ⟨ak, ck, ek⟩ := hkn.form
  subst ek
  obtain ⟨W0, eW⟩ : ∃ X, X = w.alloc (.cells #[] 34) := ⟨_, rfl⟩
  have HP0 : Hid (PutA G w (.slice (some ⟨w.heap.size, 0, none⟩) 0 0) [] W0) := by
    refine ⟨?_, fun x hx => by simp at hx, ?_, HGl.out⟩
    · rw [eW]; exact World.ownsRow_made w (e := 34) (size := 13) (base := w.heap.size) #[] 0 (Nat.le_refl _) (by unfold maxLen; omega) (by simp)
    · rw [eW]; exact (Below.refl _ _).alloc (Nat.le_refl _) _
  clear h1 hkn
  go_enter Tryz.func27, Tryz.ntmps27
  go_wp2
  rw [← eW]
  clear eW
  go_loopw [5, 6] (fun ov iv wr => ∃ (k : Nat) (E : List (Ch × Value)), k ≤ L.length ∧ iv = .int .i64 (k : Int) ∧ Hid (PutA G w ov E wr) ∧ Hid (E.map Prod.fst = lackL (L.take k) kn)) (fun _ iv _ => L.length - (intOf iv).toNat)
  case atStart => exact ⟨0, [], Nat.zero_le _, rfl, HP0, (rfl : ([] : List Ch) = _)⟩
  case round =>
    obtain ⟨k, E, hk, rfl, HP, HS⟩ := hrel
    obtain ⟨aw, cw, eo⟩ := HP.out.own.form
    subst eo
    have hEl : E.length ≤ 4096 := by
      have h2 := congrArg List.length HS.out
      have h3 : (lackL (L.take k) kn).length ≤ (L.take k).length := List.length_filter_le _ _
      rw [List.length_map] at h2
      rw [List.length_take] at h3
      omega
    by_cases hlt : k < L.length
    · have hnx := lack_next (kn := kn) hlt
      obtain ⟨b1, o1, a2, c2, rfl, hg2, hz2', hcl⟩ := H1.out k hlt
      have k1 : (k : Int) < (L.length : Int) := by omega
      have k0 : (0 : Int) ≤ (k : Int) := by omega
      obtain ⟨⟨ac2, ar2, sq2, ds2, kd2, nc2, nr2, pc2, pr2, fc2, fr2, nm2, vl2⟩, ec2⟩ : ∃ c, c = L[k] := ⟨_, rfl⟩
      rw [← ec2] at hg2 hz2' hcl hnx
      have HG2 : Hid (IsG G w (Value.slice a2 ds2.length c2) ds2) := hg2
      have HZ2 : Hid (Sized (⟨ac2, ar2, sq2, ds2, kd2, nc2, nr2, pc2, pr2, fc2, fr2, nm2, vl2⟩ : Ch) ∧ ds2.length ≤ 17592186044416) := ⟨hz2', by obtain ⟨_, _, _, _, h, _⟩ := hg2; exact h⟩
      have HC : Hid (∀ W', Below w.heap.size w W' → W'.cell? ⟨b1, o1 + k * 13, none⟩ = some (.int .i64 ac2) ∧ W'.cell? ⟨b1, o1 + k * 13 + 1, none⟩ = some (.int .i64 ar2) ∧ W'.cell? ⟨b1, o1 + k * 13 + 2, none⟩ = some (.int .i64 sq2) ∧ W'.cell? ⟨b1, o1 + k * 13 + 3, none⟩ = some (.slice a2 ds2.length c2) ∧ W'.cell? ⟨b1, o1 + k * 13 + 4, none⟩ = some (.int .i64 kd2) ∧ W'.cell? ⟨b1, o1 + k * 13 + 5, none⟩ = some (.int .i64 nc2) ∧ W'.cell? ⟨b1, o1 + k * 13 + 6, none⟩ = some (.int .i64 nr2) ∧ W'.cell? ⟨b1, o1 + k * 13 + 7, none⟩ = some (.int .i64 pc2) ∧ W'.cell? ⟨b1, o1 + k * 13 + 8, none⟩ = some (.int .i64 pr2) ∧ W'.cell? ⟨b1, o1 + k * 13 + 9, none⟩ = some (.int .i64 fc2) ∧ W'.cell? ⟨b1, o1 + k * 13 + 10, none⟩ = some (.int .i64 fr2) ∧ W'.cell? ⟨b1, o1 + k * 13 + 11, none⟩ = some (.string nm2) ∧ W'.cell? ⟨b1, o1 + k * 13 + 12, none⟩ = some (.string vl2)) := fun W' hb => chAll (hcl W' (KeepsS.of_below hb HGl.out))
      obtain ⟨wb, hwb⟩ : ∃ b, b = withinB (⟨ac2, ar2, sq2, ds2, kd2, nc2, nr2, pc2, pr2, fc2, fr2, nm2, vl2⟩ : Ch) kn := ⟨_, rfl⟩
      rw [← hwb] at hnx
      have HWb : Hid (withinB (⟨ac2, ar2, sq2, ds2, kd2, nc2, nr2, pc2, pr2, fc2, fr2, nm2, vl2⟩ : Ch) kn = wb) := hwb.symm
      have HNx : Hid (lackL (L.take (k + 1)) kn = lackL (L.take k) kn ++ (if wb = true then [] else [(⟨ac2, ar2, sq2, ds2, kd2, nc2, nr2, pc2, pr2, fc2, fr2, nm2, vl2⟩ : Ch)])) := hnx
      obtain ⟨p_0, p_1, p_2, p_3, p_4, p_5, p_6, p_7, p_8, p_9, p_10, p_11, p_12⟩ := HC.out _ HP.out.bel
      clear ec2 hg2 hz2' hcl hnx hwb
      go_wp2_with fail
      refine (refWithin_any ac2 ar2 sq2 (.slice a2 ds2.length c2) kd2 nc2 nr2 pc2 pr2 fc2 fr2 nm2 vl2 ds2 (.slice ak kn.length ck) kn _ (HIk.out.below HP.out.bel)).mono ?_
      rintro e W4 ⟨rfl, hb4⟩
      rw [HWb.out]
      replace HP : Hid (PutA G w (.slice aw E.length cw) E W4) := HP.out.below hb4
      clear hb4 p_0 p_1 p_2 p_3 p_4 p_5 p_6 p_7 p_8 p_9 p_10 p_11 p_12
      cases wb
      · have HS3 : Hid ((E ++ [((⟨ac2, ar2, sq2, ds2, kd2, nc2, nr2, pc2, pr2, fc2, fr2, nm2, vl2⟩ : Ch), (Value.slice a2 ds2.length c2))]).map Prod.fst = lackL (L.take (k + 1)) kn) := by
          show _ = _
          rw [HNx.out, List.map_append, HS.out]; rfl
        obtain ⟨p_0, p_1, p_2, p_3, p_4, p_5, p_6, p_7, p_8, p_9, p_10, p_11, p_12⟩ := HC.out _ HP.out.bel
        go_wp2_with (at_builtin; refine wpList_append_lies _ rfl _ _ 22 rfl w.heap.size 34 i0 (.agg #[.int .i64 0, .int .i64 0, .int .i64 0, .slice none 0 0, .int .i64 0, .int .i64 0, .int .i64 0, .int .i64 0, .int .i64 0, .int .i64 0, .int .i64 0, .string ⟨#[]⟩, .string ⟨#[]⟩]) 13 136 Tryz.underlying22 hi hz0 hz1 hz2 rfl (by decide) (Value.slice aw E.length cw) E.length (flatH E) rfl (HP.out.below ((Below.refl _ W4).alloc (Nat.le_refl _) (.cells #[.int .i64 ac2, .int .i64 ar2, .int .i64 sq2, .slice a2 ds2.length c2, .int .i64 kd2, .int .i64 nc2, .int .i64 nr2, .int .i64 pc2, .int .i64 pr2, .int .i64 fc2, .int .i64 fr2, .string nm2, .string vl2] 34))).own ⟨W4.heap.size, 0, none⟩ 1 1 [.int .i64 ac2, .int .i64 ar2, .int .i64 sq2, .slice a2 ds2.length c2, .int .i64 kd2, .int .i64 nc2, .int .i64 nr2, .int .i64 pc2, .int .i64 pr2, .int .i64 fc2, .int .i64 fr2, .string nm2, .string vl2] rfl rfl (RowHas.new W4 [.int .i64 ac2, .int .i64 ar2, .int .i64 sq2, .slice a2 ds2.length c2, .int .i64 kd2, .int .i64 nc2, .int .i64 nr2, .int .i64 pc2, .int .i64 pr2, .int .i64 fc2, .int .i64 fr2, .string nm2, .string vl2] 34).2 (fun x hx => by simp at hx; rcases hx with rfl | rfl | rfl | rfl | rfl | rfl | rfl | rfl | rfl | rfl | rfl | rfl | rfl <;> rfl) (by decide) (by unfold maxLen; omega) (by omega) (by have := HP.out.bel.size; simp; omega) _ rfl ?_; intro g3 c3 W9 hown3 hgrow3 hat3 hlt3; have HP9 : Hid (PutA G w (.slice (some ⟨g3, 0, none⟩) (E.length + 1) c3) (E ++ [((⟨ac2, ar2, sq2, ds2, kd2, nc2, nr2, pc2, pr2, fc2, fr2, nm2, vl2⟩ : Ch), (Value.slice a2 ds2.length c2))]) W9) := (HP.out.below ((Below.refl _ W4).alloc (Nat.le_refl _) (.cells #[.int .i64 ac2, .int .i64 ar2, .int .i64 sq2, .slice a2 ds2.length c2, .int .i64 kd2, .int .i64 nc2, .int .i64 nr2, .int .i64 pc2, .int .i64 pr2, .int .i64 fc2, .int .i64 fr2, .string nm2, .string vl2] 34))).push hown3 hgrow3 (.inl (HG2.out.keep (KeepsS.of_below ((HP.out.below ((Below.refl _ W4).alloc (Nat.le_refl _) (.cells #[.int .i64 ac2, .int .i64 ar2, .int .i64 sq2, .slice a2 ds2.length c2, .int .i64 kd2, .int .i64 nc2, .int .i64 nr2, .int .i64 pc2, .int .i64 pr2, .int .i64 fc2, .int .i64 fr2, .string nm2, .string vl2] 34))).bel) HGl.out))) HZ2.out; clear hown3 hgrow3 hat3 hlt3 HP)
        go_roundw
        case rel => exact ⟨k + 1, _, by omega, by go_num, HP9, HS3⟩
        case measure => simp [intOf]; omega
      · have HS3 : Hid (E.map Prod.fst = lackL (L.take (k + 1)) kn) := by
          show _ = _
          rw [HNx.out, HS.out]; simp
        go_wp2
        go_roundw
        case rel => exact ⟨k + 1, E, by omega, by go_num, HP, HS3⟩
        case measure => simp [intOf]; omega
    · have HS3 : Hid (E.map Prod.fst = lackL L kn) := by
        show _ = _
        rw [HS.out, List.take_of_length_le (by omega)]
      go_wp2
      go_ret
      have hf := HP.out.firm (by omega)
      rw [HS3.out] at hf
      exact ⟨_, rfl, hf, HP.out.bel⟩

end Go.Proofs.YtdefmdmbkiiejaaGreat

namespace Go.Proofs.YtdefmdmbkiiejaaGreat
open Go.RowKit Go.Shelf
set_option linter.unusedVariables false
set_option linter.unusedSimpArgs false

attribute [local go_sem] Oper.semAt_some

def HasG (W : World) (b : Nat) (cs : Array Value) (t : TypeId) : Prop := W.heap[b]? = some (.cells cs t)

set_option maxRecDepth 100000 in
set_option maxHeartbeats 16000000 in
theorem goesLaw_in (n : Nat) (hn : 8 ≤ n) (v : Value) (l : List Ch) (kv : Value) (kn : List Int) (st : Int) (w : World) (h : IsH w v l) (hk : IsI w kv kn) :
    CallsIn Fence.wide n Tryz.prog 6 #[v, kv, .int .i64 st] w fun e w' => e = .returned (.bool true) ∧ Below w.heap.size w w' := by
  have hro : Fence.wide.round = none := rfl
  have h1n : 1 ≤ n := by omega
  have HH : Hid (IsH w v l) := h
  have HIk : Hid (IsI w kv kn) := hk
  have hkl : kn.length ≤ 17592186044416 := by obtain ⟨_, _, _, _, hl, _⟩ := hk; exact hl
  obtain ⟨a1, c1, e1⟩ := h.form
  subst e1
  obtain ⟨ak, ck, ek⟩ := hk.form
  subst ek
  clear h hk
  obtain ⟨W0, eW0⟩ : ∃ X, X = (w.alloc (.cells #[.int .i64 st] 3)).alloc (.cells #[.bool false] 4) := ⟨_, rfl⟩
  obtain ⟨br, ebr⟩ : ∃ b, b = w.heap.size + 1 := ⟨_, rfl⟩
  obtain ⟨bs, ebs⟩ : ∃ b, b = w.heap.size := ⟨_, rfl⟩
  have HB0 : Hid (Below w.heap.size w W0) := by rw [eW0]; exact ((Below.refl _ _).alloc (Nat.le_refl _) _).alloc (by simp) _
  have HZ0 : Hid (W0.heap.size = w.heap.size + 2 ∧ br = w.heap.size + 1 ∧ bs = w.heap.size) := ⟨by rw [eW0]; simp, ebr, ebs⟩
  have HBs0 : Hid (Boxed W0 bs 3 (.int .i64 st)) := by rw [eW0, ebs]; exact (Boxed.new w 3 (.int .i64 st)).alloc _
  have HBr0 : Hid (Boxed W0 br 4 (.bool false)) := by
    rw [eW0, ebr]
    have := Boxed.new (w.alloc (.cells #[.int .i64 st] 3)) 4 (.bool false)
    rw [show (w.alloc (.cells #[.int .i64 st] 3)).heap.size = w.heap.size + 1 by simp] at this
    exact this
  refine callsIn_of_wp_marks Tryz.func6 rfl trivial ?_ hro
  simp only [Tryz.ntmps6, List.size_toArray, List.length_cons, List.length_nil, Nat.reduceAdd, Nat.reduceSub, Array.replicate_succ, Array.replicate_zero, List.push_toArray, List.append_toArray, List.nil_append, List.cons_append]
  gi_wp2_with fail
  refine ⟨trivial, ?_⟩
  rw [← eW0, ← ebr, ← ebs]
  clear eW0 ebr ebs
  refine (callsIn_wide.2 (filled_any 50 _ l W0 (HH.out.below HB0.out) (by omega) (by omega))).mono ?_
  rintro e w1 ⟨lb, yv, F, G, rfl, hL, hG, hb1, hF1, hG1, hFG⟩
  have hlen : (fillL 50 l).length ≤ 50 := by have := fillL_room (room := 50) (by omega) l; omega
  have HGd : Hid (Good (fillL 50 l)) := fillL_good _ _
  generalize fillL 50 l = L at *
  obtain ⟨ay, cy, ey⟩ := hG.isH.form
  subst ey
  obtain ⟨mb, ord, own, D, hL⟩ := hL
  have HL1 : Hid (LogIs F w1 lb 50 L mb ord own D) := hL
  have HG1 : Hid (HFirm G w1 (.slice ay L.length cy) L) := hG
  have HB1 : Hid (Below W0.heap.size W0 w1) := hb1
  have HFG : Hid (∀ k, F k → W0.heap.size ≤ k ∧ ¬ G k) := fun k hk => ⟨hF1 k hk, fun h2 => hFG k h2 hk⟩
  clear hL hG hb1 hF1 hG1 hFG HH
  have hb3 : Below w1.heap.size w1 ((w1.alloc (.cells #[.int .i64 50, .slice ay L.length cy] 29)).alloc (.cells #[] 3)) := ((Below.refl _ _).alloc (Nat.le_refl _) _).alloc (by simp) _
  have HVa : Hid (IsI ((w1.alloc (.cells #[.int .i64 50, .slice ay L.length cy] 29)).alloc (.cells #[] 3)) (.slice ak kn.length ck) kn) := (HIk.out.below (HB0.out.trans (HB1.out.mono HB0.out.size))).below hb3
  have HO : Hid (((w1.alloc (.cells #[.int .i64 50, .slice ay L.length cy] 29)).alloc (.cells #[] 3)).ownsRow (w1.heap.size + 1) 3 1 (.slice (some ⟨w1.heap.size + 1, 0, none⟩) 0 0) 0 []) := by
    show World.ownsRow _ _ _ _ _ _ _
    have := OwnI.empty (w1.alloc (.cells #[.int .i64 50, .slice ay L.length cy] 29)) (w1.heap.size + 1) (by simp)
    simpa [OwnI, cellsI] using this
  gi_wp2_with (gi_at_builtin; refine wpListIn_append_I _ rfl _ _ rfl (w1.heap.size + 1) (.slice (some ⟨w1.heap.size + 1, 0, none⟩) 0 0) rfl HO.out _ kn rfl HVa.out (by simp <;> omega) ?_; intro v3 w3 hown3 hgrow3; have HO3 : Hid (OwnI (w1.heap.size + 1) w3 v3 kn) := hown3; have HG3 : Hid (((w1.alloc (.cells #[.int .i64 50, .slice ay L.length cy] 29)).alloc (.cells #[] 3)).grownBy w3 (some (w1.heap.size + 1))) := hgrow3; clear hown3 hgrow3)
  have HW3 : Hid (Below w1.heap.size w1 w3) := hb3.grown HG3.out (by simp; omega) (fun j e => by cases e; exact Nat.le_succ _)
  have HY3 : Hid (HasG w3 w1.heap.size #[.int .i64 50, .slice ay L.length cy] 29) := by
    have h1 : HasG ((w1.alloc (.cells #[.int .i64 50, .slice ay L.length cy] 29)).alloc (.cells #[] 3)) w1.heap.size #[.int .i64 50, .slice ay L.length cy] 29 := (Below.heap_alloc _ _ _ (by simp)).trans (heap_alloc_new w1 _)
    exact (HG3.out.block _ (by simp; omega) (fun e => by injection e with e; omega)).trans h1
  have HI3 : Hid (IsI w3 v3 kn) := OwnI.isI HO3.out hkl
  obtain ⟨ao, co, eo, hgo⟩ := OwnI.given HO3.out
  subst eo
  have HGo3 : Hid (GivenI (w1.heap.size + 1) w3.heap.size w3 ao kn.length) := hgo
  have HZ3 : Hid (w1.heap.size + 2 ≤ w3.heap.size) := by have := HG3.out.size; simp at this; exact this
  clear hgo HO3 HG3 hb3 HVa HO
  refine ⟨trivial, ?_⟩
  refine (callsIn_wide.2 (each_any lb 50 L F mb ord own D _ kn w3 (HL1.out.below HW3.out) HGd.out.srt (by omega) HI3.out)).mono ?_
  rintro e w5 ⟨ve, rfl, hbx, hOe, hb5⟩
  obtain ⟨E, eE⟩ : ∃ E, E = if checkL kn = 0 then lackE D L kn else [] := ⟨_, rfl⟩
  rw [← eE] at hOe
  have HE : Hid (E = if checkL kn = 0 then lackE D L kn else []) := eE
  obtain ⟨yb, eyb⟩ : ∃ b, b = w1.heap.size := ⟨_, rfl⟩
  obtain ⟨be, ebe⟩ : ∃ b, b = w3.heap.size := ⟨_, rfl⟩
  have hZ : bs = w.heap.size ∧ br = w.heap.size + 1 ∧ W0.heap.size = w.heap.size + 2 ∧ W0.heap.size ≤ yb ∧ yb + 2 ≤ be ∧ be < w5.heap.size := ⟨HZ0.out.2.2, HZ0.out.2.1, HZ0.out.1, by rw [eyb]; exact HB1.out.size, by rw [eyb, ebe]; exact HZ3.out, by rw [ebe]; exact hbx.lt⟩
  have HZ : Hid _ := hZ
  have HX5 : Hid (Boxed w5 be 22 ve) := by rw [ebe]; exact hbx
  have HO5 : Hid (OwnH (be + 1) w5 ve E) := by rw [ebe]; exact hOe
  have HL5 : Hid (LogIs F w5 lb 50 L mb ord own D) := (HL1.out.below HW3.out).below hb5
  have HG5 : Hid (HFirm G w5 (.slice ay L.length cy) L) := (HG1.out.below HW3.out).below hb5
  have HY5 : Hid (HasG w5 yb #[.int .i64 50, .slice ay L.length cy] 29) := by rw [eyb]; exact (hb5.block _ (by have := HZ3.out; omega)).trans HY3.out
  have HGo5 : Hid (GivenI (yb + 1) be w5 ao kn.length) := by rw [eyb, ebe]; exact HGo3.out.below hb5
  have HW13 : Hid (Below W0.heap.size W0 w5) := HB1.out.trans ((HW3.out.trans (hb5.mono HW3.out.size)).mono HB1.out.size)
  have HBs5 : Hid (Boxed w5 bs 3 (.int .i64 st)) := (HW13.out.block _ (by have := HZ0.out; omega)).trans HBs0.out
  have HBr5 : Hid (Boxed w5 br 4 (.bool false)) := (HW13.out.block _ (by have := HZ0.out; omega)).trans HBr0.out
  have HB5 : Hid (Below w.heap.size w w5) := HB0.out.trans (HW13.out.mono HB0.out.size)
  have HFl : Hid (∀ k, F k → W0.heap.size ≤ k ∧ k < yb ∧ ¬ G k) := fun k hk => ⟨(HFG.out k hk).1, by rw [eyb]; exact HL1.out.lt k hk, (HFG.out k hk).2⟩
  have HGl : Hid (∀ k, G k → k < yb) := fun k hk => by rw [eyb]; exact HG1.out.1 k hk
  have en := eql_nilFunc w3.heap.size
  rw [← eyb]
  rw [← ebe] at en ⊢
  clear hbx hOe hb5 eE hZ HL1 HG1 HY3 HGo3 HI3 HW3 HZ3 HB1 HB0 HBs0 HBr0 HFG eyb ebe HZ0
  gi_wp2
  clear en
  gi_loopw [11] (fun iv wr => ∃ k : Nat, k ≤ kn.length ∧ iv = .int .i64 (k : Int) ∧ Hid (GivenI (yb + 1) be wr ao kn.length) ∧ Hid (Below (yb + 1) w5 wr) ∧ Hid (KeepsS (fun k => be ≤ k ∧ k < w5.heap.size) w5 wr)) (fun iv _ => kn.length - (intOf iv).toNat)
  case atStart => exact ⟨0, Nat.zero_le _, rfl, HGo5, Below.refl _ _, KeepsS.refl _ _⟩
  case round =>
    obtain ⟨k, hk, rfl, HGr, HBr, HKr⟩ := hrel
    by_cases hlt : k < kn.length
    · obtain ⟨g, rfl, hg, hr⟩ := HGr.out.resolve_left (by omega)
      obtain ⟨⟨x, x1⟩, f1⟩ := hr k hlt
      have k1 : (k : Int) < (kn.length : Int) := by omega
      have k0 : (0 : Int) ≤ (k : Int) := by omega
      clear hr
      gi_wp2
      go_roundw
      case rel => exact ⟨k + 1, by omega, by go_num, HGr.out.set _ _ _, HBr.out.setCell (p := ⟨g, k, none⟩) hg.1 _, HKr.out.trans ⟨by simp, fun j hj => Below.heap_setCell _ _ _ _ (by show j ≠ g; omega)⟩⟩
      case measure => simp [intOf]; omega
    · have HT : Hid (∀ k, (k < yb + 1 ∨ be ≤ k) → k < w5.heap.size → wr.heap[k]? = w5.heap[k]?) := fun k hk h2 => by
        rcases hk with hk | hk
        · exact HBr.out.block k hk
        · exact HKr.out.2 k ⟨hk, h2⟩
      have HS6 : Hid (w5.heap.size ≤ wr.heap.size) := HBr.out.size
      have HL6 : Hid (LogIs F wr lb 50 L mb ord own D) := HL5.out.keep ⟨HS6.out, fun k hk => HT.out k (.inl (by have := HFl.out k hk; omega)) (HL5.out.lt k hk)⟩
      have HG6 : Hid (HFirm G wr (.slice ay L.length cy) L) := HG5.out.keep ⟨HS6.out, fun k hk => HT.out k (.inl (by have := HGl.out k hk; omega)) (HG5.out.1 k hk)⟩
      have HY6 : Hid (HasG wr yb #[.int .i64 50, .slice ay L.length cy] 29) := (HT.out yb (.inl (by omega)) (row_lt HY5.out)).trans HY5.out
      have HX6 : Hid (Boxed wr be 22 ve) := (HT.out be (.inr (Nat.le_refl _)) HX5.out.lt).trans HX5.out
      have HO6 : Hid (OwnH (be + 1) wr ve E) := ownsRow_keep HO5.out fun k e => HT.out k (.inr (by have := (World.ownsRow.lt HO5.out k e).1; omega)) (World.ownsRow.lt HO5.out k e).2
      have HBs6 : Hid (Boxed wr bs 3 (.int .i64 st)) := (HT.out bs (.inl (by have := HZ.out; omega)) HBs5.out.lt).trans HBs5.out
      have HRs6 : Hid (Boxed wr br 4 (.bool false)) := (HT.out br (.inl (by have := HZ.out; omega)) HBr5.out.lt).trans HBr5.out
      have HB6 : Hid (Below w.heap.size w wr) := HB5.out.trans (HBr.out.mono (by have := HZ.out; omega))
      clear HGr HBr HKr HT HL5 HG5 HY5 HX5 HO5 HBs5 HBr5 HB5 HGo5
      gi_wp2_with fail
      refine ⟨trivial, ?_⟩
      refine (callsIn_wide.2 (first_any _)).mono ?_
      rintro e w6 ⟨rfl, hb6⟩
      have HL7 : Hid (LogIs F w6 lb 50 L mb ord own D) := HL6.out.below hb6
      have HG7 : Hid (HFirm G w6 (.slice ay L.length cy) L) := HG6.out.below hb6
      have HY7 : Hid (HasG w6 yb #[.int .i64 50, .slice ay L.length cy] 29) := (hb6.block _ (row_lt HY6.out)).trans HY6.out
      have HX7 : Hid (Boxed w6 be 22 ve) := (hb6.block _ HX6.out.lt).trans HX6.out
      have HO7 : Hid (OwnH (be + 1) w6 ve E) := HO6.out.below hb6
      have HBs7 : Hid (Boxed w6 bs 3 (.int .i64 st)) := (hb6.block _ HBs6.out.lt).trans HBs6.out
      have HRs7 : Hid (Boxed w6 br 4 (.bool false)) := (hb6.block _ HRs6.out.lt).trans HRs6.out
      have HB7 : Hid (Below w.heap.size w w6) := HB6.out.trans (hb6.mono HB6.out.size)
      have HS7 : Hid (w5.heap.size ≤ w6.heap.size) := Nat.le_trans HS6.out hb6.size
      clear hb6 HL6 HG6 HY6 HX6 HO6 HBs6 HRs6 HB6 HS6
      gi_wp2_with fail
      refine ⟨trivial, ?_⟩
      refine (callsIn_wide.2 (add_mb F lb 50 L mb ord own D firstC (.slice none 0 0) w6 HL7.out HGd.out (by omega) (by omega) (IsI.non 0) first_sized)).mono ?_
      rintro e w7 ⟨rfl, ⟨F7, _, _, _, ht⟩, hdk⟩
      have hnF : ∀ k, (k = bs ∨ k = br ∨ yb ≤ k ∨ G k) → ¬ F k := fun k hk hF => by
        have h1 := HFl.out k hF
        have h2 := HZ.out
        rcases hk with rfl | rfl | hk | hk
        · omega
        · omega
        · omega
        · exact h1.2.2 hk
      have HG8 : Hid (HFirm G w7 (.slice ay L.length cy) L) := HG7.out.keep (ht.keeps fun k hk => ⟨HG7.out.1 k hk, hnF k (.inr (.inr (.inr hk)))⟩)
      have HY8 : Hid (HasG w7 yb #[.int .i64 50, .slice ay L.length cy] 29) := (ht.block yb (row_lt HY7.out) (hnF yb (.inr (.inr (.inl (Nat.le_refl _)))))).trans HY7.out
      have HX8 : Hid (Boxed w7 be 22 ve) := (ht.block be HX7.out.lt (hnF be (.inr (.inr (.inl (by have := HZ.out; omega)))))).trans HX7.out
      have HO8 : Hid (OwnH (be + 1) w7 ve E) := ownsRow_keep HO7.out fun k e => ht.block k (World.ownsRow.lt HO7.out k e).2 (hnF k (.inr (.inr (.inl (by have := (World.ownsRow.lt HO7.out k e).1; have := HZ.out; omega)))))
      have HBs8 : Hid (Boxed w7 bs 3 (.int .i64 st)) := (ht.block bs HBs7.out.lt (hnF bs (.inl rfl))).trans HBs7.out
      have HRs8 : Hid (Boxed w7 br 4 (.bool false)) := (ht.block br HRs7.out.lt (hnF br (.inr (.inl rfl)))).trans HRs7.out
      have HB8 : Hid (Below w.heap.size w w7) := HB7.out.trans (ht.below (fun k hk => by have := HFl.out k hk; have := HZ.out; omega) HB7.out.size)
      have HD8 : Hid (∀ x ∈ E, OwnI 0 w7 x.2 x.1.deps ∧ x.1.deps.length ≤ 17592186044416 ∧ ∀ k, x.2.ownBlock = some k → k < yb) := fun x hx => by
        have hx2 : x ∈ D := by
          rw [HE.out] at hx
          split at hx
          · exact lackE_mem HL7.out HGd.out.srt hx
          · simp at hx
        obtain ⟨h1, _, h3⟩ := HL7.out.hdep x hx2
        exact ⟨h1.keepF fun k e => hdk x hx2 k e, h3, fun k e => (HFl.out k (HL7.out.fd x hx2 k e)).2.1⟩
      have HS8 : Hid (w5.heap.size ≤ w7.heap.size) := Nat.le_trans HS7.out ht.size
      generalize whyR L 50 firstC = wf
      clear ht hdk hnF HL7 HG7 HY7 HX7 HO7 HBs7 HRs7 HB7 HS7
      gi_wp2_with fail
      refine ⟨trivial, ?_⟩
      obtain ⟨W8, eW8⟩ : ∃ X, X = (w7.alloc (.cells #[] 34)).alloc (.cells #[.slice (some ⟨w7.heap.size, 0, none⟩) 0 0] 22) := ⟨_, rfl⟩
      obtain ⟨bw, ebw⟩ : ∃ b, b = w7.heap.size + 1 := ⟨_, rfl⟩
      have hb8 : Below w7.heap.size w7 W8 := by rw [eW8]; exact ((Below.refl _ _).alloc (Nat.le_refl _) _).alloc (by simp) _
      have HBw8 : Hid (Boxed W8 bw 22 (.slice (some ⟨w7.heap.size, 0, none⟩) 0 0)) := by
        rw [eW8, ebw]
        have := Boxed.new (w7.alloc (.cells #[] 34)) 22 (.slice (some ⟨w7.heap.size, 0, none⟩) 0 0)
        rw [show (w7.alloc (.cells #[] 34)).heap.size = w7.heap.size + 1 by simp] at this
        exact this
      have HSw : Hid (W8.heap.size = w7.heap.size + 2 ∧ bw = w7.heap.size + 1) := ⟨by rw [eW8]; simp, ebw⟩
      have HW8 : Hid (Below w7.heap.size w7 W8) := hb8
      rw [← eW8, ← ebw]
      clear eW8 ebw hb8
      have HIk8 : Hid (IsI W8 (.slice ak kn.length ck) kn) := HIk.out.below (HB8.out.trans (HW8.out.mono HB8.out.size))
      refine (callsIn_wide.2 (refCheck_any _ kn W8 HIk8.out)).mono ?_
      rintro e w8 ⟨rfl, hw8⟩
      replace hw8 := hw8.symm
      subst hw8
      rename_i Kj aj K1 j1 K0 j0
      have hz7 := HW8.out.size
      have REST : ∀ (t45 t46 t47 t48 t49 t50 : Value) (aw : Option Addr) (cw : Nat) (wl : List Ch) (W9 : World), Below w7.heap.size w7 W9 → Boxed W9 bw 22 (.slice aw wl.length cw) → HFirm (fun k => k < W9.heap.size) W9 (.slice aw wl.length cw) wl → E.map Prod.fst = wl → wl.length ≤ 50 → w7.heap.size + 2 ≤ W9.heap.size → Kj { tmps := #[.slice a1 l.length c1, .slice ak kn.length ck, .int .i64 st, undef, undef, .pointer (some ⟨bs, 0, none⟩), .pointer (some ⟨br, 0, none⟩), .pointer (some ⟨lb, 0, none⟩), .pointer (some ⟨yb, 0, none⟩), .slice ao kn.length co, .func (.func 47) #[] #[.pointer (some ⟨be, 0, none⟩)], .int .i64 (k : Int), .pointer (some ⟨bw, 0, none⟩), undef, undef, undef, undef, undef, .tuple #[.pointer (some ⟨lb, 0, none⟩), .agg #[.int .i64 50, .slice ay L.length cy]], .slice a1 l.length c1, .tuple #[.pointer (some ⟨lb, 0, none⟩), .agg #[.int .i64 50, .slice ay L.length cy]], .pointer (some ⟨lb, 0, none⟩), .agg #[.int .i64 50, .slice ay L.length cy], .slice (some ⟨yb + 1, 0, none⟩) 0 0, .slice ak kn.length ck, .slice ao kn.length co, .pointer (some ⟨lb, 0, none⟩), .slice ao kn.length co, .func (.func 47) #[] #[.pointer (some ⟨be, 0, none⟩)], .func (.func 47) #[] #[.pointer (some ⟨be, 0, none⟩)], .bool false, .int .i64 (k : Int), .slice ao kn.length co, .int .i64 (kn.length : Int), .bool false, u35, u36, u37, u38, u39, .pointer (some ⟨lb, 0, none⟩), chV firstC (.slice none 0 0), .int .i64 wf, .slice (some ⟨w7.heap.size, 0, none⟩) 0 0, .slice ak kn.length ck, t45, t46, t47, t48, t49, t50, undef, undef, undef, undef, undef, undef, undef, undef, undef, undef, undef, undef, undef, undef, undef, undef, undef, undef, undef, undef, undef, undef, undef, undef, undef, undef, undef, undef, undef, undef, undef, undef, undef, undef, undef, undef, undef, undef, undef, undef, undef, undef, undef, undef, undef, undef, undef, undef, undef, undef, undef, undef, undef, undef, undef, undef, undef, undef, undef, undef, undef, undef, undef, undef, undef, undef], defers := [] } W9 := by
        intro t45 t46 t47 t48 t49 t50 aw cw wl W9 h79 hbw9 hw9 hwl1 hwl2 hz9
        refine aj _ _ ?_
        gi_wp2
        obtain ⟨bn, ebn⟩ : ∃ b, b = W9.heap.size := ⟨_, rfl⟩
        obtain ⟨W10, eW10⟩ : ∃ X, X = W9.alloc (.cells #[.int .i64 0] 3) := ⟨_, rfl⟩
        have hB10 : Below w7.heap.size w7 W10 := by rw [eW10]; exact h79.alloc (by omega) _
        have hbw10 : Boxed W10 bw 22 (.slice aw wl.length cw) := by rw [eW10]; exact hbw9.alloc _
        have bN10 : Boxed W10 bn 3 (.int .i64 0) := by rw [eW10, ebn]; exact Boxed.new _ _ _
        have hw10 : HFirm (fun k => k < bn) W10 (.slice aw wl.length cw) wl := by rw [eW10, ebn]; exact hw9.below ((Below.refl _ _).alloc (Nat.le_refl _) _)
        have hsz10 : bn < W10.heap.size := by rw [eW10, ebn]; simp
        have hzz := HZ.out
        obtain ⟨av, cv, eve, hgo⟩ := goS_of (w := w) (bn := bn) (st := st) HBs8.out HRs8.out HX8.out HO8.out HD8.out (by have := HS8.out; omega) hB10 hbw10 hsz10 (by omega) (by have := HSw.out; omega) (by omega) hw10 hwl1 hwl2
        subst eve
        have HG : Hid (GoS w W10 bs br bw be bn st aw cw av cv wl E) := hgo
        have HB10 : Hid (Below w.heap.size w W10) := HB8.out.trans (hB10.mono HB8.out.size)
        rw [← eW10, ← ebn]
        clear hgo hB10 hbw10 hw10 hwl1 hwl2 hzz eW10 ebn h79 hbw9 hw9 hz9
        have zG := HG.out.lt
        have own1 : OwnFrom W10.heap.size (fun (k : Nat) W => Boxed W bn 3 (.int .i64 (k : Int)) ∧ Below bn W10 W) :=
          OwnFrom.and (Own.from (boxed_own _ _ _) _) (ownFrom_below (by omega) (by omega))
        have own2 : OwnFrom W10.heap.size (fun (k : Nat) W => Boxed W bn 3 (.int .i64 st) ∧ Below bn W10 W) :=
          OwnFrom.and (Own.from (boxed_own _ _ _) _) (ownFrom_below (by omega) (by omega))
        rename_i Kr ar
        have REST2 : ∀ (nv : Int) (D : Nat) (W : World), W10.heap.size ≤ D → Boxed W bn 3 (.int .i64 nv) → Below bn W10 W → W.heap[D]? = some (.deferred (some [])) → (nv = (wl.length : Int) ∨ nv = st) → Kr { tmps := #[.slice a1 l.length c1, .slice ak kn.length ck, .int .i64 st, undef, undef, .pointer (some ⟨bs, 0, none⟩), .pointer (some ⟨br, 0, none⟩), .pointer (some ⟨lb, 0, none⟩), .pointer (some ⟨yb, 0, none⟩), .slice ao kn.length co, .func (.func 47) #[] #[.pointer (some ⟨be, 0, none⟩)], .int .i64 (k : Int), .pointer (some ⟨bw, 0, none⟩), .pointer (some ⟨bn, 0, none⟩), undef, undef, undef, undef, .tuple #[.pointer (some ⟨lb, 0, none⟩), .agg #[.int .i64 50, .slice ay L.length cy]], .slice a1 l.length c1, .tuple #[.pointer (some ⟨lb, 0, none⟩), .agg #[.int .i64 50, .slice ay L.length cy]], .pointer (some ⟨lb, 0, none⟩), .agg #[.int .i64 50, .slice ay L.length cy], .slice (some ⟨yb + 1, 0, none⟩) 0 0, .slice ak kn.length ck, .slice ao kn.length co, .pointer (some ⟨lb, 0, none⟩), .slice ao kn.length co, .func (.func 47) #[] #[.pointer (some ⟨be, 0, none⟩)], .func (.func 47) #[] #[.pointer (some ⟨be, 0, none⟩)], .bool false, .int .i64 (k : Int), .slice ao kn.length co, .int .i64 (kn.length : Int), .bool false, u35, u36, u37, u38, u39, .pointer (some ⟨lb, 0, none⟩), chV firstC (.slice none 0 0), .int .i64 wf, .slice (some ⟨w7.heap.size, 0, none⟩) 0 0, .slice ak kn.length ck, t45, t46, t47, t48, t49, t50, .func (.func 47) #[] #[.pointer (some ⟨be, 0, none⟩)], undef, undef, undef, undef, undef, undef, undef, undef, undef, undef, undef, undef, undef, undef, undef, undef, undef, undef, undef, undef, undef, undef, undef, undef, undef, undef, undef, undef, undef, undef, undef, undef, undef, undef, undef, undef, undef, undef, undef, undef, undef, undef, undef, undef, undef, undef, undef, undef, undef, undef, undef, undef, undef, undef, undef, undef, undef, undef, undef, undef, undef, undef, undef, undef, undef], defers := [{ target := .collected D, args := #[] }] } W := by
          intro nv D W hD bN1 hB1 hK hnv
          refine ar _ _ ?_
          have zB := hB1.size
          have hEl : E.length = wl.length := by have := congrArg List.length HG.out.eq; simpa using this
          have HG1 : Hid (GoS w W bs br bw be bn st aw cw av cv wl E) := HG.out.below hB1
          have HBw1 : Hid (Below w.heap.size w W) := HB10.out.trans (hB1.mono (by omega))
          gi_wp2
          obtain ⟨bk, ebk⟩ : ∃ b, b = W.heap.size := ⟨_, rfl⟩
          obtain ⟨W2, eW2⟩ : ∃ X, X = W.alloc (.cells #[.int .i64 0] 3) := ⟨_, rfl⟩
          have hb2 : Below W.heap.size W W2 := by rw [eW2]; exact (Below.refl _ _).alloc (Nat.le_refl _) _
          have bN3 : Boxed W2 bn 3 (.int .i64 nv) := by rw [eW2]; exact bN1.alloc _
          have bK3 : Boxed W2 bk 3 (.int .i64 0) := by rw [eW2, ebk]; exact Boxed.new _ _ _
          have HG2 : Hid (GoS w W2 bs br bw be bn st aw cw av cv wl E) := HG1.out.below (hb2.mono (by omega))
          have HBw2 : Hid (Below w.heap.size w W2) := HBw1.out.trans (hb2.mono HBw1.out.size)
          have hDl : D < W.heap.size := (Array.getElem?_eq_some_iff.1 hK).1
          have hK3 : W2.heap[D]? = some (.deferred (some [])) := (hb2.block _ hDl).trans hK
          have sz3 : W2.heap.size = bk + 1 := by rw [eW2, ebk]; simp
          have hbk : W10.heap.size ≤ bk := by omega
          rw [← eW2, ← ebk]
          rw [← ebk] at hDl
          clear eW2 ebk hb2 bN1 hB1 hK HG1 HBw1
          have own3 : OwnFrom W2.heap.size (fun (k : Nat) W => Boxed W bk 3 (.int .i64 (k : Int)) ∧ Below bk W2 W) :=
            OwnFrom.and (Own.from (boxed_own _ _ _) _) (ownFrom_below (by omega) (by omega))
          refine range_ofE h1n (gf := 47) (lb := #[.pointer (some ⟨be, 0, none⟩)]) rfl (enters_of Tryz.func47 (by kernel_rfl) rfl)
            (each1_seq (n - 1) (by omega) be (fun k => k < bn) av cv E W2 HG2.out.e.cell (by omega) (fun k hk => by omega) HG2.out.got HG2.out.cap (by have h2 := HG2.out.len; omega)) KeepsS.trans (keepsSK_b (fun j hj => by omega)) (Below.refl _ _) (fun x u W h => by obtain ⟨a, c, e, _⟩ := h; rw [e]; rfl)
            (fun k W => Boxed W bk 3 (.int .i64 (k : Int)) ∧ Below bk W2 W)
            (fun c k W => False)
            own3
            (fun c s X Y row hs hg hr => hs)
            ⟨bK3, Below.refl _ _⟩
            (fun x a' W => ∃ Bx a c, AxS W2.heap.size x Bx a c W ∧ a' = { tmps := #[.slice a1 l.length c1, .slice ak kn.length ck, .int .i64 st, undef, undef, .pointer (some ⟨bs, 0, none⟩), .pointer (some ⟨br, 0, none⟩), .pointer (some ⟨lb, 0, none⟩), .pointer (some ⟨yb, 0, none⟩), .slice ao kn.length co, .func (.func 47) #[] #[.pointer (some ⟨be, 0, none⟩)], .int .i64 (k : Int), .pointer (some ⟨bw, 0, none⟩), .pointer (some ⟨bn, 0, none⟩), undef, undef, .pointer (some ⟨bk, 0, none⟩), .pointer (some ⟨Bx, 0, none⟩), .tuple #[.pointer (some ⟨lb, 0, none⟩), .agg #[.int .i64 50, .slice ay L.length cy]], .slice a1 l.length c1, .tuple #[.pointer (some ⟨lb, 0, none⟩), .agg #[.int .i64 50, .slice ay L.length cy]], .pointer (some ⟨lb, 0, none⟩), .agg #[.int .i64 50, .slice ay L.length cy], .slice (some ⟨yb + 1, 0, none⟩) 0 0, .slice ak kn.length ck, .slice ao kn.length co, .pointer (some ⟨lb, 0, none⟩), .slice ao kn.length co, .func (.func 47) #[] #[.pointer (some ⟨be, 0, none⟩)], .func (.func 47) #[] #[.pointer (some ⟨be, 0, none⟩)], .bool false, .int .i64 (k : Int), .slice ao kn.length co, .int .i64 (kn.length : Int), .bool false, u35, u36, u37, u38, u39, .pointer (some ⟨lb, 0, none⟩), chV firstC (.slice none 0 0), .int .i64 wf, .slice (some ⟨w7.heap.size, 0, none⟩) 0 0, .slice ak kn.length ck, t45, t46, t47, t48, t49, t50, .func (.func 47) #[] #[.pointer (some ⟨be, 0, none⟩)], undef, undef, undef, undef, undef, undef, undef, undef, undef, undef, undef, undef, undef, undef, undef, undef, undef, undef, undef, undef, undef, undef, undef, undef, undef, undef, undef, undef, undef, undef, .func (.func 47) #[] #[.pointer (some ⟨be, 0, none⟩)], .agg #[.int .i64 x.1.ac, .int .i64 x.1.ar, .int .i64 x.1.seq, .slice a x.1.deps.length c, .int .i64 x.1.kind, .int .i64 x.1.nc, .int .i64 x.1.nr, .int .i64 x.1.pc, .int .i64 x.1.pr, .int .i64 x.1.fc, .int .i64 x.1.fr, .string x.1.name, .string x.1.value], undef, undef, undef, undef, undef, undef, undef, undef, undef, undef, undef, undef, undef, undef, undef, undef, undef, undef, undef, undef, undef, undef, undef, undef, undef, undef, undef, undef, undef, undef, undef, undef, undef], defers := [] })
            (fun x a' _ X Y row hs hg hr => by obtain ⟨Bx, a, c, h2, h3⟩ := hs; exact ⟨Bx, a, c, h2.grown hg (fun r e => (hr r e).2), h3⟩)
            ?assignd ?bodyd ?doned ?stopd
          case assignd =>
            rintro l k hk u W K ⟨a, c, rfl, ho⟩ ⟨bN1, hB1⟩ hK
            have zB := hB1.size
            generalize E[k] = x at *
            simp only [chV, chCells]
            gi_wp2
            refine hK _ _ ((KeepsOthers.alloc _ _).from _) (KeepsS.of_below ((Below.refl W.heap.size W).alloc (Nat.le_refl _) _) (fun k hk => by omega)) ⟨bN1.alloc _, hB1.alloc (by omega) _⟩ ⟨W.heap.size, a, c, ⟨heap_alloc_new _ _, ho.below ((Below.refl _ _).alloc (Nat.le_refl _) _), by omega⟩, rfl⟩
          case bodyd =>
            rintro l k hk a' W hl ⟨bN1, hB1⟩ ⟨Bx, a, c, hA, rfl⟩
            have zB := hB1.size
            have HG1 : Hid (GoS w W bs br bw be bn st aw cw av cv wl E) := HG2.out.below (hB1.mono (by have := HG2.out.lt; omega))
            obtain ⟨b, o, a2, e2, hkw, eaw, hI2, hbb, hcl⟩ := HG1.out.at hk
            subst eaw
            have HAx : Hid (AxS W2.heap.size E[k] Bx a c W) := hA
            have HI2 : Hid (IsI W (.slice a2 E[k].1.deps.length e2) E[k].1.deps) := hI2
            have HCl : Hid (∀ X, Below bn W X → ∀ j u, (chCells E[k].1 (.slice a2 E[k].1.deps.length e2))[j]? = some u → X.cell? ⟨b, o + k * 13 + j, none⟩ = some u) := hcl
            obtain ⟨_, _, _, _, hdl, _⟩ := hI2
            clear hcl hA
            generalize E[k] = x at *
            obtain ⟨⟨ac, ar, sq, ds, kd, nc, nr, pc, pr, fc, fr, nm, vl⟩, dv⟩ := x
            simp only at hdl HI2 HCl ⊢
            have HBl : Hid (BelN bk W2 W) := ⟨hB1, by omega⟩
            have HKf : Hid (KF W2.heap.size W W) := KeepsFrom.refl _ _
            have HKw : Hid (KeepsG (fun k => k < bn) W W) := ⟨KeepsS.refl _ _, fun k hk => by omega⟩
            have cN := Boxed.cell bN1
            have cS := HG1.out.s.cell
            have hl3 : k + 1 ≤ 64 := by have := HG1.out.len; omega
            have k0 : (0 : Int) ≤ (k : Int) := by omega
            have k1 : (k : Int) < (wl.length : Int) := by omega
            have hd : decide ((wl.length : Int) ≤ (k : Int)) = false := by simp only [decide_eq_false_iff_not]; omega
            have hln : ¬ wl.length ≤ k := by omega
            have hdn : decide (wl.length ≤ k) = false := by simp only [decide_eq_false_iff_not]; omega
            gi_wp2
            refine region_round_held (S := fun W' => BoxN bk (.int .i64 (k : Int)) W' ∧ Boxed W' bw 22 (.slice (some ⟨b, o, none⟩) wl.length cw) ∧ W'.heap[Bx]? = some (.cells #[.int .i64 ac, .int .i64 ar, .int .i64 sq, .slice a ds.length c, .int .i64 kd, .int .i64 nc, .int .i64 nr, .int .i64 pc, .int .i64 pr, .int .i64 fc, .int .i64 fr, .string nm, .string vl] 34) ∧ (∀ j u, (chCells (⟨ac, ar, sq, ds, kd, nc, nr, pc, pr, fc, fr, nm, vl⟩ : Ch) (.slice a2 ds.length e2))[j]? = some u → W'.cell? ⟨b, o + k * 13 + j, none⟩ = some u)) l (by kernel_rfl) (by kernel_rfl) (by first | exact lets_block lets_round | exact lets_then (lets_block lets_round) | exact lets_then (lets_then (lets_block lets_round)) | exact lets_then (lets_then (lets_then (lets_block lets_round)))) ⟨bN1, HG1.out.wb, HAx.out.box, HCl.out W (Below.refl _ _)⟩ (fun hHeld => ?_)
            obtain ⟨Uh6u0, eW⟩ : ∃ X, X = W.drew := ⟨_, rfl⟩
            have hb : Below W.heap.size W Uh6u0 := by rw [eW]; exact (Below.refl _ _).drew
            replace HBl : Hid (BelN bk W2 Uh6u0) := HBl.out.below hb
            replace HAx : Hid (AxS W2.heap.size ((⟨ac, ar, sq, ds, kd, nc, nr, pc, pr, fc, fr, nm, vl⟩ : Ch), dv) Bx a c Uh6u0) := HAx.out.below hb
            replace HKf : Hid (KF W2.heap.size W Uh6u0) := HKf.out.below hb
            replace HKw : Hid (KeepsG (fun k => k < bn) W Uh6u0) := HKw.out.below hb
            replace HI2 : Hid (IsI Uh6u0 (.slice a2 ds.length e2) ds) := HI2.out.below hb
            rw [← eW] at hHeld ⊢
            clear eW hb
            refine wpAnyH_take (i := 0) (oi := ⟨some 84, _, _, _, _, _⟩) (v := ?vh6ux0) rfl (by kernel_rfl) (by kernel_rfl) (by kernel_rfl) (fun _ _ _ h => h) (Or.inl ⟨by rfl, ?hyh6ux0⟩) hHeld ?resth6ux0
            case hyh6ux0 => (intro w hSw; (try dsimp only at hSw); obtain ⟨hn, hw, hx, hp⟩ := hSw; have cn := Boxed.cell hn; have cw1 := hw.cell; obtain ⟨k_0, k_1, k_2, k_3, k_4, k_5, k_6, k_7, k_8, k_9, k_10, k_11, k_12⟩ := row_cells hx; obtain ⟨m_0, m_1, m_2, m_3, m_4, m_5, m_6, m_7, m_8, m_9, m_10, m_11, m_12⟩ := chAll hp; simp only at m_0 m_1 m_2 m_3 m_4 m_5 m_6 m_7 m_8 m_9 m_10 m_11 m_12; go_simp; try with_reducible rfl)
            simp only [Act.put, List.setIfInBounds_toArray, List.set_cons_zero, List.set_cons_succ]
            refine wpAnyH_take (i := 1) (oi := ⟨some 85, _, _, _, _, _⟩) (v := ?vh6ux1) rfl (by kernel_rfl) (by kernel_rfl) (by kernel_rfl) (fun _ _ _ h => h) (Or.inl ⟨by rfl, ?hyh6ux1⟩) hHeld ?resth6ux1
            case hyh6ux1 => (intro w hSw; (try dsimp only at hSw); obtain ⟨hn, hw, hx, hp⟩ := hSw; have cn := Boxed.cell hn; have cw1 := hw.cell; obtain ⟨k_0, k_1, k_2, k_3, k_4, k_5, k_6, k_7, k_8, k_9, k_10, k_11, k_12⟩ := row_cells hx; obtain ⟨m_0, m_1, m_2, m_3, m_4, m_5, m_6, m_7, m_8, m_9, m_10, m_11, m_12⟩ := chAll hp; simp only at m_0 m_1 m_2 m_3 m_4 m_5 m_6 m_7 m_8 m_9 m_10 m_11 m_12; go_simp; try with_reducible rfl)
            simp only [Act.put, List.setIfInBounds_toArray, List.set_cons_zero, List.set_cons_succ]
            refine wpAnyH_take (i := 2) (oi := ⟨some 86, _, _, _, _, _⟩) (v := ?vh6ux2) rfl (by kernel_rfl) (by kernel_rfl) (by kernel_rfl) (fun _ _ _ h => h) (Or.inl ⟨by rfl, ?hyh6ux2⟩) hHeld ?resth6ux2
            case hyh6ux2 => (intro w hSw; (try dsimp only at hSw); obtain ⟨hn, hw, hx, hp⟩ := hSw; have cn := Boxed.cell hn; have cw1 := hw.cell; obtain ⟨k_0, k_1, k_2, k_3, k_4, k_5, k_6, k_7, k_8, k_9, k_10, k_11, k_12⟩ := row_cells hx; obtain ⟨m_0, m_1, m_2, m_3, m_4, m_5, m_6, m_7, m_8, m_9, m_10, m_11, m_12⟩ := chAll hp; simp only at m_0 m_1 m_2 m_3 m_4 m_5 m_6 m_7 m_8 m_9 m_10 m_11 m_12; go_simp; try with_reducible rfl)
            simp only [Act.put, List.setIfInBounds_toArray, List.set_cons_zero, List.set_cons_succ]
            refine wpAnyH_take (i := 3) (oi := ⟨some 87, _, _, _, _, _⟩) (v := ?vh6ux3) rfl (by kernel_rfl) (by kernel_rfl) (by kernel_rfl) (fun _ _ _ h => h) (Or.inl ⟨by rfl, ?hyh6ux3⟩) hHeld ?resth6ux3
            case hyh6ux3 => (intro w hSw; (try dsimp only at hSw); obtain ⟨hn, hw, hx, hp⟩ := hSw; have cn := Boxed.cell hn; have cw1 := hw.cell; obtain ⟨k_0, k_1, k_2, k_3, k_4, k_5, k_6, k_7, k_8, k_9, k_10, k_11, k_12⟩ := row_cells hx; obtain ⟨m_0, m_1, m_2, m_3, m_4, m_5, m_6, m_7, m_8, m_9, m_10, m_11, m_12⟩ := chAll hp; simp only at m_0 m_1 m_2 m_3 m_4 m_5 m_6 m_7 m_8 m_9 m_10 m_11 m_12; go_simp; try with_reducible rfl)
            simp only [Act.put, List.setIfInBounds_toArray, List.set_cons_zero, List.set_cons_succ]
            refine wpAnyH_take (i := 4) (oi := ⟨some 88, _, _, _, _, _⟩) (v := ?vh6ux4) rfl (by kernel_rfl) (by kernel_rfl) (by kernel_rfl) (fun _ _ _ h => h) (Or.inl ⟨by rfl, ?hyh6ux4⟩) hHeld ?resth6ux4
            case hyh6ux4 => (intro w _; go_simp; try with_reducible rfl)
            simp only [Act.put, List.setIfInBounds_toArray, List.set_cons_zero, List.set_cons_succ]
            refine wpAnyH_take (i := 5) (oi := ⟨some 89, _, _, _, _, _⟩) (v := ?vh6ux5) rfl (by kernel_rfl) (by kernel_rfl) (by kernel_rfl) (fun _ _ _ h => h) (Or.inl ⟨by rfl, ?hyh6ux5⟩) hHeld ?resth6ux5
            case hyh6ux5 => (intro w hSw; (try dsimp only at hSw); obtain ⟨hn, hw, hx, hp⟩ := hSw; have cn := Boxed.cell hn; have cw1 := hw.cell; obtain ⟨k_0, k_1, k_2, k_3, k_4, k_5, k_6, k_7, k_8, k_9, k_10, k_11, k_12⟩ := row_cells hx; obtain ⟨m_0, m_1, m_2, m_3, m_4, m_5, m_6, m_7, m_8, m_9, m_10, m_11, m_12⟩ := chAll hp; simp only at m_0 m_1 m_2 m_3 m_4 m_5 m_6 m_7 m_8 m_9 m_10 m_11 m_12; go_simp; try with_reducible rfl)
            simp only [Act.put, List.setIfInBounds_toArray, List.set_cons_zero, List.set_cons_succ]
            refine wpAnyH_take (i := 6) (oi := ⟨some 90, _, _, _, _, _⟩) (v := ?vh6ux6) rfl (by kernel_rfl) (by kernel_rfl) (by kernel_rfl) (fun _ _ _ h => h) (Or.inl ⟨by rfl, ?hyh6ux6⟩) hHeld ?resth6ux6
            case hyh6ux6 => (intro w hSw; (try dsimp only at hSw); obtain ⟨hn, hw, hx, hp⟩ := hSw; have cn := Boxed.cell hn; have cw1 := hw.cell; obtain ⟨k_0, k_1, k_2, k_3, k_4, k_5, k_6, k_7, k_8, k_9, k_10, k_11, k_12⟩ := row_cells hx; obtain ⟨m_0, m_1, m_2, m_3, m_4, m_5, m_6, m_7, m_8, m_9, m_10, m_11, m_12⟩ := chAll hp; simp only at m_0 m_1 m_2 m_3 m_4 m_5 m_6 m_7 m_8 m_9 m_10 m_11 m_12; go_simp; try with_reducible rfl)
            simp only [Act.put, List.setIfInBounds_toArray, List.set_cons_zero, List.set_cons_succ]
            refine wpAnyH_take (i := 7) (oi := ⟨some 91, _, _, _, _, _⟩) (v := ?vh6ux7) rfl (by kernel_rfl) (by kernel_rfl) (by kernel_rfl) (fun _ _ _ h => h) (Or.inl ⟨by rfl, ?hyh6ux7⟩) hHeld ?resth6ux7
            case hyh6ux7 => (intro w hSw; (try dsimp only at hSw); obtain ⟨hn, hw, hx, hp⟩ := hSw; have cn := Boxed.cell hn; have cw1 := hw.cell; obtain ⟨k_0, k_1, k_2, k_3, k_4, k_5, k_6, k_7, k_8, k_9, k_10, k_11, k_12⟩ := row_cells hx; obtain ⟨m_0, m_1, m_2, m_3, m_4, m_5, m_6, m_7, m_8, m_9, m_10, m_11, m_12⟩ := chAll hp; simp only at m_0 m_1 m_2 m_3 m_4 m_5 m_6 m_7 m_8 m_9 m_10 m_11 m_12; go_simp; try with_reducible rfl)
            simp only [Act.put, List.setIfInBounds_toArray, List.set_cons_zero, List.set_cons_succ]
            refine wpAnyH_take (i := 8) (oi := ⟨some 92, _, _, _, _, _⟩) (v := ?vh6ux8) rfl (by kernel_rfl) (by kernel_rfl) (by kernel_rfl) (fun _ _ _ h => h) (Or.inl ⟨by rfl, ?hyh6ux8⟩) hHeld ?resth6ux8
            case hyh6ux8 => (intro w hSw; (try dsimp only at hSw); obtain ⟨hn, hw, hx, hp⟩ := hSw; have cn := Boxed.cell hn; have cw1 := hw.cell; obtain ⟨k_0, k_1, k_2, k_3, k_4, k_5, k_6, k_7, k_8, k_9, k_10, k_11, k_12⟩ := row_cells hx; obtain ⟨m_0, m_1, m_2, m_3, m_4, m_5, m_6, m_7, m_8, m_9, m_10, m_11, m_12⟩ := chAll hp; simp only at m_0 m_1 m_2 m_3 m_4 m_5 m_6 m_7 m_8 m_9 m_10 m_11 m_12; go_simp; try with_reducible rfl)
            simp only [Act.put, List.setIfInBounds_toArray, List.set_cons_zero, List.set_cons_succ]
            refine wpAnyH_take (i := 9) (oi := ⟨some 93, _, _, _, _, _⟩) (v := ?vh6ux9) rfl (by kernel_rfl) (by kernel_rfl) (by kernel_rfl) (fun _ _ _ h => h) (Or.inl ⟨by rfl, ?hyh6ux9⟩) hHeld ?resth6ux9
            case hyh6ux9 => (intro w hSw; (try dsimp only at hSw); obtain ⟨hn, hw, hx, hp⟩ := hSw; have cn := Boxed.cell hn; have cw1 := hw.cell; obtain ⟨k_0, k_1, k_2, k_3, k_4, k_5, k_6, k_7, k_8, k_9, k_10, k_11, k_12⟩ := row_cells hx; obtain ⟨m_0, m_1, m_2, m_3, m_4, m_5, m_6, m_7, m_8, m_9, m_10, m_11, m_12⟩ := chAll hp; simp only at m_0 m_1 m_2 m_3 m_4 m_5 m_6 m_7 m_8 m_9 m_10 m_11 m_12; go_simp; try with_reducible rfl)
            simp only [Act.put, List.setIfInBounds_toArray, List.set_cons_zero, List.set_cons_succ]
            refine wpAnyH_ready (rs := [10]) (by kernel_rfl) (by simp) ?_
            refine AllReadyH.cons (o := ⟨some 94, _, _, _, _, _⟩) rfl (fun K hK => ?_) AllReadyH.nil
            go_simp
            refine (refSameCh_eq ac ar sq (.slice a ds.length c) (.slice a2 ds.length e2) kd nc nr pc pr fc fr nm vl ds _ (OwnI.isI HAx.out.own hdl) HI2.out).mono ?_
            rintro e Uh6u1 ⟨rfl, hb⟩
            (try go_wp2_with fail)
            refine hK.out _ _ (⟨hHeld.1.below hb, (hb.block _ hHeld.2.1.lt).trans hHeld.2.1, (hb.block _ (Array.getElem?_eq_some_iff.1 hHeld.2.2.1).1).trans hHeld.2.2.1, fun j u hj => (hb.cell (p := ⟨b, o + k * 13 + j, none⟩) (cell_lt (hHeld.2.2.2 j u hj))).trans (hHeld.2.2.2 j u hj)⟩) (fun hHeld2 => ?_)
            clear hK K hHeld
            have hHeld := hHeld2
            clear hHeld2
            (try simp only [Act.put, List.setIfInBounds_toArray, List.set_cons_zero, List.set_cons_succ])
            replace HBl : Hid (BelN bk W2 Uh6u1) := HBl.out.below hb
            replace HAx : Hid (AxS W2.heap.size ((⟨ac, ar, sq, ds, kd, nc, nr, pc, pr, fc, fr, nm, vl⟩ : Ch), dv) Bx a c Uh6u1) := HAx.out.below hb
            replace HKf : Hid (KF W2.heap.size W Uh6u1) := HKf.out.below hb
            replace HKw : Hid (KeepsG (fun k => k < bn) W Uh6u1) := HKw.out.below hb
            replace HI2 : Hid (IsI Uh6u1 (.slice a2 ds.length e2) ds) := HI2.out.below hb
            clear hb
            refine wpAnyH_take (i := 11) (oi := ⟨some 95, _, _, _, _, _⟩) (v := ?vh6u_10x11) rfl (by kernel_rfl) (by kernel_rfl) (by kernel_rfl) (fun _ _ _ h => h) (Or.inl ⟨by rfl, ?hyh6u_10x11⟩) hHeld ?resth6u_10x11
            case hyh6u_10x11 => (intro w _; go_simp; try with_reducible rfl)
            simp only [Act.put, List.setIfInBounds_toArray, List.set_cons_zero, List.set_cons_succ]
            refine wpAnyH_take (i := 12) (oi := ⟨some 96, _, _, _, _, _⟩) (v := ?vh6u_10x12) rfl (by kernel_rfl) (by kernel_rfl) (by kernel_rfl) (fun _ _ _ h => h) (Or.inl ⟨by rfl, ?hyh6u_10x12⟩) hHeld ?resth6u_10x12
            case hyh6u_10x12 => (intro w _; go_simp; try with_reducible rfl)
            simp only [Act.put, List.setIfInBounds_toArray, List.set_cons_zero, List.set_cons_succ]
            refine wpAnyH_done (by kernel_rfl) ?_ _
            have HBn : Hid (BoxN bk (.int .i64 (k : Int)) Uh6u1) := hHeld.1
            clear hHeld
            have cn := Boxed.cell HBn.out
            have fn := Boxed.frozen HBn.out
            gi_wp2
            exact ⟨KeepsFrom.trans HKf.out (keepsFrom_set _ _ _), (HKw.out.set (by omega)).1, Boxed.set _ HBn.out, HBl.out.1.setCell (p := ⟨bk, 0, none⟩) (Nat.le_refl _) _⟩
          case stopd =>
            rintro D2 c k W3 _ _ hF _
            exact hF.elim
          case doned =>
            rintro D2 W3 hD2 ⟨bK1, hB4⟩ hK4
            have zB2 := hB4.size
            rw [hEl] at bK1
            have cK := Boxed.cell bK1
            have bN5 : Boxed W3 bn 3 (.int .i64 nv) := (hB4.block _ (by omega)).trans bN3
            have HG3 : Hid (GoS w W3 bs br bw be bn st aw cw av cv wl E) := HG2.out.below (hB4.mono (by omega))
            have hK5 : W3.heap[D]? = some (.deferred (some [])) := (hB4.block _ (by omega)).trans hK3
            have belW5 : Below w.heap.size w W3 := HBw2.out.trans (hB4.mono (by omega))
            have cN := Boxed.cell bN5
            have cS := HG3.out.s.cell
            have cR := HG3.out.r.cell
            have fR := HG3.out.r.frozen
            have cW := HG3.out.wb.cell
            clear bK1 bN5 hB4
            rcases hnv with rfl | rfl
            · have hq0 : ((wl.length : Int) == (wl.length : Int)) = true := by simp
              gi_wp2
              refine ⟨trivial, (callsIn_wide.2 (awake_any _)).mono ?_⟩
              rintro e w7x ⟨rfl, hb7⟩
              have zB3 := hb7.size
              have bR6 : Boxed w7x br 4 (.bool false) := (hb7.block _ HG3.out.r.lt).trans HG3.out.r
              have cR6 := bR6.cell
              have fR6 := bR6.frozen
              have hK6 : w7x.heap[D]? = some (.deferred (some [])) := (hb7.block _ (Array.getElem?_eq_some_iff.1 hK5).1).trans hK5
              have hK7 : w7x.heap[D2]? = some (.deferred (some [])) := (hb7.block _ (Array.getElem?_eq_some_iff.1 hK4).1).trans hK4
              have belW6 : Below w.heap.size w w7x := belW5.trans (hb7.mono belW5.size)
              clear cR fR cN cS cW cK
              gi_wp2
              have hK8 : (w7x.setCell ⟨br, 0, none⟩ (.bool true)).heap[D2]? = some (.deferred (some [])) := (Below.heap_setCell _ _ _ _ (by show D2 ≠ br; omega)).trans hK7
              have hK9 : ((w7x.setCell ⟨br, 0, none⟩ (.bool true)).putObj D2 (.deferred none)).heap[D]? = some (.deferred (some [])) := ((grownBy_putObj' _ D2 _).block D (by simp; omega) (by simp; omega)).trans ((Below.heap_setCell _ _ _ _ (by show D ≠ br; omega)).trans hK6)
              have bR8 : Boxed ((w7x.setCell ⟨br, 0, none⟩ (.bool true)).putObj D2 (.deferred none)) br 4 (.bool true) := (bR6.set _).kept (grownBy_putObj' _ D2 _) (by simp; omega)
              have bR9 : Boxed (((w7x.setCell ⟨br, 0, none⟩ (.bool true)).putObj D2 (.deferred none)).putObj D (.deferred none)) br 4 (.bool true) := bR8.kept (grownBy_putObj' _ D _) (by simp; omega)
              have bel7 : Below w.heap.size w (w7x.setCell ⟨br, 0, none⟩ (.bool true)) := belW6.setCell (p := ⟨br, 0, none⟩) (by show w.heap.size ≤ br; omega) _
              have bel8 := bel7.trans (belowK_b (w := w) (Nat.le_refl _) _ D2 _ (.deferred none) (by omega) hK8 rfl rfl)
              have bel9 := bel8.trans (belowK_b (w := w) (Nat.le_refl _) _ D _ (.deferred none) (by omega) hK9 rfl rfl)
              refine ⟨by simp, .inl ⟨_, _, rfl, run_takeDeferred hK8, ?_⟩⟩
              refine ⟨by simp, .inl ⟨_, _, rfl, run_takeDeferred hK9, ?_⟩⟩
              exact ⟨_, results_boolCell6 rfl _ _ _ true rfl bR9.cell, rfl, bel9⟩
            · by_cases hst : nv = (wl.length : Int)
              · have hq : (nv == (wl.length : Int)) = true := by simp [hst]
                gi_wp2
                refine ⟨trivial, (callsIn_wide.2 (awake_any _)).mono ?_⟩
                rintro e w7x ⟨rfl, hb7⟩
                have zB3 := hb7.size
                have bR6 : Boxed w7x br 4 (.bool false) := (hb7.block _ HG3.out.r.lt).trans HG3.out.r
                have cR6 := bR6.cell
                have fR6 := bR6.frozen
                have hK6 : w7x.heap[D]? = some (.deferred (some [])) := (hb7.block _ (Array.getElem?_eq_some_iff.1 hK5).1).trans hK5
                have hK7 : w7x.heap[D2]? = some (.deferred (some [])) := (hb7.block _ (Array.getElem?_eq_some_iff.1 hK4).1).trans hK4
                have belW6 : Below w.heap.size w w7x := belW5.trans (hb7.mono belW5.size)
                clear cR fR cN cS cW cK
                gi_wp2
                have hK8 : (w7x.setCell ⟨br, 0, none⟩ (.bool true)).heap[D2]? = some (.deferred (some [])) := (Below.heap_setCell _ _ _ _ (by show D2 ≠ br; omega)).trans hK7
                have hK9 : ((w7x.setCell ⟨br, 0, none⟩ (.bool true)).putObj D2 (.deferred none)).heap[D]? = some (.deferred (some [])) := ((grownBy_putObj' _ D2 _).block D (by simp; omega) (by simp; omega)).trans ((Below.heap_setCell _ _ _ _ (by show D ≠ br; omega)).trans hK6)
                have bR8 : Boxed ((w7x.setCell ⟨br, 0, none⟩ (.bool true)).putObj D2 (.deferred none)) br 4 (.bool true) := (bR6.set _).kept (grownBy_putObj' _ D2 _) (by simp; omega)
                have bR9 : Boxed (((w7x.setCell ⟨br, 0, none⟩ (.bool true)).putObj D2 (.deferred none)).putObj D (.deferred none)) br 4 (.bool true) := bR8.kept (grownBy_putObj' _ D _) (by simp; omega)
                have bel7 : Below w.heap.size w (w7x.setCell ⟨br, 0, none⟩ (.bool true)) := belW6.setCell (p := ⟨br, 0, none⟩) (by show w.heap.size ≤ br; omega) _
                have bel8 := bel7.trans (belowK_b (w := w) (Nat.le_refl _) _ D2 _ (.deferred none) (by omega) hK8 rfl rfl)
                have bel9 := bel8.trans (belowK_b (w := w) (Nat.le_refl _) _ D _ (.deferred none) (by omega) hK9 rfl rfl)
                refine ⟨by simp, .inl ⟨_, _, rfl, run_takeDeferred hK8, ?_⟩⟩
                refine ⟨by simp, .inl ⟨_, _, rfl, run_takeDeferred hK9, ?_⟩⟩
                exact ⟨_, results_boolCell6 rfl _ _ _ true rfl bR9.cell, rfl, bel9⟩
              · have hq : (nv == (wl.length : Int)) = false := by simp [hst]
                gi_wp2
                refine ⟨trivial, (callsIn_wide.2 (awake_any _)).mono ?_⟩
                rintro e w7x ⟨rfl, hb7⟩
                have zB3 := hb7.size
                have bR6 : Boxed w7x br 4 (.bool false) := (hb7.block _ HG3.out.r.lt).trans HG3.out.r
                have cR6 := bR6.cell
                have fR6 := bR6.frozen
                have hK6 : w7x.heap[D]? = some (.deferred (some [])) := (hb7.block _ (Array.getElem?_eq_some_iff.1 hK5).1).trans hK5
                have hK7 : w7x.heap[D2]? = some (.deferred (some [])) := (hb7.block _ (Array.getElem?_eq_some_iff.1 hK4).1).trans hK4
                have belW6 : Below w.heap.size w w7x := belW5.trans (hb7.mono belW5.size)
                clear cR fR cN cS cW cK
                gi_wp2
                have hK8 : (w7x.setCell ⟨br, 0, none⟩ (.bool true)).heap[D2]? = some (.deferred (some [])) := (Below.heap_setCell _ _ _ _ (by show D2 ≠ br; omega)).trans hK7
                have hK9 : ((w7x.setCell ⟨br, 0, none⟩ (.bool true)).putObj D2 (.deferred none)).heap[D]? = some (.deferred (some [])) := ((grownBy_putObj' _ D2 _).block D (by simp; omega) (by simp; omega)).trans ((Below.heap_setCell _ _ _ _ (by show D ≠ br; omega)).trans hK6)
                have bR8 : Boxed ((w7x.setCell ⟨br, 0, none⟩ (.bool true)).putObj D2 (.deferred none)) br 4 (.bool true) := (bR6.set _).kept (grownBy_putObj' _ D2 _) (by simp; omega)
                have bR9 : Boxed (((w7x.setCell ⟨br, 0, none⟩ (.bool true)).putObj D2 (.deferred none)).putObj D (.deferred none)) br 4 (.bool true) := bR8.kept (grownBy_putObj' _ D _) (by simp; omega)
                have bel7 : Below w.heap.size w (w7x.setCell ⟨br, 0, none⟩ (.bool true)) := belW6.setCell (p := ⟨br, 0, none⟩) (by show w.heap.size ≤ br; omega) _
                have bel8 := bel7.trans (belowK_b (w := w) (Nat.le_refl _) _ D2 _ (.deferred none) (by omega) hK8 rfl rfl)
                have bel9 := bel8.trans (belowK_b (w := w) (Nat.le_refl _) _ D _ (.deferred none) (by omega) hK9 rfl rfl)
                refine ⟨by simp, .inl ⟨_, _, rfl, run_takeDeferred hK8, ?_⟩⟩
                refine ⟨by simp, .inl ⟨_, _, rfl, run_takeDeferred hK9, ?_⟩⟩
                exact ⟨_, results_boolCell6 rfl _ _ _ true rfl bR9.cell, rfl, bel9⟩
        clear ar
        refine range_ofE h1n (gf := 47) (lb := #[.pointer (some ⟨be, 0, none⟩)]) rfl (enters_of Tryz.func47 (by kernel_rfl) rfl)
          (each1_seq (n - 1) (by omega) be (fun k => k < bn) av cv E W10 HG.out.e.cell (by omega) (fun k hk => by omega) HG.out.got HG.out.cap (by have h1 := congrArg List.length HG.out.eq; have h2 := HG.out.len; simp at h1; omega)) KeepsS.trans (keepsSK_b (fun j hj => by omega)) (Below.refl _ _) (fun x u W h => by obtain ⟨a, c, e, _⟩ := h; rw [e]; rfl)
          (fun k W => Boxed W bn 3 (.int .i64 (k : Int)) ∧ Below bn W10 W)
          (fun c k W => c = .exit 2 ∧ Boxed W bn 3 (.int .i64 st) ∧ Below bn W10 W)
          own1
          (fun c s X Y row hs hg hr => ⟨hs.1, own2 s X Y row hs.2 hg hr⟩)
          ⟨bN10, Below.refl _ _⟩
          (fun x a' W => ∃ Bx a c, AxS W10.heap.size x Bx a c W ∧ a' = { tmps := #[.slice a1 l.length c1, .slice ak kn.length ck, .int .i64 st, undef, undef, .pointer (some ⟨bs, 0, none⟩), .pointer (some ⟨br, 0, none⟩), .pointer (some ⟨lb, 0, none⟩), .pointer (some ⟨yb, 0, none⟩), .slice ao kn.length co, .func (.func 47) #[] #[.pointer (some ⟨be, 0, none⟩)], .int .i64 (k : Int), .pointer (some ⟨bw, 0, none⟩), .pointer (some ⟨bn, 0, none⟩), .pointer (some ⟨Bx, 0, none⟩), undef, undef, undef, .tuple #[.pointer (some ⟨lb, 0, none⟩), .agg #[.int .i64 50, .slice ay L.length cy]], .slice a1 l.length c1, .tuple #[.pointer (some ⟨lb, 0, none⟩), .agg #[.int .i64 50, .slice ay L.length cy]], .pointer (some ⟨lb, 0, none⟩), .agg #[.int .i64 50, .slice ay L.length cy], .slice (some ⟨yb + 1, 0, none⟩) 0 0, .slice ak kn.length ck, .slice ao kn.length co, .pointer (some ⟨lb, 0, none⟩), .slice ao kn.length co, .func (.func 47) #[] #[.pointer (some ⟨be, 0, none⟩)], .func (.func 47) #[] #[.pointer (some ⟨be, 0, none⟩)], .bool false, .int .i64 (k : Int), .slice ao kn.length co, .int .i64 (kn.length : Int), .bool false, u35, u36, u37, u38, u39, .pointer (some ⟨lb, 0, none⟩), chV firstC (.slice none 0 0), .int .i64 wf, .slice (some ⟨w7.heap.size, 0, none⟩) 0 0, .slice ak kn.length ck, t45, t46, t47, t48, t49, t50, .func (.func 47) #[] #[.pointer (some ⟨be, 0, none⟩)], .agg #[.int .i64 x.1.ac, .int .i64 x.1.ar, .int .i64 x.1.seq, .slice a x.1.deps.length c, .int .i64 x.1.kind, .int .i64 x.1.nc, .int .i64 x.1.nr, .int .i64 x.1.pc, .int .i64 x.1.pr, .int .i64 x.1.fc, .int .i64 x.1.fr, .string x.1.name, .string x.1.value], undef, undef, undef, undef, undef, undef, undef, undef, undef, undef, undef, undef, undef, undef, undef, undef, undef, undef, undef, undef, undef, undef, undef, undef, undef, undef, undef, undef, undef, undef, undef, undef, undef, undef, undef, undef, undef, undef, undef, undef, undef, undef, undef, undef, undef, undef, undef, undef, undef, undef, undef, undef, undef, undef, undef, undef, undef, undef, undef, undef, undef, undef, undef, undef], defers := [] })
          (fun x a' _ X Y row hs hg hr => by obtain ⟨Bx, a, c, h2, h3⟩ := hs; exact ⟨Bx, a, c, h2.grown hg (fun r e => (hr r e).2), h3⟩)
          ?assign ?body ?done ?stop
        case assign =>
          rintro l k hk u W K ⟨a, c, rfl, ho⟩ ⟨bN1, hB1⟩ hK
          have zB := hB1.size
          generalize E[k] = x at *
          simp only [chV, chCells]
          gi_wp2
          refine hK _ _ ((KeepsOthers.alloc _ _).from _) (KeepsS.of_below ((Below.refl W.heap.size W).alloc (Nat.le_refl _) _) (fun k hk => by omega)) ⟨bN1.alloc _, hB1.alloc (by omega) _⟩ ⟨W.heap.size, a, c, ⟨heap_alloc_new _ _, ho.below ((Below.refl _ _).alloc (Nat.le_refl _) _), by omega⟩, rfl⟩
        case body =>
          rintro l k hk a' W hl ⟨bN1, hB1⟩ ⟨Bx, a, c, hA, rfl⟩
          have zB := hB1.size
          have HG1 : Hid (GoS w W bs br bw be bn st aw cw av cv wl E) := HG.out.below hB1
          obtain ⟨b, o, a2, e2, hkw, eaw, hI2, hbb, hcl⟩ := HG1.out.at hk
          subst eaw
          have HAx : Hid (AxS W10.heap.size E[k] Bx a c W) := hA
          have HI2 : Hid (IsI W (.slice a2 E[k].1.deps.length e2) E[k].1.deps) := hI2
          have HCl : Hid (∀ X, Below bn W X → ∀ j u, (chCells E[k].1 (.slice a2 E[k].1.deps.length e2))[j]? = some u → X.cell? ⟨b, o + k * 13 + j, none⟩ = some u) := hcl
          obtain ⟨_, _, _, _, hdl, _⟩ := hI2
          clear hcl hA
          generalize E[k] = x at *
          obtain ⟨⟨ac, ar, sq, ds, kd, nc, nr, pc, pr, fc, fr, nm, vl⟩, dv⟩ := x
          simp only at hdl HI2 HCl ⊢
          have HBl : Hid (BelN bn W10 W) := ⟨hB1, by omega⟩
          have HKf : Hid (KF W10.heap.size W W) := KeepsFrom.refl _ _
          have HKw : Hid (KeepsG (fun k => k < bn) W W) := ⟨KeepsS.refl _ _, fun k hk => by omega⟩
          have cN := Boxed.cell bN1
          have cS := HG1.out.s.cell
          have hl3 : k + 1 ≤ 64 := by have := HG1.out.len; omega
          have k0 : (0 : Int) ≤ (k : Int) := by omega
          have k1 : (k : Int) < (wl.length : Int) := by omega
          have hd : decide ((wl.length : Int) ≤ (k : Int)) = false := by simp only [decide_eq_false_iff_not]; omega
          have hln : ¬ wl.length ≤ k := by omega
          have hdn : decide (wl.length ≤ k) = false := by simp only [decide_eq_false_iff_not]; omega
          by_cases hst : (k : Int) = st
          · have qs : ((k : Int) == st) = true := by simp [hst]
            gi_wp2
            exact ⟨KeepsFrom.refl _ _, rfl, by rw [← hst]; exact bN1, hB1⟩
          · have qs : ((k : Int) == st) = false := by simp [hst]
            gi_wp2
            refine region_round_held (S := fun W' => BoxN bn (.int .i64 (k : Int)) W' ∧ Boxed W' bw 22 (.slice (some ⟨b, o, none⟩) wl.length cw) ∧ W'.heap[Bx]? = some (.cells #[.int .i64 ac, .int .i64 ar, .int .i64 sq, .slice a ds.length c, .int .i64 kd, .int .i64 nc, .int .i64 nr, .int .i64 pc, .int .i64 pr, .int .i64 fc, .int .i64 fr, .string nm, .string vl] 34) ∧ (∀ j u, (chCells (⟨ac, ar, sq, ds, kd, nc, nr, pc, pr, fc, fr, nm, vl⟩ : Ch) (.slice a2 ds.length e2))[j]? = some u → W'.cell? ⟨b, o + k * 13 + j, none⟩ = some u)) l (by kernel_rfl) (by kernel_rfl) (by first | exact lets_block lets_round | exact lets_then (lets_block lets_round) | exact lets_then (lets_then (lets_block lets_round)) | exact lets_then (lets_then (lets_then (lets_block lets_round)))) ⟨bN1, HG1.out.wb, HAx.out.box, HCl.out W (Below.refl _ _)⟩ (fun hHeld => ?_)
            obtain ⟨Ug3u0, eW⟩ : ∃ X, X = W.drew := ⟨_, rfl⟩
            have hb : Below W.heap.size W Ug3u0 := by rw [eW]; exact (Below.refl _ _).drew
            replace HBl : Hid (BelN bn W10 Ug3u0) := HBl.out.below hb
            replace HAx : Hid (AxS W10.heap.size ((⟨ac, ar, sq, ds, kd, nc, nr, pc, pr, fc, fr, nm, vl⟩ : Ch), dv) Bx a c Ug3u0) := HAx.out.below hb
            replace HKf : Hid (KF W10.heap.size W Ug3u0) := HKf.out.below hb
            replace HKw : Hid (KeepsG (fun k => k < bn) W Ug3u0) := HKw.out.below hb
            replace HI2 : Hid (IsI Ug3u0 (.slice a2 ds.length e2) ds) := HI2.out.below hb
            rw [← eW] at hHeld ⊢
            clear eW hb
            refine wpAnyH_take (i := 0) (oi := ⟨some 56, _, _, _, _, _⟩) (v := ?vg3ux0) rfl (by kernel_rfl) (by kernel_rfl) (by kernel_rfl) (fun _ _ _ h => h) (Or.inl ⟨by rfl, ?hyg3ux0⟩) hHeld ?restg3ux0
            case hyg3ux0 => (intro w hSw; (try dsimp only at hSw); obtain ⟨hn, hw, hx, hp⟩ := hSw; have cn := Boxed.cell hn; have cw1 := hw.cell; obtain ⟨k_0, k_1, k_2, k_3, k_4, k_5, k_6, k_7, k_8, k_9, k_10, k_11, k_12⟩ := row_cells hx; obtain ⟨m_0, m_1, m_2, m_3, m_4, m_5, m_6, m_7, m_8, m_9, m_10, m_11, m_12⟩ := chAll hp; simp only at m_0 m_1 m_2 m_3 m_4 m_5 m_6 m_7 m_8 m_9 m_10 m_11 m_12; go_simp; try with_reducible rfl)
            simp only [Act.put, List.setIfInBounds_toArray, List.set_cons_zero, List.set_cons_succ]
            refine wpAnyH_take (i := 1) (oi := ⟨some 57, _, _, _, _, _⟩) (v := ?vg3ux1) rfl (by kernel_rfl) (by kernel_rfl) (by kernel_rfl) (fun _ _ _ h => h) (Or.inl ⟨by rfl, ?hyg3ux1⟩) hHeld ?restg3ux1
            case hyg3ux1 => (intro w hSw; (try dsimp only at hSw); obtain ⟨hn, hw, hx, hp⟩ := hSw; have cn := Boxed.cell hn; have cw1 := hw.cell; obtain ⟨k_0, k_1, k_2, k_3, k_4, k_5, k_6, k_7, k_8, k_9, k_10, k_11, k_12⟩ := row_cells hx; obtain ⟨m_0, m_1, m_2, m_3, m_4, m_5, m_6, m_7, m_8, m_9, m_10, m_11, m_12⟩ := chAll hp; simp only at m_0 m_1 m_2 m_3 m_4 m_5 m_6 m_7 m_8 m_9 m_10 m_11 m_12; go_simp; try with_reducible rfl)
            simp only [Act.put, List.setIfInBounds_toArray, List.set_cons_zero, List.set_cons_succ]
            refine wpAnyH_take (i := 2) (oi := ⟨some 58, _, _, _, _, _⟩) (v := ?vg3ux2) rfl (by kernel_rfl) (by kernel_rfl) (by kernel_rfl) (fun _ _ _ h => h) (Or.inl ⟨by rfl, ?hyg3ux2⟩) hHeld ?restg3ux2
            case hyg3ux2 => (intro w hSw; (try dsimp only at hSw); obtain ⟨hn, hw, hx, hp⟩ := hSw; have cn := Boxed.cell hn; have cw1 := hw.cell; obtain ⟨k_0, k_1, k_2, k_3, k_4, k_5, k_6, k_7, k_8, k_9, k_10, k_11, k_12⟩ := row_cells hx; obtain ⟨m_0, m_1, m_2, m_3, m_4, m_5, m_6, m_7, m_8, m_9, m_10, m_11, m_12⟩ := chAll hp; simp only at m_0 m_1 m_2 m_3 m_4 m_5 m_6 m_7 m_8 m_9 m_10 m_11 m_12; go_simp; try with_reducible rfl)
            simp only [Act.put, List.setIfInBounds_toArray, List.set_cons_zero, List.set_cons_succ]
            refine wpAnyH_take (i := 3) (oi := ⟨some 59, _, _, _, _, _⟩) (v := ?vg3ux3) rfl (by kernel_rfl) (by kernel_rfl) (by kernel_rfl) (fun _ _ _ h => h) (Or.inl ⟨by rfl, ?hyg3ux3⟩) hHeld ?restg3ux3
            case hyg3ux3 => (intro w hSw; (try dsimp only at hSw); obtain ⟨hn, hw, hx, hp⟩ := hSw; have cn := Boxed.cell hn; have cw1 := hw.cell; obtain ⟨k_0, k_1, k_2, k_3, k_4, k_5, k_6, k_7, k_8, k_9, k_10, k_11, k_12⟩ := row_cells hx; obtain ⟨m_0, m_1, m_2, m_3, m_4, m_5, m_6, m_7, m_8, m_9, m_10, m_11, m_12⟩ := chAll hp; simp only at m_0 m_1 m_2 m_3 m_4 m_5 m_6 m_7 m_8 m_9 m_10 m_11 m_12; go_simp; try with_reducible rfl)
            simp only [Act.put, List.setIfInBounds_toArray, List.set_cons_zero, List.set_cons_succ]
            refine wpAnyH_take (i := 4) (oi := ⟨some 60, _, _, _, _, _⟩) (v := ?vg3ux4) rfl (by kernel_rfl) (by kernel_rfl) (by kernel_rfl) (fun _ _ _ h => h) (Or.inl ⟨by rfl, ?hyg3ux4⟩) hHeld ?restg3ux4
            case hyg3ux4 => (intro w _; go_simp; try with_reducible rfl)
            simp only [Act.put, List.setIfInBounds_toArray, List.set_cons_zero, List.set_cons_succ]
            refine wpAnyH_take (i := 5) (oi := ⟨some 61, _, _, _, _, _⟩) (v := ?vg3ux5) rfl (by kernel_rfl) (by kernel_rfl) (by kernel_rfl) (fun _ _ _ h => h) (Or.inl ⟨by rfl, ?hyg3ux5⟩) hHeld ?restg3ux5
            case hyg3ux5 => (intro w hSw; (try dsimp only at hSw); obtain ⟨hn, hw, hx, hp⟩ := hSw; have cn := Boxed.cell hn; have cw1 := hw.cell; obtain ⟨k_0, k_1, k_2, k_3, k_4, k_5, k_6, k_7, k_8, k_9, k_10, k_11, k_12⟩ := row_cells hx; obtain ⟨m_0, m_1, m_2, m_3, m_4, m_5, m_6, m_7, m_8, m_9, m_10, m_11, m_12⟩ := chAll hp; simp only at m_0 m_1 m_2 m_3 m_4 m_5 m_6 m_7 m_8 m_9 m_10 m_11 m_12; go_simp; try with_reducible rfl)
            simp only [Act.put, List.setIfInBounds_toArray, List.set_cons_zero, List.set_cons_succ]
            refine wpAnyH_take (i := 6) (oi := ⟨some 62, _, _, _, _, _⟩) (v := ?vg3ux6) rfl (by kernel_rfl) (by kernel_rfl) (by kernel_rfl) (fun _ _ _ h => h) (Or.inl ⟨by rfl, ?hyg3ux6⟩) hHeld ?restg3ux6
            case hyg3ux6 => (intro w hSw; (try dsimp only at hSw); obtain ⟨hn, hw, hx, hp⟩ := hSw; have cn := Boxed.cell hn; have cw1 := hw.cell; obtain ⟨k_0, k_1, k_2, k_3, k_4, k_5, k_6, k_7, k_8, k_9, k_10, k_11, k_12⟩ := row_cells hx; obtain ⟨m_0, m_1, m_2, m_3, m_4, m_5, m_6, m_7, m_8, m_9, m_10, m_11, m_12⟩ := chAll hp; simp only at m_0 m_1 m_2 m_3 m_4 m_5 m_6 m_7 m_8 m_9 m_10 m_11 m_12; go_simp; try with_reducible rfl)
            simp only [Act.put, List.setIfInBounds_toArray, List.set_cons_zero, List.set_cons_succ]
            refine wpAnyH_take (i := 7) (oi := ⟨some 63, _, _, _, _, _⟩) (v := ?vg3ux7) rfl (by kernel_rfl) (by kernel_rfl) (by kernel_rfl) (fun _ _ _ h => h) (Or.inl ⟨by rfl, ?hyg3ux7⟩) hHeld ?restg3ux7
            case hyg3ux7 => (intro w hSw; (try dsimp only at hSw); obtain ⟨hn, hw, hx, hp⟩ := hSw; have cn := Boxed.cell hn; have cw1 := hw.cell; obtain ⟨k_0, k_1, k_2, k_3, k_4, k_5, k_6, k_7, k_8, k_9, k_10, k_11, k_12⟩ := row_cells hx; obtain ⟨m_0, m_1, m_2, m_3, m_4, m_5, m_6, m_7, m_8, m_9, m_10, m_11, m_12⟩ := chAll hp; simp only at m_0 m_1 m_2 m_3 m_4 m_5 m_6 m_7 m_8 m_9 m_10 m_11 m_12; go_simp; try with_reducible rfl)
            simp only [Act.put, List.setIfInBounds_toArray, List.set_cons_zero, List.set_cons_succ]
            refine wpAnyH_take (i := 8) (oi := ⟨some 64, _, _, _, _, _⟩) (v := ?vg3ux8) rfl (by kernel_rfl) (by kernel_rfl) (by kernel_rfl) (fun _ _ _ h => h) (Or.inl ⟨by rfl, ?hyg3ux8⟩) hHeld ?restg3ux8
            case hyg3ux8 => (intro w hSw; (try dsimp only at hSw); obtain ⟨hn, hw, hx, hp⟩ := hSw; have cn := Boxed.cell hn; have cw1 := hw.cell; obtain ⟨k_0, k_1, k_2, k_3, k_4, k_5, k_6, k_7, k_8, k_9, k_10, k_11, k_12⟩ := row_cells hx; obtain ⟨m_0, m_1, m_2, m_3, m_4, m_5, m_6, m_7, m_8, m_9, m_10, m_11, m_12⟩ := chAll hp; simp only at m_0 m_1 m_2 m_3 m_4 m_5 m_6 m_7 m_8 m_9 m_10 m_11 m_12; go_simp; try with_reducible rfl)
            simp only [Act.put, List.setIfInBounds_toArray, List.set_cons_zero, List.set_cons_succ]
            refine wpAnyH_take (i := 9) (oi := ⟨some 65, _, _, _, _, _⟩) (v := ?vg3ux9) rfl (by kernel_rfl) (by kernel_rfl) (by kernel_rfl) (fun _ _ _ h => h) (Or.inl ⟨by rfl, ?hyg3ux9⟩) hHeld ?restg3ux9
            case hyg3ux9 => (intro w hSw; (try dsimp only at hSw); obtain ⟨hn, hw, hx, hp⟩ := hSw; have cn := Boxed.cell hn; have cw1 := hw.cell; obtain ⟨k_0, k_1, k_2, k_3, k_4, k_5, k_6, k_7, k_8, k_9, k_10, k_11, k_12⟩ := row_cells hx; obtain ⟨m_0, m_1, m_2, m_3, m_4, m_5, m_6, m_7, m_8, m_9, m_10, m_11, m_12⟩ := chAll hp; simp only at m_0 m_1 m_2 m_3 m_4 m_5 m_6 m_7 m_8 m_9 m_10 m_11 m_12; go_simp; try with_reducible rfl)
            simp only [Act.put, List.setIfInBounds_toArray, List.set_cons_zero, List.set_cons_succ]
            refine wpAnyH_ready (rs := [10]) (by kernel_rfl) (by simp) ?_
            refine AllReadyH.cons (o := ⟨some 66, _, _, _, _, _⟩) rfl (fun K hK => ?_) AllReadyH.nil
            go_simp
            refine (refSameCh_eq ac ar sq (.slice a ds.length c) (.slice a2 ds.length e2) kd nc nr pc pr fc fr nm vl ds _ (OwnI.isI HAx.out.own hdl) HI2.out).mono ?_
            rintro e Ug3u1 ⟨rfl, hb⟩
            (try go_wp2_with fail)
            refine hK.out _ _ (⟨hHeld.1.below hb, (hb.block _ hHeld.2.1.lt).trans hHeld.2.1, (hb.block _ (Array.getElem?_eq_some_iff.1 hHeld.2.2.1).1).trans hHeld.2.2.1, fun j u hj => (hb.cell (p := ⟨b, o + k * 13 + j, none⟩) (cell_lt (hHeld.2.2.2 j u hj))).trans (hHeld.2.2.2 j u hj)⟩) (fun hHeld2 => ?_)
            clear hK K hHeld
            have hHeld := hHeld2
            clear hHeld2
            (try simp only [Act.put, List.setIfInBounds_toArray, List.set_cons_zero, List.set_cons_succ])
            replace HBl : Hid (BelN bn W10 Ug3u1) := HBl.out.below hb
            replace HAx : Hid (AxS W10.heap.size ((⟨ac, ar, sq, ds, kd, nc, nr, pc, pr, fc, fr, nm, vl⟩ : Ch), dv) Bx a c Ug3u1) := HAx.out.below hb
            replace HKf : Hid (KF W10.heap.size W Ug3u1) := HKf.out.below hb
            replace HKw : Hid (KeepsG (fun k => k < bn) W Ug3u1) := HKw.out.below hb
            replace HI2 : Hid (IsI Ug3u1 (.slice a2 ds.length e2) ds) := HI2.out.below hb
            clear hb
            refine wpAnyH_take (i := 11) (oi := ⟨some 67, _, _, _, _, _⟩) (v := ?vg3u_10x11) rfl (by kernel_rfl) (by kernel_rfl) (by kernel_rfl) (fun _ _ _ h => h) (Or.inl ⟨by rfl, ?hyg3u_10x11⟩) hHeld ?restg3u_10x11
            case hyg3u_10x11 => (intro w _; go_simp; try with_reducible rfl)
            simp only [Act.put, List.setIfInBounds_toArray, List.set_cons_zero, List.set_cons_succ]
            refine wpAnyH_take (i := 12) (oi := ⟨some 68, _, _, _, _, _⟩) (v := ?vg3u_10x12) rfl (by kernel_rfl) (by kernel_rfl) (by kernel_rfl) (fun _ _ _ h => h) (Or.inl ⟨by rfl, ?hyg3u_10x12⟩) hHeld ?restg3u_10x12
            case hyg3u_10x12 => (intro w _; go_simp; try with_reducible rfl)
            simp only [Act.put, List.setIfInBounds_toArray, List.set_cons_zero, List.set_cons_succ]
            refine wpAnyH_done (by kernel_rfl) ?_ _
            have HBn : Hid (BoxN bn (.int .i64 (k : Int)) Ug3u1) := hHeld.1
            have HBx : Hid (Ug3u1.heap[Bx]? = some (.cells #[.int .i64 ac, .int .i64 ar, .int .i64 sq, .slice a ds.length c, .int .i64 kd, .int .i64 nc, .int .i64 nr, .int .i64 pc, .int .i64 pr, .int .i64 fc, .int .i64 fr, .string nm, .string vl] 34)) := hHeld.2.2.1
            clear hHeld
            have cn := Boxed.cell HBn.out
            have fn := Boxed.frozen HBn.out
            have HL0 : Hid (LpS bn W10.heap.size Ug3u1.heap.size W10 W Bx #[.int .i64 ac, .int .i64 ar, .int .i64 sq, .slice a ds.length c, .int .i64 kd, .int .i64 nc, .int .i64 nr, .int .i64 pc, .int .i64 pr, .int .i64 fc, .int .i64 fr, .string nm, .string vl] a ds.length (.int .i64 ((k : Int) + 1)) (Ug3u1.setCell ⟨bn, 0, none⟩ (.int .i64 ((k : Int) + 1)))) := LpS.start HBl.out HKf.out HKw.out HBn.out HAx.out (by omega) _
            gi_wp2
            obtain ⟨V0, eV0⟩ : ∃ X, X = Ug3u1.setCell ⟨bn, 0, none⟩ (.int .i64 ((k : Int) + 1)) := ⟨_, rfl⟩
            rw [← eV0] at HL0 ⊢
            clear eV0 cn fn cN cS
            gi_loopw [15] (fun iv wr => ∃ i : Nat, i ≤ ds.length ∧ iv = .int .i64 (i : Int) ∧ Hid (LpS bn W10.heap.size Ug3u1.heap.size W10 W Bx #[.int .i64 ac, .int .i64 ar, .int .i64 sq, .slice a ds.length c, .int .i64 kd, .int .i64 nc, .int .i64 nr, .int .i64 pc, .int .i64 pr, .int .i64 fc, .int .i64 fr, .string nm, .string vl] a ds.length (.int .i64 ((k : Int) + 1)) wr)) (fun iv _ => ds.length - (intOf iv).toNat)
            case atStart => exact ⟨0, Nat.zero_le _, rfl, HL0⟩
            case round =>
              obtain ⟨i, hi, rfl, HLr⟩ := hrel
              obtain ⟨k_0, k_1, k_2, k_3, k_4, k_5, k_6, k_7, k_8, k_9, k_10, k_11, k_12⟩ := row_cells HLr.out.row
              by_cases hlt2 : i < ds.length
              · obtain ⟨g, eg, hg, hr⟩ := HLr.out.giv.resolve_left (by omega)
                obtain ⟨⟨y, y1⟩, f1⟩ := hr i hlt2
                have i1 : (i : Int) < (ds.length : Int) := by omega
                have i0 : (0 : Int) ≤ (i : Int) := by omega
                have HLn : Hid (LpS bn W10.heap.size Ug3u1.heap.size W10 W Bx #[.int .i64 ac, .int .i64 ar, .int .i64 sq, .slice a ds.length c, .int .i64 kd, .int .i64 nc, .int .i64 nr, .int .i64 pc, .int .i64 pr, .int .i64 fc, .int .i64 fr, .string nm, .string vl] a ds.length (.int .i64 ((k : Int) + 1)) (wr.setCell ⟨g, i, none⟩ (.int .i64 (-7)))) := HLr.out.set eg hg.1 i (-7)
                subst eg
                clear hr
                gi_wp2
                go_roundw
                case rel => exact ⟨i + 1, by omega, by go_num, HLn⟩
                case measure => simp [intOf]; omega
              · gi_wp2
                exact ⟨HLr.out.kf, HLr.out.kw.1, HLr.out.bx, HLr.out.bel⟩
        case done =>
          rintro D W hD ⟨bN1, hB1⟩ hK
          exact REST2 _ D W hD bN1 hB1 hK (.inl (by have := congrArg List.length HG.out.eq; simp at this; rw [this]))
        case stop =>
          rintro D c ks W hD hks ⟨rfl, bN1, hB1⟩ hK
          clear hks
          gi_wp2
          exact REST2 _ D W hD bN1 hB1 hK (.inr rfl)
      clear aj
      by_cases hc : checkL kn = 0
      · rw [hc]
        have HY9 : HasG W8 yb #[.int .i64 50, .slice ay L.length cy] 29 := (HW8.out.block _ (row_lt HY8.out)).trans HY8.out
        obtain ⟨y_0, y_1, _, _⟩ := row2_cells HY9
        gi_wp2_with fail
        refine ⟨trivial, ?_⟩
        refine (callsIn_wide.2 (refAll_any G _ L _ kn W8 (HG8.out.below HW8.out) HIk8.out (by omega))).mono ?_
        rintro e w9 ⟨vw, rfl, hw9, hb9⟩
        clear y_0 y_1 HY9
        obtain ⟨aw, cw, ew⟩ := hw9.isH.form
        subst ew
        have HBw9 : Hid (Boxed w9 bw 22 (.slice (some ⟨w7.heap.size, 0, none⟩) 0 0)) := (hb9.block _ HBw8.out.lt).trans HBw8.out
        have xw := HBw9.out.cell
        have fw := HBw9.out.frozen
        gi_wp2
        have hz9 := hb9.size
        have h79 : Below w7.heap.size w7 w9 := HW8.out.trans (hb9.mono hz7)
        refine REST _ _ _ _ _ _ aw cw (lackL L kn) _ (h79.setCell (p := ⟨bw, 0, none⟩) (by show w7.heap.size ≤ bw; have := HSw.out; omega) _) (HBw9.out.set _) ?_ (by rw [HE.out, if_pos hc]; exact lackE_fst D L kn) (Nat.le_trans (List.length_filter_le _ _) hlen) (by have := HSw.out; simp; omega)
        refine (hw9.keep (w' := w9.setCell ⟨bw, 0, none⟩ (.slice aw (lackL L kn).length cw)) ⟨by simp, fun k hk => Below.heap_setCell _ _ _ _ (fun e => ?_)⟩).mono (fun k hk => ?_) (fun k hk => hk)
        · have e1 : k = bw := e
          rcases hk with hk | hk
          · have := HGl.out k hk; have := HZ.out; have := HS8.out; have := HSw.out; omega
          · have := HSw.out; omega
        · simp only [World.size_setCell]
          rcases hk with hk | hk
          · have := HGl.out k hk; have := HZ.out; have := HS8.out; have := HSw.out; omega
          · have := HSw.out; omega
      · have hc2 : (checkL kn == 0) = false := by simp [hc]
        gi_wp2
        exact REST _ _ _ _ _ _ (some ⟨w7.heap.size, 0, none⟩) 0 [] _ HW8.out HBw8.out ⟨fun k hk => hk, _, 0, rfl, Nat.zero_le _, by simp, .inl rfl⟩ (by rw [HE.out, if_neg hc]; rfl) (by simp) (by have := HSw.out; omega)

theorem goesWalk (v : Value) (l : List Ch) (kv : Value) (kn : List Int) (st : Int) (w : World) (h : IsH w v l) (hk : IsI w kv kn) (_ : (Lit.int .i64 st).wf = true) :
    Calls Tryz.prog 6 #[v, kv, .int .i64 st] w fun e w' => e = .returned (.bool true) ∧ Below w.heap.size w w' :=
  callsIn_wide.1 (goesLaw_in 8 (Nat.le_refl _) v l kv kn st w h hk)

end Go.Proofs.YtdefmdmbkiiejaaGreat

namespace Go.Proofs.YtdefmdmbkiiejaaGreat
open Go.ChangeShapes Go.WideShapes Go.ChangeAt Go.RowKit
open Go.ChangeMaps (open_string shut_string)
set_option linter.unusedVariables false

set_option maxRecDepth 100000 in
theorem oplogGoes_lifted (os : Os) (started : os.Started) (H : Type) (enc : TypeId × Value → H) :
    ReturnsInHanded {} Tryz.checked os 6 .any (Rows.oplogGoesSpec.pre6 enc Tryz.prog Tryz.f6 Rows.oplogGoesRow.domain false) (Rows.oplogGoesSpec.post enc Tryz.prog Tryz.f6 false true false false) := by
  refine returnsInHanded_of_change_sized (C := Tryz.checked) ownI started (by kernel_rfl) Tryz.func6
    (ChangeSpec.witness6 (enc := enc) (C := Tryz.checked) false ⟨#[], #[.slice none 0 0, .slice none 0 0, .int .i64 0], []⟩ 8 (by kernel_rfl) (by kernel_rfl) (by kernel_rfl) (by kernel_rfl)) ?_
  intro W base args ds gs before hval0 hW _ hsz0 _
  have hval : ∀ (j : Nat) t v, Tryz.f6.params[j]? = some t → args[j]? = some v → Value.okWide Tryz.prog W .any base t v := hval0
  have hW' := hW
  obtain ⟨p, q, hA0, hV, rfl, hfz, hnd⟩ := hW
  have hA : DataW.TrodAll enc Tryz.prog W 0 (fun _ => true) true Tryz.f6.params.toList args.toList ds p := hA0
  rw [Tryz.params6] at hA hval
  obtain ⟨v0, v1, v2, d0, d1, d2, p0, p1, p2, rfl, rfl, rfl, h0, h1, h2⟩ := trodAll_three hA
  obtain ⟨rfl, rfl⟩ := trodVars_none hV
  have hk0 := h0
  have hk1 := h1
  obtain ⟨D1, hf1, hd1⟩ := open_intsV (hval 1 32 v1 rfl rfl) h1
  obtain ⟨x2, rfl, rfl, rfl, wx2⟩ := open_int Tryz.underlying3 (hval 2 3 v2 rfl rfl) h2
  have hsz : (DataW.weightsEach Tryz.prog (Tryz.f6.params.toList ++ Rows.oplogGoesSpec.plain.varTypes Tryz.prog) (_ ++ _)).all (· ≤ reachBytes) = true := hsz0
  rw [Tryz.params6] at hsz
  have hw0 : ∀ n ∈ d0.weights Tryz.prog 22, n ≤ reachBytes := fun n hn => by
    have h1 := List.all_eq_true.1 hsz n (DataW.weights_mem_each (j := 0) rfl rfl n hn)
    simpa using h1
  obtain ⟨D0, is0, hl0⟩ := open_chsV (hval 0 22 v0 rfl rfl) h0 hw0
  have hlt0 : ∀ x ∈ p0, x.block < W.heap.size := fun x hx => by simpa using hW'.lt x (by simp [hx])
  have len1 : D1.length ≤ 17592186044416 := by
    rcases hd1 with ⟨_, rfl⟩ | ⟨els, sp, e, he⟩
    · simp
    · subst e
      have h1 := sized_slice hsz (j := 1) (t := 32) rfl rfl Tryz.underlying32
      have h2 : reachBytes ≤ 140737488355328 := by decide
      rw [bytesInt] at h1
      omega
  have is1 : IsI W v1 D1 := by obtain ⟨a, cap, e, h1, h2⟩ := hf1; exact ⟨a, cap, e, h1, len1, h2⟩
  have hlt1 : ∀ x ∈ p1, x.block < W.heap.size := fun x hx => by simpa using hW'.lt x (by simp [hx])
  clear hA0 hval0
  refine (goesWalk v0 D0 v1 D1 x2 W is0 is1 wx2).mono fun e W' ⟨he, bel⟩ => ?_
  subst he
  exact ⟨_, rfl, _, _, _, [], _, [], hW', trodAll_mk1 (shut_bool Tryz.underlying4 _), trodAll_mk3 (Below.trod laidOutI (by kernel_rfl) (of_decide_eq_true (by kernel_rfl)) hk0 bel hlt0) (Below.trod laidOutI (by kernel_rfl) (of_decide_eq_true (by kernel_rfl)) hk1 bel hlt1) (shut_int Tryz.underlying3 wx2), rfl, bel.frame _, fun h => by cases h⟩

theorem oplogGoes_holds : Rows.OplogGoesSaid :=
  OpenClaim.holds_of_wide 6 Tryz.f6 rfl rfl rfl rfl rfl rfl rfl ⟨rfl, rfl, rfl, rfl, rfl⟩ rfl rfl rfl rfl rfl (by kernel_rfl) Tryz.func6 (by kernel_rfl)
    (of_decide_eq_true (by kernel_rfl)) (by unfold Func.isWrapper; first | (rw [if_pos (by decide +kernel)]; kernel_rfl) | (rw [if_neg (by decide +kernel)]; exact ⟨rfl, rfl⟩))
    (fun os started H enc _ => oplogGoes_lifted os started H enc)
#print axioms oplogGoes_holds
end Go.Proofs.YtdefmdmbkiiejaaGreat
