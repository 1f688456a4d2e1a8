/- The walk of DomNil. -/
import Derived.Test.YtljmlbidbacdjabDoC
import Derived.Test.YtljmlbidbacdjabVtU
namespace Go.Proofs.Ytljmlbidbacdjab
open Go.RowKit Go.Shelf
set_option linter.unusedVariables false
set_option linter.unusedSimpArgs false

attribute [local go_sem] Oper.semAt_some

def tZo : VT := .node (0, 0) ⟨#[]⟩ ⟨#[]⟩ [] []
theorem eqlZ (w : World) : (binOp .eql 24 (.agg #[.int .i64 0, .int .i64 0]) (.agg #[.int .i64 0, .int .i64 0])).run Try.prog w = .ok (.bool true) w := by
  have h : (Op.equal 24 (.agg #[.int .i64 0, .int .i64 0]) (.agg #[.int .i64 0, .int .i64 0])).run Try.prog w = _ := equalSt (0, 0) (0, 0) w
  simp only [binOp]
  simp [h]

set_option maxRecDepth 100000 in
set_option maxHeartbeats 4000000 in
theorem tree_nil (w : World) : Calls Try.prog 30 #[.pointer none] w fun e w' => e = .returned (.agg #[.int .i64 0, .int .i64 0, .string ⟨#[]⟩, .string ⟨#[]⟩, .slice none 0 0, .slice none 0 0]) ∧ Below w.heap.size w w' := by
  obtain ⟨W1, eW⟩ : ∃ X, X = (w.alloc (.cells #[.int .i64 0, .int .i64 0, .string ⟨#[]⟩, .string ⟨#[]⟩, .slice none 0 0, .slice none 0 0] 42)).setRow w.heap.size #[.int .i64 0, .int .i64 0, .string ⟨#[]⟩, .string ⟨#[]⟩, .slice none 0 0, .slice none 0 0] := ⟨_, rfl⟩
  have hz : (w.alloc (.cells #[.int .i64 0, .int .i64 0, .string ⟨#[]⟩, .string ⟨#[]⟩, .slice none 0 0, .slice none 0 0] 42)).heap[w.heap.size]? = some (.cells #[.int .i64 0, .int .i64 0, .string ⟨#[]⟩, .string ⟨#[]⟩, .slice none 0 0, .slice none 0 0] 42) := heap_alloc_new _ _
  have hb : Below w.heap.size w W1 := (by rw [eW]; exact ((Below.refl _ _).alloc (Nat.le_refl _) _).grown (grown_setRow _ _ _) (by simp) (fun k e => by cases e; exact Nat.le_refl _))
  have hr : W1.heap[w.heap.size]? = some (.cells #[.int .i64 0, .int .i64 0, .string ⟨#[]⟩, .string ⟨#[]⟩, .slice none 0 0, .slice none 0 0] 42) := (by rw [eW]; exact setRow_same hz)
  have HB := hide8 hb
  have HR := hide8 hr
  have Hz := hide8 hz
  have HE := hide8 eW
  clear hb hr hz eW
  go_enter Try.func30, Try.ntmps30
  go_wp2_with (refine wpList_store_row rfl 42 (.tmp 2) (.tmp 7) rfl w.heap.size 42 #[.int .i64 0, .int .i64 0, .string ⟨#[]⟩, .string ⟨#[]⟩, .slice none 0 0, .slice none 0 0] #[.int .i64 0, .int .i64 0, .string ⟨#[]⟩, .string ⟨#[]⟩, .slice none 0 0, .slice none 0 0] rfl rfl Hz.out sizeVo rfl (by simp [Value.oneCell']) ?_; refine StpD.to ?_)
  refine StpD.of ?_
  rw [← HE.out]
  clear HE Hz
  go_wp2
  (try rw [Exit.noGoto_ret])
  refine bodyPost_ret (results_one rfl _ _ w.heap.size _ rfl (loadVNo _ _ _ _ _ _ _ _ HR.out)) rfl ?_
  exact ⟨rfl, HB.out⟩

set_option maxRecDepth 100000 in
set_option maxHeartbeats 4000000 in
theorem key_nil (w : World) : Calls Try.prog 13 #[.pointer none] w fun e w' => e = .returned (.agg #[.int .i64 0, .int .i64 0]) ∧ Below w.heap.size w w' := by
  obtain ⟨W1, eW⟩ : ∃ X, X = (w.alloc (.cells #[.int .i64 0, .int .i64 0] 24)).setRow w.heap.size #[.int .i64 0, .int .i64 0] := ⟨_, rfl⟩
  have hz : (w.alloc (.cells #[.int .i64 0, .int .i64 0] 24)).heap[w.heap.size]? = some (.cells #[.int .i64 0, .int .i64 0] 24) := heap_alloc_new _ _
  have hb : Below w.heap.size w W1 := (by rw [eW]; exact ((Below.refl _ _).alloc (Nat.le_refl _) _).grown (grown_setRow _ _ _) (by simp) (fun k e => by cases e; exact Nat.le_refl _))
  have hr : W1.heap[w.heap.size]? = some (.cells #[.int .i64 0, .int .i64 0] 24) := (by rw [eW]; exact setRow_same hz)
  have HB := hide8 hb
  have HR := hide8 hr
  have Hz := hide8 hz
  have HE := hide8 eW
  clear hb hr hz eW
  go_enter Try.func13, Try.ntmps13
  go_wp2_with (refine wpList_store_row rfl 24 (.tmp 2) (.tmp 5) rfl w.heap.size 24 #[.int .i64 0, .int .i64 0] #[.int .i64 0, .int .i64 0] rfl rfl Hz.out sizeSo rfl (by simp [Value.oneCell']) ?_; refine StpD.to ?_)
  refine StpD.of ?_
  rw [← HE.out]
  clear HE Hz
  go_wp2
  (try rw [Exit.noGoto_ret])
  refine bodyPost_ret (results_one rfl _ _ w.heap.size _ rfl (loadSTo _ _ _ _ HR.out)) rfl ?_
  exact ⟨rfl, HB.out⟩

set_option maxRecDepth 100000 in
set_option maxHeartbeats 4000000 in
theorem read_nil (w : World) : Calls Try.prog 12 #[.pointer none] w fun e w' => e = .returned (.agg #[.int .i64 0, .int .i64 0, .string ⟨#[]⟩, .string ⟨#[]⟩, .slice none 0 0, .slice none 0 0]) ∧ Below w.heap.size w w' := by
  obtain ⟨W0, eW⟩ : ∃ X, X = w.alloc (.cells #[.int .i64 0, .int .i64 0, .string ⟨#[]⟩, .string ⟨#[]⟩, .slice none 0 0, .slice none 0 0] 42) := ⟨_, rfl⟩
  have hb : Below w.heap.size w W0 := (by rw [eW]; exact (Below.refl _ _).alloc (Nat.le_refl _) _)
  have HR : Hid (W0.heap[w.heap.size]? = some (.cells #[.int .i64 0, .int .i64 0, .string ⟨#[]⟩, .string ⟨#[]⟩, .slice none 0 0, .slice none 0 0] 42)) := (by show _ = _; rw [eW]; exact heap_alloc_new _ _)
  have HL := hide8 hb
  have HE := hide8 eW
  clear hb eW
  go_enter Try.func12, Try.ntmps12
  go_upto_region 1 with fail
  rw [← HE.out]
  clear HE
  go_wp2_with fail
  refine (top_nil _).mono ?_
  rintro e w1 ⟨rfl, hb1⟩
  replace HL := hide8 (HL.out.trans (hb1.mono HL.out.size))
  replace HR := hide8 ((hb1.block _ (row_lt HR.out)).trans HR.out)
  clear hb1
  go_wp2_with fail
  refine (tree_nil _).mono ?_
  rintro e w2 ⟨rfl, hb1⟩
  replace HL := hide8 (HL.out.trans (hb1.mono HL.out.size))
  replace HR := hide8 ((hb1.block _ (row_lt HR.out)).trans HR.out)
  clear hb1
  obtain ⟨W3, eW⟩ : ∃ X, X = w2.setRow w.heap.size #[.int .i64 0, .int .i64 0, .string ⟨#[]⟩, .string ⟨#[]⟩, .slice none 0 0, .slice none 0 0] := ⟨_, rfl⟩
  have hr : W3.heap[w.heap.size]? = some (.cells #[.int .i64 0, .int .i64 0, .string ⟨#[]⟩, .string ⟨#[]⟩, .slice none 0 0, .slice none 0 0] 42) := (by rw [eW]; exact setRow_same HR.out)
  have hb : Below w.heap.size w W3 := (by rw [eW]; exact HL.out.grown (grown_setRow _ _ _) HL.out.size (fun k e => by cases e; exact Nat.le_refl _))
  have HR3 := hide8 hr
  have HB3 := hide8 hb
  have HE := hide8 eW
  clear hr hb eW
  go_wp2_with (refine wpList_store_row rfl 42 (.tmp 2) (.tmp 5) rfl w.heap.size 42 #[.int .i64 0, .int .i64 0, .string ⟨#[]⟩, .string ⟨#[]⟩, .slice none 0 0, .slice none 0 0] #[.int .i64 0, .int .i64 0, .string ⟨#[]⟩, .string ⟨#[]⟩, .slice none 0 0, .slice none 0 0] rfl rfl HR.out sizeVo rfl (by simp [Value.oneCell']) ?_; refine StpD.to ?_)
  refine StpD.of ?_
  rw [← HE.out]
  clear HE HR HL
  go_wp2
  (try rw [Exit.noGoto_ret])
  refine bodyPost_ret (results_one rfl _ _ w.heap.size _ rfl (loadVNo _ _ _ _ _ _ _ _ HR3.out)) rfl ?_
  exact ⟨rfl, HB3.out⟩

set_option maxRecDepth 100000 in
set_option maxHeartbeats 4000000 in
theorem domNil_walk (v : Value) (vs : Value) (s : St) (w : World) (hs : vs = .agg #[.int .i64 s.1, .int .i64 s.2]) :
    Calls Try.prog 3 #[v, vs] w fun e w' => e = .returned (.bool true) ∧ Below w.heap.size w w' := by
  subst hs
  obtain ⟨W0, eW⟩ : ∃ X, X = w.alloc (.cells #[.int .i64 s.1, .int .i64 s.2] 24) := ⟨_, rfl⟩
  have hb : Below w.heap.size w W0 := (by rw [eW]; exact (Below.refl _ _).alloc (Nat.le_refl _) _)
  have HR : Hid (W0.heap[w.heap.size]? = some (.cells #[.int .i64 s.1, .int .i64 s.2] 24)) := (by show _ = _; rw [eW]; exact heap_alloc_new _ _)
  have HL := hide8 hb
  have HE := hide8 eW
  clear hb eW
  go_enter Try.func3, Try.ntmps3
  go_upto_region 3 with fail
  rw [← HE.out]
  clear HE
  go_wp2_with fail
  refine (apply_nil _ _).mono ?_
  rintro e w1 ⟨rfl, hb1⟩
  replace HL := hide8 (HL.out.trans (hb1.mono HL.out.size))
  replace HR := hide8 ((hb1.block _ (row_lt HR.out)).trans HR.out)
  clear hb1
  go_wp2_with fail
  refine (attr_nil _ _).mono ?_
  rintro e w2 ⟨rfl, hb1⟩
  replace HL := hide8 (HL.out.trans (hb1.mono HL.out.size))
  replace HR := hide8 ((hb1.block _ (row_lt HR.out)).trans HR.out)
  clear hb1
  obtain ⟨y0, y1⟩ := row2o HR.out
  go_wp2_with fail
  clear y0 y1
  refine (find_nil s _).mono ?_
  rintro e w3 ⟨rfl, hb1⟩
  replace HL := hide8 (HL.out.trans (hb1.mono HL.out.size))
  replace HR := hide8 ((hb1.block _ (row_lt HR.out)).trans HR.out)
  clear hb1
  go_wp2_with fail
  refine (top_nil _).mono ?_
  rintro e w4 ⟨rfl, hb1⟩
  replace HL := hide8 (HL.out.trans (hb1.mono HL.out.size))
  clear hb1
  clear HR
  go_wp2_with fail
  refine (clone_nil _).mono ?_
  rintro e w5 ⟨rfl, hb1⟩
  replace HL := hide8 (HL.out.trans (hb1.mono HL.out.size))
  clear hb1
  go_wp2_with fail
  refine (len_nil _).mono ?_
  rintro e w6 ⟨rfl, hb1⟩
  replace HL := hide8 (HL.out.trans (hb1.mono HL.out.size))
  clear hb1
  go_wp2_with fail
  refine (links_nil _).mono ?_
  rintro e w7 ⟨rfl, hb1⟩
  replace HL := hide8 (HL.out.trans (hb1.mono HL.out.size))
  clear hb1
  go_wp2_with fail
  refine (read_nil _).mono ?_
  rintro e w8 ⟨rfl, hb1⟩
  replace HL := hide8 (HL.out.trans (hb1.mono HL.out.size))
  clear hb1
  go_wp2_with fail
  refine (refSame_any (fun _ => True) (fun _ => True) tZo tZo _ _ _ ⟨_, _, rfl, fdNilo _ _⟩ ⟨_, _, rfl, fdNilo _ _⟩).mono ?_
  rintro e w9 ⟨rfl, hb1⟩
  replace HL := hide8 (HL.out.trans (hb1.mono HL.out.size))
  clear hb1
  rw [eqV_true (rfl : tZo = tZo)]
  go_wp2_with fail
  refine (key_nil _).mono ?_
  rintro e w10 ⟨rfl, hb1⟩
  replace HL := hide8 (HL.out.trans (hb1.mono HL.out.size))
  clear hb1
  have hq : ∀ w9 : World, (binOp .eql 24 (.agg #[.int .i64 0, .int .i64 0]) (.agg #[.int .i64 0, .int .i64 0])).run Try.prog w9 = .ok (.bool true) w9 := fun w9 => eqlZ w9
  go_wp2_with fail
  refine (ntag_nil _).mono ?_
  rintro e w11 ⟨rfl, hb1⟩
  replace HL := hide8 (HL.out.trans (hb1.mono HL.out.size))
  clear hb1
  go_wp2_with fail
  refine (ntext_nil _).mono ?_
  rintro e w12 ⟨rfl, hb1⟩
  replace HL := hide8 (HL.out.trans (hb1.mono HL.out.size))
  clear hb1
  go_wp2_with fail
  refine (nattrs_nil _).mono ?_
  rintro e w13 ⟨rfl, hb1⟩
  replace HL := hide8 (HL.out.trans (hb1.mono HL.out.size))
  clear hb1
  go_wp2_with fail
  refine (nparent_nil _).mono ?_
  rintro e w14 ⟨rfl, hb1⟩
  replace HL := hide8 (HL.out.trans (hb1.mono HL.out.size))
  clear hb1
  go_wp2_with fail
  refine (nfirst_nil _).mono ?_
  rintro e w15 ⟨rfl, hb1⟩
  replace HL := hide8 (HL.out.trans (hb1.mono HL.out.size))
  clear hb1
  go_wp2_with fail
  refine (nlast_nil _).mono ?_
  rintro e w16 ⟨rfl, hb1⟩
  replace HL := hide8 (HL.out.trans (hb1.mono HL.out.size))
  clear hb1
  go_wp2_with fail
  refine (nprev_nil _).mono ?_
  rintro e w17 ⟨rfl, hb1⟩
  replace HL := hide8 (HL.out.trans (hb1.mono HL.out.size))
  clear hb1
  go_wp2_with fail
  refine (nnext_nil _).mono ?_
  rintro e w18 ⟨rfl, hb1⟩
  replace HL := hide8 (HL.out.trans (hb1.mono HL.out.size))
  clear hb1
  go_wp2_with fail
  refine (awakeO_any _).mono ?_
  rintro e w19 ⟨rfl, hb1⟩
  replace HL := hide8 (HL.out.trans (hb1.mono HL.out.size))
  clear hb1
  go_wp2
  clear hq
  (try rw [Exit.noGoto_ret])
  go_ret
  exact ⟨rfl, HL.out⟩
theorem domNil_walk2 (v : Value) (s : St) (w : World) : Calls Try.prog 3 #[v, .agg #[.int .i64 s.1, .int .i64 s.2]] w fun e w' => e = .returned (.bool true) ∧ Below w.heap.size w w' := domNil_walk v _ s w rfl

end Go.Proofs.Ytljmlbidbacdjab
