/- How many parcels a nil net has; BagsNil: a nil net has no replicas. -/
import Derived.Test.YtkpfijkpdgkphabBgP
namespace Go.Proofs.Ytkpfijkpdgkphab
open Go.RowKit Go.Shelf
set_option linter.unusedVariables false
set_option linter.unusedSimpArgs false

attribute [local go_sem] Oper.semAt_some

set_option maxRecDepth 100000 in
set_option maxHeartbeats 8000000 in
theorem lenNil_in (n0 : Nat) (hn : 5 ≤ n0) (w : World) :
    CallsIn Fence.wide n0 Try.prog 7 #[.pointer none] w fun e w' => e = .returned (.int .i64 0) ∧ Below w.heap.size w w' := by
  have hro : Fence.wide.round = none := rfl
  have h1n : 1 ≤ n0 := by omega
  have HD : Hid (([] : List (Nat × Nat × Nat)).length ≤ 8192) := by show _ ≤ _; simp
  refine callsIn_of_wp_marks Try.func7 rfl trivial ?_ hro
  simp only [Try.ntmps7, List.size_toArray, List.length_cons, List.length_nil, Nat.reduceAdd, Nat.reduceSub, Array.replicate_succ, Array.replicate_zero, List.push_toArray, List.append_toArray, List.nil_append, List.cons_append]
  have hb0 : Below w.heap.size w (w.alloc (.cells #[.int .i64 0] 3)) := (Below.refl _ _).alloc (Nat.le_refl _) _
  gi_wp2_with fail
  refine ⟨trivial, ?_⟩
  refine (callsIn_wide.2 (ways_nil _)).mono ?_
  rintro e W2 ⟨v, rfl, ⟨B1, a, c, rfl, hB1, hx, hov⟩, hb2⟩
  have hsz : w.heap.size + 1 ≤ W2.heap.size := by have := hb2.size; simpa using this
  have hs1 : (w.alloc (.cells #[.int .i64 0] 3)).heap.size = w.heap.size + 1 := by simp
  rw [hs1] at hB1 hov hb2
  obtain ⟨S, eS⟩ : ∃ S : Nat → Prop, S = fun k => w.heap.size + 1 ≤ k ∧ k < W2.heap.size := ⟨_, rfl⟩
  have hSl : ∀ k, S k → k < W2.heap.size := fun k hk => by rw [eS] at hk; exact hk.2
  have HA0 : Hid (LenB w W2 S (sumW ((([] : List (Nat × Nat × Nat))).take 0)) W2) :=
    ⟨(hb2.block _ (by omega)).trans (World.alloc_heap_new w _), hb0.trans (hb2.mono (by omega)), ⟨KeepsS.refl _ _, hSl⟩, by omega, fun hk => by rw [eS] at hk; omega⟩
  have hRw : WaysIn S W2 a (([] : List (Nat × Nat × Nat))) := hov.ways S (fun k h1 h2 => by rw [eS]; exact ⟨h1, h2⟩)
  have HSq := values_seq (n0 - 1) (by omega) B1 c S a (([] : List (Nat × Nat × Nat))) W2 (by rw [eS]; exact ⟨hB1, hx.lt⟩) hSl hx.cell hRw HD.out
  clear hRw hov hb2 hsz hs1 hB1 hx eS hb0
  gi_wp2
  obtain ⟨D, hD⟩ : ∃ D, D = ([] : List (Nat × Nat × Nat)) := ⟨_, rfl⟩
  rw [← hD] at HD HA0 HSq
  have HDe : Hid (D = ([] : List (Nat × Nat × Nat))) := hD
  clear hD
  refine range_of h1n (gf := 35) (lb := #[.pointer (some ⟨B1, 0, none⟩)]) rfl (enters_of Try.func35 (by kernel_rfl) rfl) HSq KeepsS.trans (keepsSK_b hSl) (Below.refl _ _) (fun _ => rfl)
    (fun k W => LenB w W2 S (sumW (D.take k)) W) (fun _ _ _ => False)
    (fun k A B row h1 hg hr => h1.grown hg hr) (fun c k A B row hf _ _ => hf) HA0.out
    (fun x a' W => ∃ Bx, W2.heap.size ≤ Bx ∧ W.heap[Bx]? = some (.cells #[.int .i64 (x.1 : Int), .int .i64 (x.2.1 : Int), .int .i64 (x.2.2 : Int)] 55) ∧ a' = { tmps := #[.pointer none, undef, .int .i64 0, .pointer (some ⟨w.heap.size, 0, none⟩), .pointer (some ⟨Bx, 0, none⟩), .pointer none, .func (.func 35) #[] #[.pointer (some ⟨B1, 0, none⟩)], .agg #[.int .i64 (x.1 : Int), .int .i64 (x.2.1 : Int), .int .i64 (x.2.2 : Int)], undef, undef, undef, undef, undef], defers := [] })
    (fun x a' u A B row ⟨Bx, h1, h2, h5⟩ hg hr => ⟨Bx, h1, row_own h2 hg (fun r e => (hr r e).2), h5⟩)
    ?assign ?body ?done ?stop
  case assign =>
    rintro l k hk
    exact absurd hk (by rw [HDe.out]; simp)
  case body =>
    rintro l k hk
    exact absurd hk (by rw [HDe.out]; simp)
  case done =>
    rintro Dd W hDd hA hDf
    rw [List.take_length] at hA
    have HA : Hid (LenB w W2 S (sumW D) W) := hA
    have HDf : Hid (W.heap[Dd]? = some (.deferred (some []))) := hDf
    have x1 := hA.box.cell
    clear hA hDf
    gi_wp2
    refine ⟨by simp, .inl ⟨_, _, rfl, run_takeDeferred HDf.out, ?_⟩⟩
    have hgp : W.grownBy (W.putObj Dd (.deferred none)) (some Dd) := grownBy_putObj' W Dd (.deferred none)
    have hE := HA.out.grown hgp (fun r e => by cases e; exact ⟨hDd, _, HDf.out, rfl⟩)
    exact ⟨_, results_tmp rfl _ _ _, by rw [HDe.out]; rfl, hE.bel⟩
  case stop => rintro D c k W hD hk hf; exact hf.elim

theorem len_nil (w : World) : Calls Try.prog 7 #[.pointer none] w fun e w' => e = .returned (.int .i64 0) ∧ Below w.heap.size w w' :=
  callsIn_wide.1 (lenNil_in 5 (Nat.le_refl _) w)

theorem results_boolCell {fn : Func} (hr : fn.results = #[.cell 2 4]) (tmps : Array Value) (R : Nat) (w : World) (b : Bool) (hp : tmps.getD 2 undef = .pointer (some ⟨R, 0, none⟩)) (hc : w.cell? ⟨R, 0, none⟩ = some (.bool b)) : (results fn tmps).run Try.prog w = .ok (.bool b) w := by
  have hp' : tmps[2]?.getD undef = .pointer (some ⟨R, 0, none⟩) := by simpa using hp
  simp [results, hr, hp', asAddr, loadVar, isAgg, run_underlying Try.underlying4, load, go_sem]
  simp [Sem.run, hc]
theorem eql_nilFunc (B1 : Nat) (w : World) : (binOp .eql 32 (.func (.func 35) #[] #[.pointer (some ⟨B1, 0, none⟩)]) .nilFunc).run Try.prog w = .ok (.bool false) w := by kernel_rfl
/-- The call's box, and the result's. -/
structure NilB (w W2 : World) (kd fr to i at_ mask : Int) (pv : Value) (U : World) : Prop where
  act : RowA7 w.heap.size kd fr to i at_ mask pv U
  box : Boxed U (w.heap.size + 1) 4 (.bool false)
  bel : Below w.heap.size w U
  b1 : w.heap.size + 1 < W2.heap.size
section
variable {w W2 U U' : World} {kd fr to i at_ mask : Int} {pv : Value}
theorem NilB.below (h : NilB w W2 kd fr to i at_ mask pv U) (hb : Below U.heap.size U U') : NilB w W2 kd fr to i at_ mask pv U' := ⟨h.act.below hb, (hb.block _ h.box.lt).trans h.box, h.bel.trans (hb.mono h.bel.size), h.b1⟩
theorem NilB.grown (h : NilB w W2 kd fr to i at_ mask pv U) {row : Option Nat} (hg : U.grownBy U' row) (hr : ∀ r, row = some r → W2.heap.size ≤ r ∧ ∃ o : Obj, U.heap[r]? = some o ∧ o.isCells = false) : NilB w W2 kd fr to i at_ mask pv U' := by
  have hr2 : ∀ r, row = some r → ∃ o : Obj, U.heap[r]? = some o ∧ o.isCells = false := fun r e => (hr r e).2
  have hb1 := h.b1
  exact ⟨⟨row_own h.act.out hg hr2⟩, row_own h.box hg hr2, h.bel.grown hg h.bel.size (fun j e => by have := (hr j e).1; omega), h.b1⟩
end

set_option maxRecDepth 100000 in
set_option maxHeartbeats 8000000 in
theorem bagsNil_in (n0 : Nat) (hn : 5 ≤ n0) (ac : Ac) (pv : Value) (w : World) (h : IsB w pv ac.p) (hok : AcOk ac) :
    CallsIn Fence.wide n0 Try.prog 3 #[.agg #[.int .i64 ac.kind, .int .i64 ac.fr, .int .i64 ac.to, .int .i64 ac.i, .int .i64 ac.at_, .int .i64 ac.mask, pv]] w fun e w' => e = .returned (.bool true) ∧ Below w.heap.size w w' := by
  obtain ⟨kd, fr, to, i, at_, mask, p⟩ := ac
  simp only at h hok ⊢
  obtain ⟨ap, cp, ep⟩ := h.form
  subst ep
  have hro : Fence.wide.round = none := rfl
  have h1n : 1 ≤ n0 := by omega
  obtain ⟨W0, eW⟩ : ∃ X, X = (w.alloc (.cells #[.int .i64 kd, .int .i64 fr, .int .i64 to, .int .i64 i, .int .i64 at_, .int .i64 mask, .slice ap p.length cp] 24)).alloc (.cells #[.bool false] 4) := ⟨_, rfl⟩
  have e1 : (w.alloc (.cells #[.int .i64 kd, .int .i64 fr, .int .i64 to, .int .i64 i, .int .i64 at_, .int .i64 mask, .slice ap p.length cp] 24)).heap.size = w.heap.size + 1 := by simp
  have hb0 : Below w.heap.size w W0 := by rw [eW]; exact ((Below.refl _ _).alloc (Nat.le_refl _) _).alloc (by simp) _
  have hs0 : W0.heap.size = w.heap.size + 2 := by rw [eW]; simp
  have HA0 : Hid (RowA7 w.heap.size kd fr to i at_ mask (.slice ap p.length cp) W0) := by rw [eW]; exact ⟨(Below.heap_alloc _ _ _ (by simp)).trans (heap_alloc_new w _)⟩
  have HX0 : Hid (Boxed W0 (w.heap.size + 1) 4 (.bool false)) := by
    rw [eW]
    have h0 := heap_alloc_new (w.alloc (.cells #[.int .i64 kd, .int .i64 fr, .int .i64 to, .int .i64 i, .int .i64 at_, .int .i64 mask, .slice ap p.length cp] 24)) (.cells #[.bool false] 4)
    rw [e1] at h0
    exact h0
  have HI0 : Hid (IsB W0 (.slice ap p.length cp) p) := h.below hb0
  obtain ⟨a_0, a_1, a_2, a_3, a_4, a_5, a_6⟩ := HA0.out.cells
  rw [eW] at a_0 a_1 a_2 a_3 a_4 a_5 a_6
  refine callsIn_of_wp_marks Try.func3 rfl trivial ?_ hro
  simp only [Try.ntmps3, List.size_toArray, List.length_cons, List.length_nil, Nat.reduceAdd, Nat.reduceSub, Array.replicate_succ, Array.replicate_zero, List.push_toArray, List.append_toArray, List.nil_append, List.cons_append]
  clear h e1
  gi_wp2_with fail
  rw [← eW]
  clear a_0 a_1 a_2 a_3 a_4 a_5 a_6
  refine ⟨trivial, ?_⟩
  refine (callsIn_wide.2 (play_nil kd fr to i at_ mask _ p _ HI0.out hok.1)).mono ?_
  rintro e w1 ⟨rfl, hb1⟩
  have hb01 : Below w.heap.size w w1 := hb0.trans (hb1.mono hb0.size)
  have HA1 : Hid (RowA7 w.heap.size kd fr to i at_ mask (.slice ap p.length cp) w1) := HA0.out.below hb1
  have HX1 : Hid (Boxed w1 (w.heap.size + 1) 4 (.bool false)) := (hb1.block _ HX0.out.lt).trans HX0.out
  have hs1 : w.heap.size + 2 ≤ w1.heap.size := by rw [← hs0]; exact hb1.size
  clear eW hb0 hb1 HI0 HA0 HX0 hs0
  obtain ⟨w2, eW2⟩ : ∃ X, X = w1.alloc (.cells #[.int .i64 0, .slice none 0 0] 28) := ⟨_, rfl⟩
  have hb2 : Below w1.heap.size w1 w2 := by rw [eW2]; exact (Below.refl _ _).alloc (Nat.le_refl _) _
  gi_wp2_with fail
  rw [← eW2]
  refine ⟨trivial, ?_⟩
  refine (callsIn_wide.2 (ways_nil _)).mono ?_
  rintro e W2 ⟨v, rfl, ⟨B1, a, c, rfl, hB1, hx, hov⟩, hb3⟩
  have hb23 : Below w1.heap.size w1 W2 := hb2.trans (hb3.mono hb2.size)
  have HN : Hid (NilB w W2 kd fr to i at_ mask (.slice ap p.length cp) W2) := ⟨HA1.out.below hb23, (hb23.block _ HX1.out.lt).trans HX1.out, hb01.trans (hb23.mono hb01.size), by have := hb23.size; omega⟩
  obtain ⟨S, eS⟩ : ∃ S : Nat → Prop, S = fun k => w2.heap.size ≤ k ∧ k < W2.heap.size := ⟨_, rfl⟩
  have hSl : ∀ k, S k → k < W2.heap.size := fun k hk => by rw [eS] at hk; exact hk.2
  have hRw : WaysIn S W2 a ([] : List (Nat × Nat × Nat)) := .inl rfl
  have HSq := values_seq (n0 - 1) (by omega) B1 c S a [] W2 (by rw [eS]; exact ⟨hB1, hx.lt⟩) hSl hx.cell hRw (by simp)
  clear hRw hov hb2 hb3 hb23 hB1 hx eS eW2 HA1 HX1
  have en := eql_nilFunc
  gi_wp2
  clear en
  refine range_of h1n (gf := 35) (lb := #[.pointer (some ⟨B1, 0, none⟩)]) rfl (enters_of Try.func35 (by kernel_rfl) rfl) HSq KeepsS.trans (keepsSK_b hSl) (Below.refl _ _) (fun _ => rfl)
    (fun k W => NilB w W2 kd fr to i at_ mask (.slice ap p.length cp) W) (fun _ _ _ => False)
    (fun k A B row h1 hg hr => h1.grown hg hr) (fun c k A B row hf _ _ => hf) HN.out
    (fun x a' W => True) (fun x a' u A B row _ hg hr => trivial)
    ?assign ?body ?done ?stop
  case assign =>
    rintro l k hk
    exact absurd hk (by simp)
  case body =>
    rintro l k hk
    exact absurd hk (by simp)
  case done =>
    rintro Dd W hDd hA hDf
    have HA : Hid (NilB w W2 kd fr to i at_ mask (.slice ap p.length cp) W) := hA
    have HDf : Hid (W.heap[Dd]? = some (.deferred (some []))) := hDf
    clear hA hDf
    gi_wp2_with fail
    refine ⟨trivial, ?_⟩
    refine (callsIn_wide.2 (size_nil _)).mono ?_
    rintro e w' ⟨rfl, hw⟩
    replace hw := hw.symm
    subst hw
    gi_wp2_with fail
    refine ⟨trivial, ?_⟩
    refine (callsIn_wide.2 (len_nil _)).mono ?_
    rintro e W3 ⟨rfl, hb3⟩
    have HA3 : Hid (NilB w W2 kd fr to i at_ mask (.slice ap p.length cp) W3) := HA.out.below hb3
    have HD3 : Hid (W3.heap[Dd]? = some (.deferred (some []))) := (hb3.block _ (row_lt HDf.out)).trans HDf.out
    obtain ⟨a_0, a_1, a_2, a_3, a_4, a_5, a_6⟩ := HA3.out.act.cells
    clear hb3 HA HDf
    gi_wp2_with fail
    refine ⟨trivial, ?_⟩
    refine (callsIn_wide.2 (waiting_nil fr to _)).mono ?_
    rintro e w' ⟨rfl, hw⟩
    replace hw := hw.symm
    subst hw
    gi_wp2_with fail
    refine ⟨trivial, ?_⟩
    refine (callsIn_wide.2 (clone_nil _)).mono ?_
    rintro e w' ⟨rfl, hw⟩
    replace hw := hw.symm
    subst hw
    clear a_0 a_1 a_2 a_3 a_4 a_5 a_6
    gi_wp2_with fail
    refine ⟨trivial, ?_⟩
    refine (callsIn_wide.2 (awake_any _)).mono ?_
    rintro e W4 ⟨rfl, hb4⟩
    have HA4 : Hid (NilB w W2 kd fr to i at_ mask (.slice ap p.length cp) W4) := HA3.out.below hb4
    have HD4 : Hid (W4.heap[Dd]? = some (.deferred (some []))) := (hb4.block _ (row_lt HD3.out)).trans HD3.out
    have cO := HA4.out.box.cell
    have fO := HA4.out.box.frozen
    have hb1 := HA4.out.b1
    clear hb4 HA3 HD3
    gi_wp2
    have hK2 : (W4.setCell ⟨w.heap.size + 1, 0, none⟩ (.bool true)).heap[Dd]? = some (.deferred (some [])) := (Below.heap_setCell _ _ _ _ (by show Dd ≠ w.heap.size + 1; omega)).trans HD4.out
    have b2 : Boxed ((W4.setCell ⟨w.heap.size + 1, 0, none⟩ (.bool true)).putObj Dd (.deferred none)) (w.heap.size + 1) 4 (.bool true) := (HA4.out.box.set _).kept (grownBy_putObj' _ Dd _) (by simp; omega)
    have bel2 := (HA4.out.bel.setCell (p := ⟨w.heap.size + 1, 0, none⟩) (by show w.heap.size ≤ w.heap.size + 1; omega) (.bool true)).trans (belowK_b (w := w) (Nat.le_refl _) _ Dd _ (.deferred none) (by omega) hK2 rfl rfl)
    refine ⟨by simp, .inl ⟨_, _, rfl, run_takeDeferred hK2, ?_⟩⟩
    exact ⟨_, results_boolCell rfl _ _ _ true rfl b2.cell, rfl, bel2⟩
  case stop => rintro D c k W hD hk hf; exact hf.elim

theorem bagsNil_walk (ac : Ac) (pv : Value) (w : World) (h : IsB w pv ac.p) (hok : AcOk ac) :
    Calls Try.prog 3 #[.agg #[.int .i64 ac.kind, .int .i64 ac.fr, .int .i64 ac.to, .int .i64 ac.i, .int .i64 ac.at_, .int .i64 ac.mask, pv]] w fun e w' => e = .returned (.bool true) ∧ Below w.heap.size w w' :=
  callsIn_wide.1 (bagsNil_in 5 (Nat.le_refl _) ac pv w h hok)

end Go.Proofs.Ytkpfijkpdgkphab
