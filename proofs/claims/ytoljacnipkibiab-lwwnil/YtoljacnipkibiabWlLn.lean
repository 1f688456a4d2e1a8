/- LwwNil: nil registers have nothing. -/
import Derived.Test.YtoljacnipkibiabLwM
import Derived.Test.YtoljacnipkibiabLwZ
namespace Go.Proofs.Ytoljacnipkibiab
open Go.RowKit Go.Shelf
set_option linter.unusedVariables false
set_option linter.unusedSimpArgs false

attribute [local go_sem] Oper.semAt_some

set_option maxHeartbeats 1000000 in
theorem clone0_any (r : Rg) (w : World) : Calls Try.prog 13 #[.pointer none] w fun e w' => e = .returned (.pointer none) ∧ Below w.heap.size w w' := by
  go_enter Try.func13, Try.ntmps13
  go_wp2
  go_ret
  exact ⟨rfl, by first | exact Below.refl _ _ | exact (Below.refl _ _).alloc (Nat.le_refl _) _⟩
set_option maxHeartbeats 1000000 in
theorem put0_any (r : Rg) (w : World) : Calls Try.prog 6 #[.pointer none, .agg #[.int .i64 r.nd.1, .int .i64 r.nd.2, .string r.nm, .int .i64 r.at_.1, .int .i64 r.at_.2, .string r.vl, .bool r.gn]] w fun e w' => e = .returned (.int .i64 7) ∧ Below w.heap.size w w' := by
  go_enter Try.func6, Try.ntmps6
  go_wp2
  go_ret
  exact ⟨rfl, by first | exact Below.refl _ _ | exact (Below.refl _ _).alloc (Nat.le_refl _) _⟩
set_option maxHeartbeats 1000000 in
theorem merge0_any (r : Rg) (w : World) : Calls Try.prog 11 #[.pointer none, .pointer none] w fun e w' => e = .returned (.int .i64 7) ∧ Below w.heap.size w w' := by
  go_enter Try.func11, Try.ntmps11
  go_wp2
  go_ret
  exact ⟨rfl, by first | exact Below.refl _ _ | exact (Below.refl _ _).alloc (Nat.le_refl _) _⟩

theorem results_boolCell {fn : Func} (hr : fn.results = #[.cell 2 4]) (tmps : Array Value) (R : Nat) (w : World) (b : Bool) (hp : tmps.getD 2 undef = .pointer (some ⟨R, 0, none⟩)) (hc : w.cell? ⟨R, 0, none⟩ = some (.bool b)) : (results fn tmps).run Try.prog w = .ok (.bool b) w := by
  have hp' : tmps[2]?.getD undef = .pointer (some ⟨R, 0, none⟩) := by simpa using hp
  simp [results, hr, hp', asAddr, loadVar, isAgg, run_underlying Try.underlying4, load, go_sem]
  simp [Sem.run, hc]
theorem eql_nilFunc (B1 : Nat) (w : World) : (binOp .eql 38 (.func (.func 40) #[] #[.pointer (some ⟨B1, 0, none⟩)]) .nilFunc).run Try.prog w = .ok (.bool false) w := by kernel_rfl
theorem eql_zeroReg (w : World) : (binOp .eql 26 (.agg #[.int .i64 0, .int .i64 0, .string ⟨#[]⟩, .int .i64 0, .int .i64 0, .string ⟨#[]⟩, .bool false]) (.agg #[.int .i64 0, .int .i64 0, .string ⟨#[]⟩, .int .i64 0, .int .i64 0, .string ⟨#[]⟩, .bool false])).run Try.prog w = .ok (.bool true) w := by kernel_rfl
/-- The register's box, the result's, that of what Get told. -/
structure NilR (w W2 : World) (r : Rg) (U : World) : Prop where
  act : BxC w.heap.size (rgCells r) 26 U
  box : BxC (w.heap.size + 1) [.bool false] 4 U
  at_ : BxC (W2.heap.size) [.int .i64 0, .int .i64 0, .string ⟨#[]⟩, .int .i64 0, .int .i64 0, .string ⟨#[]⟩, .bool false] 26 U
  bel : Below w.heap.size w U
  b1 : w.heap.size + 1 < W2.heap.size
section
variable {w W2 U U' : World} {r : Rg}
theorem NilR.below (h : NilR w W2 r U) (hb : Below U.heap.size U U') : NilR w W2 r U' := ⟨h.act.below hb, h.box.below hb, h.at_.below hb, h.bel.trans (hb.mono h.bel.size), h.b1⟩
theorem NilR.grown (h : NilR w W2 r U) {row : Option Nat} (hg : U.grownBy U' row) (hr : ∀ r, row = some r → W2.heap.size ≤ r ∧ ∃ o : Obj, U.heap[r]? = some o ∧ o.isCells = false) : NilR w W2 r U' := by
  have hr2 : ∀ r, row = some r → ∃ o : Obj, U.heap[r]? = some o ∧ o.isCells = false := fun r e => (hr r e).2
  have hb1 := h.b1
  exact ⟨row_own h.act hg hr2, row_own h.box hg hr2, row_own h.at_ hg hr2, h.bel.grown hg h.bel.size (fun j e => by have := (hr j e).1; omega), h.b1⟩
end

set_option maxRecDepth 100000 in
set_option maxHeartbeats 8000000 in
theorem lwwNil_in (n0 : Nat) (hn : 5 ≤ n0) (r : Rg) (w : World) :
    CallsIn Fence.wide n0 Try.prog 4 #[.agg #[.int .i64 r.nd.1, .int .i64 r.nd.2, .string r.nm, .int .i64 r.at_.1, .int .i64 r.at_.2, .string r.vl, .bool r.gn]] w fun e w' => e = .returned (.bool true) ∧ Below w.heap.size w w' := by
  have hro : Fence.wide.round = none := rfl
  have h1n : 1 ≤ n0 := by omega
  obtain ⟨W0, eW⟩ : ∃ X, X = (w.alloc (.cells (rgCells r).toArray 26)).alloc (.cells [.bool false].toArray 4) := ⟨_, rfl⟩
  have hb0 : Below w.heap.size w W0 := by rw [eW]; exact ((Below.refl _ _).alloc (Nat.le_refl _) _).alloc (by simp) _
  have hs0 : W0.heap.size = w.heap.size + 2 := by rw [eW]; simp
  obtain ⟨hA0, hX0⟩ := BxC.new2 w (rgCells r) [.bool false] 26 4
  rw [← eW] at hA0 hX0
  have HA0 : Hid (BxC w.heap.size (rgCells r) 26 W0) := hA0
  have HX0 : Hid (BxC (w.heap.size + 1) [.bool false] 4 W0) := hX0
  clear hA0 hX0
  have a_0 : W0.cell? ⟨w.heap.size, 0, none⟩ = some (.int .i64 r.nd.1) := HA0.out.cell 0 _ rfl
  have a_1 : W0.cell? ⟨w.heap.size, 1, none⟩ = some (.int .i64 r.nd.2) := HA0.out.cell 1 _ rfl
  have a_2 : W0.cell? ⟨w.heap.size, 2, none⟩ = some (.string r.nm) := HA0.out.cell 2 _ rfl
  have a_3 : W0.cell? ⟨w.heap.size, 3, none⟩ = some (.int .i64 r.at_.1) := HA0.out.cell 3 _ rfl
  have a_4 : W0.cell? ⟨w.heap.size, 4, none⟩ = some (.int .i64 r.at_.2) := HA0.out.cell 4 _ rfl
  have a_5 : W0.cell? ⟨w.heap.size, 5, none⟩ = some (.string r.vl) := HA0.out.cell 5 _ rfl
  have a_6 : W0.cell? ⟨w.heap.size, 6, none⟩ = some (.bool r.gn) := HA0.out.cell 6 _ rfl
  rw [eW] at a_0 a_1 a_2 a_3 a_4 a_5 a_6
  refine callsIn_of_wp_marksN Try.func4 rfl trivial ?_ hro
  simp only [Try.ntmps4, List.size_toArray, List.length_cons, List.length_nil, Nat.reduceAdd, Nat.reduceSub, Array.replicate_succ, Array.replicate_zero, List.push_toArray, List.append_toArray, List.nil_append, List.cons_append]
  gi_wp2_with fail
  have eW1 := eW
  simp only [rgCells] at eW1
  rw [← eW1]
  clear a_0 a_1 a_2 a_3 a_4 a_5 a_6
  refine ⟨trivial, ?_⟩
  refine (callsIn_wide.2 (get_v (F := fun _ => False) (v := .pointer none) (R := []) (.inr ⟨rfl, rfl⟩) (r.nd, r.nm))).mono ?_
  rintro e w1 ⟨rfl, hb1⟩
  have hb01 : Below w.heap.size w w1 := hb0.trans (hb1.mono hb0.size)
  have HA1 := HA0.out.below hb1
  have HX1 := HX0.out.below hb1
  have hs1 : w.heap.size + 2 ≤ w1.heap.size := by rw [← hs0]; exact hb1.size
  clear eW eW1 hb0 hb1 HA0 HX0 hs0
  obtain ⟨w2, eW2⟩ : ∃ X, X = w1.alloc (.cells [.int .i64 0, .int .i64 0, .string ⟨#[]⟩, .int .i64 0, .int .i64 0, .string ⟨#[]⟩, .bool false].toArray 26) := ⟨_, rfl⟩
  have hb2 : Below w1.heap.size w1 w2 := by rw [eW2]; exact (Below.refl _ _).alloc (Nat.le_refl _) _
  have HZ2 : BxC w1.heap.size [.int .i64 0, .int .i64 0, .string ⟨#[]⟩, .int .i64 0, .int .i64 0, .string ⟨#[]⟩, .bool false] 26 w2 := by rw [eW2]; exact BxC.new _ _ _
  have hA2 : BxC w.heap.size (rgCells r) 26 w2 ∧ BxC (w.heap.size + 1) [.bool false] 4 w2 ∧ BxC w1.heap.size [.int .i64 0, .int .i64 0, .string ⟨#[]⟩, .int .i64 0, .int .i64 0, .string ⟨#[]⟩, .bool false] 26 w2 := ⟨HA1.below hb2, HX1.below hb2, HZ2⟩
  have HA2 : Hid (BxC w.heap.size (rgCells r) 26 w2 ∧ BxC (w.heap.size + 1) [.bool false] 4 w2 ∧ BxC w1.heap.size [.int .i64 0, .int .i64 0, .string ⟨#[]⟩, .int .i64 0, .int .i64 0, .string ⟨#[]⟩, .bool false] 26 w2) := hA2
  have HB2 : Hid (Below w.heap.size w w2) := hb01.trans (hb2.mono hb01.size)
  have a_0 : w2.cell? ⟨w.heap.size, 0, none⟩ = some (.int .i64 r.nd.1) := hA2.1.cell 0 _ rfl
  have a_1 : w2.cell? ⟨w.heap.size, 1, none⟩ = some (.int .i64 r.nd.2) := hA2.1.cell 1 _ rfl
  have a_2 : w2.cell? ⟨w.heap.size, 2, none⟩ = some (.string r.nm) := hA2.1.cell 2 _ rfl
  have a_3 : w2.cell? ⟨w.heap.size, 3, none⟩ = some (.int .i64 r.at_.1) := hA2.1.cell 3 _ rfl
  have a_4 : w2.cell? ⟨w.heap.size, 4, none⟩ = some (.int .i64 r.at_.2) := hA2.1.cell 4 _ rfl
  have a_5 : w2.cell? ⟨w.heap.size, 5, none⟩ = some (.string r.vl) := hA2.1.cell 5 _ rfl
  have a_6 : w2.cell? ⟨w.heap.size, 6, none⟩ = some (.bool r.gn) := hA2.1.cell 6 _ rfl
  rw [eW2] at a_0 a_1 a_2 a_3 a_4 a_5 a_6
  clear HA1 HX1 HZ2 hb01 hb2 hA2
  have ev0 : rgV (atR [] (r.nd, r.nm)) = .agg #[.int .i64 0, .int .i64 0, .string ⟨#[]⟩, .int .i64 0, .int .i64 0, .string ⟨#[]⟩, .bool false] := rfl
  have ev1 : hasR [] (r.nd, r.nm) = false := rfl
  rw [ev0, ev1]
  clear ev0 ev1
  gi_wp2_with fail
  have eW3 := eW2
  rw [← eW3]
  clear eW3 eW2 a_0 a_1 a_2 a_3 a_4 a_5 a_6
  refine ⟨trivial, ?_⟩
  refine (callsIn_wide.2 (each_v (fun _ => False) (.pointer none) [] r.nd _ (.inr ⟨rfl, rfl⟩) (fun _ h => h.elim))).mono ?_
  rintro e W3 ⟨B1, a, c, rfl, hB1, hx, hov, hb3⟩
  have hov2 : OwnAt w2.heap.size W3 (.slice a ([] : List (ByteArray × ByteArray)).length c) ([] : List (ByteArray × ByteArray)) := hov
  have hx2 : BxC B1 [.slice a ([] : List (ByteArray × ByteArray)).length c] 63 W3 := hx
  have HN : Hid (NilR w w1 r W3) := ⟨HA2.out.1.below hb3, HA2.out.2.1.below hb3, HA2.out.2.2.below hb3, HB2.out.trans (hb3.mono HB2.out.size), by omega⟩
  obtain ⟨S, eS⟩ : ∃ S : Nat → Prop, S = fun k => w2.heap.size ≤ k ∧ k < W3.heap.size := ⟨_, rfl⟩
  have hSl : ∀ k, S k → k < W3.heap.size := fun k hk => by rw [eS] at hk; exact hk.2
  have HSq := valsA_seq (n0 - 1) (by omega) B1 c S a [] W3 (by rw [eS]; exact ⟨hB1, hx.lt⟩) hSl (hx2.cell 0 _ rfl) (hov2.lsE atCells_len (by simp) (fun k e => by rw [eS]; exact hov2.lt k e)) (by simp)
  have HSz : Hid (w1.heap.size ≤ W3.heap.size) := by (have h1 := HN.out.at_.lt; show _ ≤ _; omega)
  clear hov hov2 hb3 hB1 hx hx2 eS HA2 HB2
  have en := eql_nilFunc
  gi_wp2
  clear en
  refine range_of h1n (gf := 40) (lb := #[.pointer (some ⟨B1, 0, none⟩)]) rfl (enters_of Try.func40 (by kernel_rfl) rfl) HSq KeepsS.trans (keepsSK_b hSl) (Below.refl _ _) (fun _ => rfl)
    (fun k W => NilR w w1 r W) (fun _ _ _ => False)
    (fun k A B row h1 hg hr => h1.grown hg (fun r e => ⟨Nat.le_trans HSz.out (hr r e).1, (hr r e).2⟩)) (fun c k A B row hf _ _ => hf) HN.out
    (fun x a' W => True) (fun x a' u A B row _ hg hr => trivial)
    ?assign ?body ?done ?stop
  case assign =>
    rintro l k hk
    exact absurd hk (by simp)
  case body =>
    rintro l k hk
    exact absurd hk (by simp)
  case done =>
    rintro Dd W2 hDd hA hDf
    have HA : Hid (NilR w w1 r W2) := hA
    have HDf : Hid (W2.heap[Dd]? = some (.deferred (some []))) := hDf
    clear hA hDf
    have a_0 : W2.cell? ⟨w.heap.size, 0, none⟩ = some (.int .i64 r.nd.1) := HA.out.act.cell 0 _ rfl
    have a_1 : W2.cell? ⟨w.heap.size, 1, none⟩ = some (.int .i64 r.nd.2) := HA.out.act.cell 1 _ rfl
    have a_2 : W2.cell? ⟨w.heap.size, 2, none⟩ = some (.string r.nm) := HA.out.act.cell 2 _ rfl
    have a_3 : W2.cell? ⟨w.heap.size, 3, none⟩ = some (.int .i64 r.at_.1) := HA.out.act.cell 3 _ rfl
    have a_4 : W2.cell? ⟨w.heap.size, 4, none⟩ = some (.int .i64 r.at_.2) := HA.out.act.cell 4 _ rfl
    have a_5 : W2.cell? ⟨w.heap.size, 5, none⟩ = some (.string r.vl) := HA.out.act.cell 5 _ rfl
    have a_6 : W2.cell? ⟨w.heap.size, 6, none⟩ = some (.bool r.gn) := HA.out.act.cell 6 _ rfl
    have z_0 : W2.cell? ⟨w1.heap.size, 0, none⟩ = some (.int .i64 0) := HA.out.at_.cell 0 _ rfl
    have z_1 : W2.cell? ⟨w1.heap.size, 1, none⟩ = some (.int .i64 0) := HA.out.at_.cell 1 _ rfl
    have z_2 : W2.cell? ⟨w1.heap.size, 2, none⟩ = some (.string ⟨#[]⟩) := HA.out.at_.cell 2 _ rfl
    have z_3 : W2.cell? ⟨w1.heap.size, 3, none⟩ = some (.int .i64 0) := HA.out.at_.cell 3 _ rfl
    have z_4 : W2.cell? ⟨w1.heap.size, 4, none⟩ = some (.int .i64 0) := HA.out.at_.cell 4 _ rfl
    have z_5 : W2.cell? ⟨w1.heap.size, 5, none⟩ = some (.string ⟨#[]⟩) := HA.out.at_.cell 5 _ rfl
    have z_6 : W2.cell? ⟨w1.heap.size, 6, none⟩ = some (.bool false) := HA.out.at_.cell 6 _ rfl
    gi_wp2_with fail
    refine ⟨trivial, ?_⟩
    refine (callsIn_wide.2 (put0_any r _)).mono ?_
    rintro e V3 ⟨rfl, hb⟩
    replace HA : Hid (NilR w w1 r V3) := HA.out.below hb
    replace HDf : Hid (V3.heap[Dd]? = some (.deferred (some []))) := (hb.block _ (row_lt HDf.out)).trans HDf.out
    clear hb a_0 a_1 a_2 a_3 a_4 a_5 a_6 z_0 z_1 z_2 z_3 z_4 z_5 z_6
    have a_0 : V3.cell? ⟨w.heap.size, 0, none⟩ = some (.int .i64 r.nd.1) := HA.out.act.cell 0 _ rfl
    have a_1 : V3.cell? ⟨w.heap.size, 1, none⟩ = some (.int .i64 r.nd.2) := HA.out.act.cell 1 _ rfl
    have a_2 : V3.cell? ⟨w.heap.size, 2, none⟩ = some (.string r.nm) := HA.out.act.cell 2 _ rfl
    have a_3 : V3.cell? ⟨w.heap.size, 3, none⟩ = some (.int .i64 r.at_.1) := HA.out.act.cell 3 _ rfl
    have a_4 : V3.cell? ⟨w.heap.size, 4, none⟩ = some (.int .i64 r.at_.2) := HA.out.act.cell 4 _ rfl
    have a_5 : V3.cell? ⟨w.heap.size, 5, none⟩ = some (.string r.vl) := HA.out.act.cell 5 _ rfl
    have a_6 : V3.cell? ⟨w.heap.size, 6, none⟩ = some (.bool r.gn) := HA.out.act.cell 6 _ rfl
    have z_0 : V3.cell? ⟨w1.heap.size, 0, none⟩ = some (.int .i64 0) := HA.out.at_.cell 0 _ rfl
    have z_1 : V3.cell? ⟨w1.heap.size, 1, none⟩ = some (.int .i64 0) := HA.out.at_.cell 1 _ rfl
    have z_2 : V3.cell? ⟨w1.heap.size, 2, none⟩ = some (.string ⟨#[]⟩) := HA.out.at_.cell 2 _ rfl
    have z_3 : V3.cell? ⟨w1.heap.size, 3, none⟩ = some (.int .i64 0) := HA.out.at_.cell 3 _ rfl
    have z_4 : V3.cell? ⟨w1.heap.size, 4, none⟩ = some (.int .i64 0) := HA.out.at_.cell 4 _ rfl
    have z_5 : V3.cell? ⟨w1.heap.size, 5, none⟩ = some (.string ⟨#[]⟩) := HA.out.at_.cell 5 _ rfl
    have z_6 : V3.cell? ⟨w1.heap.size, 6, none⟩ = some (.bool false) := HA.out.at_.cell 6 _ rfl
    gi_wp2_with fail
    refine ⟨trivial, ?_⟩
    refine (callsIn_wide.2 (merge0_any r _)).mono ?_
    rintro e V4 ⟨rfl, hb⟩
    replace HA : Hid (NilR w w1 r V4) := HA.out.below hb
    replace HDf : Hid (V4.heap[Dd]? = some (.deferred (some []))) := (hb.block _ (row_lt HDf.out)).trans HDf.out
    clear hb a_0 a_1 a_2 a_3 a_4 a_5 a_6 z_0 z_1 z_2 z_3 z_4 z_5 z_6
    have a_0 : V4.cell? ⟨w.heap.size, 0, none⟩ = some (.int .i64 r.nd.1) := HA.out.act.cell 0 _ rfl
    have a_1 : V4.cell? ⟨w.heap.size, 1, none⟩ = some (.int .i64 r.nd.2) := HA.out.act.cell 1 _ rfl
    have a_2 : V4.cell? ⟨w.heap.size, 2, none⟩ = some (.string r.nm) := HA.out.act.cell 2 _ rfl
    have a_3 : V4.cell? ⟨w.heap.size, 3, none⟩ = some (.int .i64 r.at_.1) := HA.out.act.cell 3 _ rfl
    have a_4 : V4.cell? ⟨w.heap.size, 4, none⟩ = some (.int .i64 r.at_.2) := HA.out.act.cell 4 _ rfl
    have a_5 : V4.cell? ⟨w.heap.size, 5, none⟩ = some (.string r.vl) := HA.out.act.cell 5 _ rfl
    have a_6 : V4.cell? ⟨w.heap.size, 6, none⟩ = some (.bool r.gn) := HA.out.act.cell 6 _ rfl
    have z_0 : V4.cell? ⟨w1.heap.size, 0, none⟩ = some (.int .i64 0) := HA.out.at_.cell 0 _ rfl
    have z_1 : V4.cell? ⟨w1.heap.size, 1, none⟩ = some (.int .i64 0) := HA.out.at_.cell 1 _ rfl
    have z_2 : V4.cell? ⟨w1.heap.size, 2, none⟩ = some (.string ⟨#[]⟩) := HA.out.at_.cell 2 _ rfl
    have z_3 : V4.cell? ⟨w1.heap.size, 3, none⟩ = some (.int .i64 0) := HA.out.at_.cell 3 _ rfl
    have z_4 : V4.cell? ⟨w1.heap.size, 4, none⟩ = some (.int .i64 0) := HA.out.at_.cell 4 _ rfl
    have z_5 : V4.cell? ⟨w1.heap.size, 5, none⟩ = some (.string ⟨#[]⟩) := HA.out.at_.cell 5 _ rfl
    have z_6 : V4.cell? ⟨w1.heap.size, 6, none⟩ = some (.bool false) := HA.out.at_.cell 6 _ rfl
    have ez := eql_zeroReg
    gi_wp2_with fail
    refine ⟨trivial, ?_⟩
    refine (callsIn_wide.2 (value_v (F := fun _ => False) (R := []) (r.nd, r.nm) _ (.inr ⟨rfl, rfl⟩))).mono ?_
    rintro e V5 ⟨rfl, hb⟩
    replace HA : Hid (NilR w w1 r V5) := HA.out.below hb
    replace HDf : Hid (V5.heap[Dd]? = some (.deferred (some []))) := (hb.block _ (row_lt HDf.out)).trans HDf.out
    clear hb a_0 a_1 a_2 a_3 a_4 a_5 a_6 z_0 z_1 z_2 z_3 z_4 z_5 z_6
    have a_0 : V5.cell? ⟨w.heap.size, 0, none⟩ = some (.int .i64 r.nd.1) := HA.out.act.cell 0 _ rfl
    have a_1 : V5.cell? ⟨w.heap.size, 1, none⟩ = some (.int .i64 r.nd.2) := HA.out.act.cell 1 _ rfl
    have a_2 : V5.cell? ⟨w.heap.size, 2, none⟩ = some (.string r.nm) := HA.out.act.cell 2 _ rfl
    have a_3 : V5.cell? ⟨w.heap.size, 3, none⟩ = some (.int .i64 r.at_.1) := HA.out.act.cell 3 _ rfl
    have a_4 : V5.cell? ⟨w.heap.size, 4, none⟩ = some (.int .i64 r.at_.2) := HA.out.act.cell 4 _ rfl
    have a_5 : V5.cell? ⟨w.heap.size, 5, none⟩ = some (.string r.vl) := HA.out.act.cell 5 _ rfl
    have a_6 : V5.cell? ⟨w.heap.size, 6, none⟩ = some (.bool r.gn) := HA.out.act.cell 6 _ rfl
    have z_0 : V5.cell? ⟨w1.heap.size, 0, none⟩ = some (.int .i64 0) := HA.out.at_.cell 0 _ rfl
    have z_1 : V5.cell? ⟨w1.heap.size, 1, none⟩ = some (.int .i64 0) := HA.out.at_.cell 1 _ rfl
    have z_2 : V5.cell? ⟨w1.heap.size, 2, none⟩ = some (.string ⟨#[]⟩) := HA.out.at_.cell 2 _ rfl
    have z_3 : V5.cell? ⟨w1.heap.size, 3, none⟩ = some (.int .i64 0) := HA.out.at_.cell 3 _ rfl
    have z_4 : V5.cell? ⟨w1.heap.size, 4, none⟩ = some (.int .i64 0) := HA.out.at_.cell 4 _ rfl
    have z_5 : V5.cell? ⟨w1.heap.size, 5, none⟩ = some (.string ⟨#[]⟩) := HA.out.at_.cell 5 _ rfl
    have z_6 : V5.cell? ⟨w1.heap.size, 6, none⟩ = some (.bool false) := HA.out.at_.cell 6 _ rfl
    have ev0 : (atR [] (r.nd, r.nm)).vl = ⟨#[]⟩ := rfl
    rw [ev0]
    clear ev0
    gi_wp2_with fail
    refine ⟨trivial, ?_⟩
    refine (callsIn_wide.2 (all_v (fun _ => False) (.pointer none) [] _ (.inr ⟨rfl, rfl⟩))).mono ?_
    rintro e V6 ⟨v9, rfl, ho9, hb⟩
    replace HA : Hid (NilR w w1 r V6) := HA.out.below hb
    replace HDf : Hid (V6.heap[Dd]? = some (.deferred (some []))) := (hb.block _ (row_lt HDf.out)).trans HDf.out
    clear hb a_0 a_1 a_2 a_3 a_4 a_5 a_6 z_0 z_1 z_2 z_3 z_4 z_5 z_6
    have a_0 : V6.cell? ⟨w.heap.size, 0, none⟩ = some (.int .i64 r.nd.1) := HA.out.act.cell 0 _ rfl
    have a_1 : V6.cell? ⟨w.heap.size, 1, none⟩ = some (.int .i64 r.nd.2) := HA.out.act.cell 1 _ rfl
    have a_2 : V6.cell? ⟨w.heap.size, 2, none⟩ = some (.string r.nm) := HA.out.act.cell 2 _ rfl
    have a_3 : V6.cell? ⟨w.heap.size, 3, none⟩ = some (.int .i64 r.at_.1) := HA.out.act.cell 3 _ rfl
    have a_4 : V6.cell? ⟨w.heap.size, 4, none⟩ = some (.int .i64 r.at_.2) := HA.out.act.cell 4 _ rfl
    have a_5 : V6.cell? ⟨w.heap.size, 5, none⟩ = some (.string r.vl) := HA.out.act.cell 5 _ rfl
    have a_6 : V6.cell? ⟨w.heap.size, 6, none⟩ = some (.bool r.gn) := HA.out.act.cell 6 _ rfl
    have z_0 : V6.cell? ⟨w1.heap.size, 0, none⟩ = some (.int .i64 0) := HA.out.at_.cell 0 _ rfl
    have z_1 : V6.cell? ⟨w1.heap.size, 1, none⟩ = some (.int .i64 0) := HA.out.at_.cell 1 _ rfl
    have z_2 : V6.cell? ⟨w1.heap.size, 2, none⟩ = some (.string ⟨#[]⟩) := HA.out.at_.cell 2 _ rfl
    have z_3 : V6.cell? ⟨w1.heap.size, 3, none⟩ = some (.int .i64 0) := HA.out.at_.cell 3 _ rfl
    have z_4 : V6.cell? ⟨w1.heap.size, 4, none⟩ = some (.int .i64 0) := HA.out.at_.cell 4 _ rfl
    have z_5 : V6.cell? ⟨w1.heap.size, 5, none⟩ = some (.string ⟨#[]⟩) := HA.out.at_.cell 5 _ rfl
    have z_6 : V6.cell? ⟨w1.heap.size, 6, none⟩ = some (.bool false) := HA.out.at_.cell 6 _ rfl
    obtain ⟨a9, c9, e9⟩ := OwnE.form (D := []) ho9
    subst e9
    clear ho9
    gi_wp2_with fail
    refine ⟨trivial, ?_⟩
    refine (callsIn_wide.2 (clone0_any r _)).mono ?_
    rintro e V7 ⟨rfl, hb⟩
    replace HA : Hid (NilR w w1 r V7) := HA.out.below hb
    replace HDf : Hid (V7.heap[Dd]? = some (.deferred (some []))) := (hb.block _ (row_lt HDf.out)).trans HDf.out
    clear hb a_0 a_1 a_2 a_3 a_4 a_5 a_6 z_0 z_1 z_2 z_3 z_4 z_5 z_6
    have a_0 : V7.cell? ⟨w.heap.size, 0, none⟩ = some (.int .i64 r.nd.1) := HA.out.act.cell 0 _ rfl
    have a_1 : V7.cell? ⟨w.heap.size, 1, none⟩ = some (.int .i64 r.nd.2) := HA.out.act.cell 1 _ rfl
    have a_2 : V7.cell? ⟨w.heap.size, 2, none⟩ = some (.string r.nm) := HA.out.act.cell 2 _ rfl
    have a_3 : V7.cell? ⟨w.heap.size, 3, none⟩ = some (.int .i64 r.at_.1) := HA.out.act.cell 3 _ rfl
    have a_4 : V7.cell? ⟨w.heap.size, 4, none⟩ = some (.int .i64 r.at_.2) := HA.out.act.cell 4 _ rfl
    have a_5 : V7.cell? ⟨w.heap.size, 5, none⟩ = some (.string r.vl) := HA.out.act.cell 5 _ rfl
    have a_6 : V7.cell? ⟨w.heap.size, 6, none⟩ = some (.bool r.gn) := HA.out.act.cell 6 _ rfl
    have z_0 : V7.cell? ⟨w1.heap.size, 0, none⟩ = some (.int .i64 0) := HA.out.at_.cell 0 _ rfl
    have z_1 : V7.cell? ⟨w1.heap.size, 1, none⟩ = some (.int .i64 0) := HA.out.at_.cell 1 _ rfl
    have z_2 : V7.cell? ⟨w1.heap.size, 2, none⟩ = some (.string ⟨#[]⟩) := HA.out.at_.cell 2 _ rfl
    have z_3 : V7.cell? ⟨w1.heap.size, 3, none⟩ = some (.int .i64 0) := HA.out.at_.cell 3 _ rfl
    have z_4 : V7.cell? ⟨w1.heap.size, 4, none⟩ = some (.int .i64 0) := HA.out.at_.cell 4 _ rfl
    have z_5 : V7.cell? ⟨w1.heap.size, 5, none⟩ = some (.string ⟨#[]⟩) := HA.out.at_.cell 5 _ rfl
    have z_6 : V7.cell? ⟨w1.heap.size, 6, none⟩ = some (.bool false) := HA.out.at_.cell 6 _ rfl
    gi_wp2_with fail
    refine ⟨trivial, ?_⟩
    refine (callsIn_wide.2 (awake_any _)).mono ?_
    rintro e V8 ⟨rfl, hb⟩
    replace HA : Hid (NilR w w1 r V8) := HA.out.below hb
    replace HDf : Hid (V8.heap[Dd]? = some (.deferred (some []))) := (hb.block _ (row_lt HDf.out)).trans HDf.out
    clear hb a_0 a_1 a_2 a_3 a_4 a_5 a_6 z_0 z_1 z_2 z_3 z_4 z_5 z_6
    have a_0 : V8.cell? ⟨w.heap.size, 0, none⟩ = some (.int .i64 r.nd.1) := HA.out.act.cell 0 _ rfl
    have a_1 : V8.cell? ⟨w.heap.size, 1, none⟩ = some (.int .i64 r.nd.2) := HA.out.act.cell 1 _ rfl
    have a_2 : V8.cell? ⟨w.heap.size, 2, none⟩ = some (.string r.nm) := HA.out.act.cell 2 _ rfl
    have a_3 : V8.cell? ⟨w.heap.size, 3, none⟩ = some (.int .i64 r.at_.1) := HA.out.act.cell 3 _ rfl
    have a_4 : V8.cell? ⟨w.heap.size, 4, none⟩ = some (.int .i64 r.at_.2) := HA.out.act.cell 4 _ rfl
    have a_5 : V8.cell? ⟨w.heap.size, 5, none⟩ = some (.string r.vl) := HA.out.act.cell 5 _ rfl
    have a_6 : V8.cell? ⟨w.heap.size, 6, none⟩ = some (.bool r.gn) := HA.out.act.cell 6 _ rfl
    have z_0 : V8.cell? ⟨w1.heap.size, 0, none⟩ = some (.int .i64 0) := HA.out.at_.cell 0 _ rfl
    have z_1 : V8.cell? ⟨w1.heap.size, 1, none⟩ = some (.int .i64 0) := HA.out.at_.cell 1 _ rfl
    have z_2 : V8.cell? ⟨w1.heap.size, 2, none⟩ = some (.string ⟨#[]⟩) := HA.out.at_.cell 2 _ rfl
    have z_3 : V8.cell? ⟨w1.heap.size, 3, none⟩ = some (.int .i64 0) := HA.out.at_.cell 3 _ rfl
    have z_4 : V8.cell? ⟨w1.heap.size, 4, none⟩ = some (.int .i64 0) := HA.out.at_.cell 4 _ rfl
    have z_5 : V8.cell? ⟨w1.heap.size, 5, none⟩ = some (.string ⟨#[]⟩) := HA.out.at_.cell 5 _ rfl
    have z_6 : V8.cell? ⟨w1.heap.size, 6, none⟩ = some (.bool false) := HA.out.at_.cell 6 _ rfl
    have cO : V8.cell? ⟨w.heap.size + 1, 0, none⟩ = some (.bool false) := HA.out.box.cell 0 _ rfl
    have fO := HA.out.box.free 0
    have hb1 := HA.out.b1
    clear a_0 a_1 a_2 a_3 a_4 a_5 a_6 z_0 z_1 z_2 z_3 z_4 z_5 z_6
    gi_wp2
    have hK2 : (V8.setCell ⟨w.heap.size + 1, 0, none⟩ (.bool true)).heap[Dd]? = some (.deferred (some [])) := (Below.heap_setCell _ _ _ _ (by show Dd ≠ w.heap.size + 1; have := HSz.out; omega)).trans HDf.out
    have h2 : (V8.setCell ⟨w.heap.size + 1, 0, none⟩ (.bool true)).heap[w.heap.size + 1]? = some (.cells #[.bool true] 4) := by
      have := heap_setCell_same V8 (w.heap.size + 1) 0 _ _ (.bool true) HA.out.box
      simpa using this
    have hgp := grownBy_putObj' (V8.setCell ⟨w.heap.size + 1, 0, none⟩ (.bool true)) Dd (.deferred none)
    have h3 : ((V8.setCell ⟨w.heap.size + 1, 0, none⟩ (.bool true)).putObj Dd (.deferred none)).cell? ⟨w.heap.size + 1, 0, none⟩ = some (.bool true) := (BxC.cell (cs := [.bool true]) (T := 4) (row_own h2 hgp (fun r e => by cases e; exact ⟨_, hK2, rfl⟩)) 0 _ rfl)
    have bel2 := (HA.out.bel.setCell (p := ⟨w.heap.size + 1, 0, none⟩) (by show w.heap.size ≤ w.heap.size + 1; omega) (.bool true)).trans (belowK_b (w := w) (Nat.le_refl _) _ Dd _ (.deferred none) (by have := HSz.out; omega) hK2 rfl rfl)
    refine ⟨by simp, .inl ⟨_, _, rfl, run_takeDeferred hK2, ?_⟩⟩
    exact ⟨_, results_boolCell rfl _ _ _ true rfl h3, rfl, bel2⟩
  case stop => rintro D c k W hD hk hf; exact hf.elim

theorem lwwNil_walk (r : Rg) (w : World) (h : smR r) :
    Calls Try.prog 4 #[.agg #[.int .i64 r.nd.1, .int .i64 r.nd.2, .string r.nm, .int .i64 r.at_.1, .int .i64 r.at_.2, .string r.vl, .bool r.gn]] w fun e w' => e = .returned (.bool true) ∧ Below w.heap.size w w' :=
  callsIn_wide.1 (lwwNil_in 5 (Nat.le_refl _) r w)

end Go.Proofs.Ytoljacnipkibiab
