/- ChangeSames of package topiarylaw05 is proved at this commit: for every input (a change, a change, any) the call returns true and the arguments read as they did. The listed variables of the library start as the program's text lays them: the card ties them to this pruned copy of the project. No other condition. -/
import Derived.Test.YtaocjmipjibiaaaGreatDoorBaseI
import Derived.Test.YtaocjmipjibiaaaGreatDoorBaseG
import Derived.Test.YtaocjmipjibiaaaGreatDoorBaseD
import Derived.Test.YtaocjmipjibiaaaGreatDoorTie
import Derived.Test.YtaocjmipjibiaaaGreatDoorCards
import Derived.Test.YtaocjmipjibiaaaGreatDoorChSw
import Derived.SevenTiedAt
namespace Go.Proofs.YtaocjmipjibiaaaGreatDoor
open Go.ChangeShapes Go.WideShapes Go.ChangeAt Go.RowKit Go.Joins
open Go.ChangeMaps (open_string shut_string)
set_option linter.unusedVariables false

set_option maxRecDepth 100000 in
theorem changeSames_lifted (os : Os) (started : os.Started) (H : Type) (enc : TypeId × Value → H) :
    ReturnsInHanded {} Tryz.checked os 4 .any (fun w args => (Rows.changeSamesSpec.pre enc Tryz.prog Tryz.f4 [] false w args ∧ laidMetH Tryz.prog laidD w) ∧ sizedMet enc Tryz.prog Tryz.f4 (OpenSpec.ofChange Rows.changeSamesSpec) false w args)
      (Rows.changeSamesSpec.post enc Tryz.prog Tryz.f4 false true false false) := by
  refine returnsInHanded_of_change_and (C := Tryz.checked) (X := fun w _ => laidMetH Tryz.prog laidD w) (fun _ _ _ hh h => h.of_heap hh) ownI started (by kernel_rfl) Tryz.func4
    (ChangeSpec.witness_shaped (enc := enc) (C := Tryz.checked) (os := os) (X := fun w _ => laidMetH Tryz.prog laidD w) false (World.doorLaid Tryz.prog 62 os) #[.agg #[.int .i64 0, .int .i64 0, .int .i64 0, .slice none 0 0, .int .i64 0, .int .i64 0, .int .i64 0, .int .i64 0, .int .i64 0, .int .i64 0, .int .i64 0, .string ByteArray.empty, .string ByteArray.empty], .agg #[.int .i64 0, .int .i64 0, .int .i64 0, .slice none 0 0, .int .i64 0, .int .i64 0, .int .i64 0, .int .i64 0, .int .i64 0, .int .i64 0, .int .i64 0, .string ByteArray.empty, .string ByteArray.empty]] 8 rfl (World.shaped_of_RefB (by kernel_rfl) (by kernel_rfl)) (by kernel_rfl) (by kernel_rfl) (by kernel_rfl) (door_metD os _)) ?_
  intro W base args ds gs before hval0 hW _ hsz0 hL _
  have hval : ∀ (j : Nat) t v, Tryz.f4.params[j]? = some t → args[j]? = some v → Value.okWide Tryz.prog W .any base t v := hval0
  have hW' := hW
  obtain ⟨p, q, hA0, hV, rfl, hfz, hnd⟩ := hW
  have hA : DataW.TrodAll enc Tryz.prog W 0 (fun _ => true) true Tryz.f4.params.toList args.toList ds p := hA0
  rw [Tryz.params4] at hA hval
  obtain ⟨v0, v1, d0, d1, p0, p1, rfl, rfl, rfl, h0, h1⟩ := trodAll_two hA
  obtain ⟨rfl, rfl⟩ := trodVars_none hV
  have hk0 := h0
  obtain ⟨ac0, ar0, sq0, dv0, ds0, kd0, nc0, nr0, pc0, pr0, fc0, fr0, nm0, vl0, ev0, hf0, ⟨y00, y01, y02, y03, y04, y05, y06, ey0, hd0⟩, wf0⟩ := open_change (hval 0 26 v0 rfl rfl) h0
  subst ev0 ey0
  have hk1 := h1
  obtain ⟨ac1, ar1, sq1, dv1, ds1, kd1, nc1, nr1, pc1, pr1, fc1, fr1, nm1, vl1, ev1, hf1, ⟨y10, y11, y12, y13, y14, y15, y16, ey1, hd1⟩, wf1⟩ := open_change (hval 1 26 v1 rfl rfl) h1
  subst ev1 ey1
  have hsz : (DataW.weightsEach Tryz.prog (Tryz.f4.params.toList ++ Rows.changeSamesSpec.plain.varTypes Tryz.prog) (_ ++ _)).all (· ≤ reachBytes) = true := hsz0
  rw [Tryz.params4] at hsz
  have hst0 := sized_struct hsz (j := 0) (t := 26) rfl rfl Tryz.underlying26
  have len0 : ds0.length ≤ 17592186044416 := by
    rcases hd0 with ⟨_, rfl⟩ | ⟨els, sp, e, he⟩
    · simp
    · subst e
      have h1 := sized_slice hst0 (j := 2) (t := 24) rfl rfl Tryz.underlying24
      have h2 : reachBytes ≤ 140737488355328 := by decide
      rw [bytesInt] at h1
      omega
  have bn0 : nm0.size ≤ 281474976710656 := by
    have h1 := sized_string hst0 (j := 7) (t := 9) rfl rfl
    have h2 : reachBytes ≤ 140737488355328 := by decide
    have h3 : nm0.size = nm0.data.size := rfl
    rw [Array.length_toList] at h1
    omega
  have bv0 : vl0.size ≤ 281474976710656 := by
    have h1 := sized_string hst0 (j := 8) (t := 9) rfl rfl
    have h2 : reachBytes ≤ 140737488355328 := by decide
    have h3 : vl0.size = vl0.data.size := rfl
    rw [Array.length_toList] at h1
    omega
  have is0 : IsI W dv0 ds0 := by obtain ⟨a, cap, e, h1, h2⟩ := hf0; exact ⟨a, cap, e, h1, len0, h2⟩
  have hlt0 : ∀ x ∈ p0, x.block < W.heap.size := fun x hx => by simpa using hW'.lt x (by simp [hx])
  have hst1 := sized_struct hsz (j := 1) (t := 26) rfl rfl Tryz.underlying26
  have len1 : ds1.length ≤ 17592186044416 := by
    rcases hd1 with ⟨_, rfl⟩ | ⟨els, sp, e, he⟩
    · simp
    · subst e
      have h1 := sized_slice hst1 (j := 2) (t := 24) rfl rfl Tryz.underlying24
      have h2 : reachBytes ≤ 140737488355328 := by decide
      rw [bytesInt] at h1
      omega
  have bn1 : nm1.size ≤ 281474976710656 := by
    have h1 := sized_string hst1 (j := 7) (t := 9) rfl rfl
    have h2 : reachBytes ≤ 140737488355328 := by decide
    have h3 : nm1.size = nm1.data.size := rfl
    rw [Array.length_toList] at h1
    omega
  have bv1 : vl1.size ≤ 281474976710656 := by
    have h1 := sized_string hst1 (j := 8) (t := 9) rfl rfl
    have h2 : reachBytes ≤ 140737488355328 := by decide
    have h3 : vl1.size = vl1.data.size := rfl
    rw [Array.length_toList] at h1
    omega
  have is1 : IsI W dv1 ds1 := by obtain ⟨a, cap, e, h1, h2⟩ := hf1; exact ⟨a, cap, e, h1, len1, h2⟩
  have hlt1 : ∀ x ∈ p1, x.block < W.heap.size := fun x hx => by simpa using hW'.lt x (by simp [hx])
  clear hA0 hval0
  refine (changeSames_walk ac0 ar0 sq0 dv0 kd0 nc0 nr0 pc0 pr0 fc0 fr0 nm0 vl0 ds0 ac1 ar1 sq1 dv1 kd1 nc1 nr1 pc1 pr1 fc1 fr1 nm1 vl1 ds1 W is0 bn0 is1 bn1 (env_of_laid hL)).mono fun e W' ⟨he, bel⟩ => ?_
  subst he
  exact ⟨_, rfl, _, _, _, [], _, [], hW', trodAll_mk1 (shut_bool Tryz.underlying4 _), trodAll_mk2 (Below.trod laidOutI (by kernel_rfl) (of_decide_eq_true (by kernel_rfl)) hk0 bel hlt0) (Below.trod laidOutI (by kernel_rfl) (of_decide_eq_true (by kernel_rfl)) hk1 bel hlt1), rfl, bel.frame _, fun h => by cases h⟩

theorem changeSames_row : Rows.ChangeSamesSaid :=
  OpenClaim.holds_of_wide 4 Tryz.f4 rfl rfl rfl rfl rfl rfl rfl ⟨rfl, rfl, rfl, rfl, rfl⟩ rfl rfl rfl rfl rfl (by kernel_rfl) Tryz.func4 (by kernel_rfl)
    (of_decide_eq_true (by kernel_rfl)) (by unfold Func.isWrapper; first | (rw [if_pos (by decide +kernel)]; kernel_rfl) | (rw [if_neg (by decide +kernel)]; exact ⟨rfl, rfl⟩))
    (fun os started H enc _ => changeSames_lifted os started H enc)

theorem changeSames_holds : Rows.ChangeSamesCardSaid :=
  Claim7.holds_tied_plain_at .later [] [.data, .data, .data, .sentinel, .sentinel] true (true, "810b6b9e174de18989472189c9613c513580924266aca977a2e0d3b17c2651ba") true
    changeSames_row (fun _ h => by cases h) (by kernel_rfl) (fun _ h => by cases h) changeSames_row_tie rfl ⟨rfl, rfl⟩ (by kernel_rfl) rfl
    (fun f fn hf hfn => by
      obtain rfl : f = 4 := Option.some.inj ((show Tryz.prog.funcNamed Rows.changeSamesRow.func = some 4 by kernel_rfl).symm.trans hf) |>.symm
      obtain rfl : fn = Tryz.f4 := (Option.some.inj (Tryz.func4.symm.trans hfn)).symm
      exact ⟨by kernel_rfl, fun j t ht => by
        rw [Tryz.params4] at ht
        have hm : t ∈ [26, 26] := by simpa using Array.mem_of_getElem? ht
        have hall : ([26, 26].all fun u => !Tryz.prog.wantsStandIn u) = true := by kernel_rfl
        exact (show Tryz.prog.wantsStandIn t = false by simpa using List.all_eq_true.1 hall t hm)⟩)
    (by kernel_rfl)
#print axioms changeSames_holds
end Go.Proofs.YtaocjmipjibiaaaGreatDoor
