/- ChangeParses of package topiarylaw05 is proved at this commit: for every input (a text, any) the call returns true and the arguments read as they did. The listed variables of the library start as the program's text lays them: the card ties them to this pruned copy of the project. No other condition. -/
import Derived.Test.YtaocjmipjibiaaaGreatDoorBaseI
import Derived.Test.YtaocjmipjibiaaaGreatDoorBaseD
import Derived.Test.YtaocjmipjibiaaaGreatDoorTie
import Derived.Test.YtaocjmipjibiaaaGreatDoorCards
import Derived.SevenTiedAt
import Derived.Test.YtaocjmipjibiaaaGreatDoorPzC
import Derived.Test.YtaocjmipjibiaaaGreatDoorPzD
import Derived.Test.YtaocjmipjibiaaaGreatDoorChWk
namespace Go.Proofs.YtaocjmipjibiaaaGreatDoor
open Go.RowKit
set_option linter.unusedVariables false
set_option linter.unusedSimpArgs false

/-- The document's Parse. -/
theorem refParseCh_any (s : ByteArray) (w : World) :
    Calls Tryz.prog 30 #[.string s] w fun e w' => ParseDone s.data.toList w e w' := by
  by_cases hs : s.size ≤ 262144
  · by_cases h1 : hdW s.data.toList = [99, 114, 101, 97, 116, 101]
    · exact refParse_k1 s hs h1 w
    · by_cases h2 : hdW s.data.toList = [109, 111, 118, 101]
      · exact refParse_k2 s hs h2 w
      · by_cases h3 : hdW s.data.toList = [115, 101, 116]
        · exact refParse_k3 s hs h3 w
        · by_cases h4 : hdW s.data.toList = [99, 108, 101, 97, 114]
          · exact refParse_k4 s hs h4 w
          · by_cases h5 : hdW s.data.toList = [116, 101, 120, 116]
            · exact refParse_k5 s hs h5 w
            · exact refParse_k0 s hs ⟨h1, h2, h3, h4, h5⟩ (by unfold kindOf; rw [if_neg (show ¬ hdW s.data.toList = kindL 1 from h1), if_neg (show ¬ hdW s.data.toList = kindL 2 from h2), if_neg (show ¬ hdW s.data.toList = kindL 3 from h3), if_neg (show ¬ hdW s.data.toList = kindL 4 from h4), if_neg (show ¬ hdW s.data.toList = kindL 5 from h5)]) w
  · exact refParse_long s (by omega) w

set_option maxRecDepth 100000 in
set_option maxHeartbeats 8000000 in
theorem changeParses_walk (s : ByteArray) (w : World) (he : Env w) :
    Calls Tryz.prog 8 #[.string s] w fun e w' => e = .returned (.bool true) ∧ Below w.heap.size w w' := by
  have HEnv : Hid (Env w) := he
  clear he
  go_enter Tryz.func8, Tryz.ntmps8
  go_wp2_with fail
  refine (parseCh_any s _ HEnv.out).mono ?_
  rintro e w1 ⟨ac, ar, sq, dv, ds, kd, nc, nr, pc, pr, fc, fr, nm, vl, k, rfl, hp, hi, hnm, hb1⟩
  obtain ⟨a1, c1, e1⟩ := hi.form
  subst e1
  have HP : Hid (ParseCh s.data.toList ⟨ac, ar, sq, ds, kd, nc, nr, pc, pr, fc, fr, nm, vl⟩ k) := hp
  have HI : Hid (IsI w1 (.slice a1 ds.length c1) ds) := hi
  have HB1 : Hid (Below w.heap.size w w1) := hb1
  clear hp hi hb1 hnm
  have M0 := KeptC.start w1 [.int .i64 ac, .int .i64 ar, .int .i64 sq, .slice a1 ds.length c1, .int .i64 kd, .int .i64 nc, .int .i64 nr, .int .i64 pc, .int .i64 pr, .int .i64 fc, .int .i64 fr, .string nm, .string vl] 26
  go_wp2_with fail
  refine (refParseCh_any s _).mono ?_
  rintro e w2 ⟨ac2, ar2, sq2, dv2, ds2, kd2, nc2, nr2, pc2, pr2, fc2, fr2, nm2, vl2, k2, rfl, hp2, hi2, hnm2, hb2⟩
  obtain ⟨ech, ek⟩ := HP.out.unique hp2
  simp only [Ch.mk.injEq] at ech
  obtain ⟨rfl, rfl, rfl, rfl, rfl, rfl, rfl, rfl, rfl, rfl, rfl, rfl, rfl⟩ := ech
  subst ek
  obtain ⟨a2, c2, e2⟩ := hi2.form
  subst e2
  have M1 := M0.step hb2
  have N0 := KeptC.start w2 [.int .i64 ac, .int .i64 ar, .int .i64 sq, .slice a2 ds.length c2, .int .i64 kd, .int .i64 nc, .int .i64 nr, .int .i64 pc, .int .i64 pr, .int .i64 fc, .int .i64 fr, .string nm, .string vl] 26
  have M2 := M1.step N0.2.2
  have H1 : Hid (IsI (w2.alloc (.cells #[.int .i64 ac, .int .i64 ar, .int .i64 sq, .slice a2 ds.length c2, .int .i64 kd, .int .i64 nc, .int .i64 nr, .int .i64 pc, .int .i64 pr, .int .i64 fc, .int .i64 fr, .string nm, .string vl] 26)) (.slice a1 ds.length c1) ds) := HI.out.below M2.2.2
  have H2 : Hid (IsI (w2.alloc (.cells #[.int .i64 ac, .int .i64 ar, .int .i64 sq, .slice a2 ds.length c2, .int .i64 kd, .int .i64 nc, .int .i64 nr, .int .i64 pc, .int .i64 pr, .int .i64 fc, .int .i64 fr, .string nm, .string vl] 26)) (.slice a2 ds.length c2) ds) := hi2.below N0.2.2
  have HB2 : Hid (Below w.heap.size w (w2.alloc (.cells #[.int .i64 ac, .int .i64 ar, .int .i64 sq, .slice a2 ds.length c2, .int .i64 kd, .int .i64 nc, .int .i64 nr, .int .i64 pc, .int .i64 pr, .int .i64 fc, .int .i64 fr, .string nm, .string vl] 26))) := HB1.out.trans (M2.2.2.mono HB1.out.size)
  obtain ⟨k_0, k_1, k_2, k_3, k_4, k_5, k_6, k_7, k_8, k_9, k_10, k_11, k_12⟩ := M2.all
  obtain ⟨m_0, m_1, m_2, m_3, m_4, m_5, m_6, m_7, m_8, m_9, m_10, m_11, m_12⟩ := N0.all
  have q : (k == k) = true := by simp
  clear hp2 hi2 hnm2 hb2 HI HP
  go_wp2_with fail
  refine (refSameCh_eq ac ar sq (.slice a1 ds.length c1) (.slice a2 ds.length c2) kd nc nr pc pr fc fr nm vl ds _ H1.out H2.out).mono ?_
  rintro e w3 ⟨rfl, hb3⟩
  have HB3 : Hid (Below w.heap.size w w3) := HB2.out.trans (hb3.mono HB2.out.size)
  clear hb3
  go_wp2_with fail
  refine (awake5_any _ (HEnv.out.below HB3.out)).mono ?_
  rintro e w4 ⟨rfl, hb4⟩
  have HB4 : Hid (Below w.heap.size w w4) := HB3.out.trans (hb4.mono HB3.out.size)
  clear hb4
  go_wp2
  go_ret
  exact ⟨rfl, HB4.out⟩

end Go.Proofs.YtaocjmipjibiaaaGreatDoor

namespace Go.Proofs.YtaocjmipjibiaaaGreatDoor
open Go.ChangeShapes Go.WideShapes Go.ChangeAt Go.RowKit Go.Joins
open Go.ChangeMaps (open_string shut_string)
set_option linter.unusedVariables false

set_option maxRecDepth 100000 in
theorem changeParses_lifted (os : Os) (started : os.Started) (H : Type) (enc : TypeId × Value → H) :
    ReturnsInHanded {} Tryz.checked os 8 .any (fun w args => (Rows.changeParsesSpec.pre enc Tryz.prog Tryz.f8 [] false w args ∧ laidMetH Tryz.prog laidD w) ∧ sizedMet enc Tryz.prog Tryz.f8 (OpenSpec.ofChange Rows.changeParsesSpec) false w args)
      (Rows.changeParsesSpec.post enc Tryz.prog Tryz.f8 false true false false) := by
  refine returnsInHanded_of_change_and (C := Tryz.checked) (X := fun w _ => laidMetH Tryz.prog laidD w) (fun _ _ _ hh h => h.of_heap hh) ownI started (by kernel_rfl) Tryz.func8
    (ChangeSpec.witness_shaped (enc := enc) (C := Tryz.checked) (os := os) (X := fun w _ => laidMetH Tryz.prog laidD w) false (World.doorLaid Tryz.prog 62 os) #[.string ByteArray.empty] 8 rfl (World.shaped_of_RefB (by kernel_rfl) (by kernel_rfl)) (by kernel_rfl) (by kernel_rfl) (by kernel_rfl) (door_metD os _)) ?_
  intro W base args ds gs before hval0 hW _ hsz0 hL _
  have hval : ∀ (j : Nat) t v, Tryz.f8.params[j]? = some t → args[j]? = some v → Value.okWide Tryz.prog W .any base t v := hval0
  have hW' := hW
  obtain ⟨p, q, hA0, hV, rfl, hfz, hnd⟩ := hW
  have hA : DataW.TrodAll enc Tryz.prog W 0 (fun _ => true) true Tryz.f8.params.toList args.toList ds p := hA0
  rw [Tryz.params8] at hA hval
  obtain ⟨v0, d0, rfl, rfl, h0⟩ := trodAll_one hA
  obtain ⟨rfl, rfl⟩ := trodVars_none hV
  obtain ⟨s0, rfl, rfl, rfl, hs0⟩ := open_string Tryz.underlying9 (hval 0 9 v0 rfl rfl) h0
  clear hA0 hval0
  refine (changeParses_walk s0 W  (env_of_laid hL)).mono fun e W' ⟨he, bel⟩ => ?_
  subst he
  exact ⟨_, rfl, _, _, _, [], _, [], hW', trodAll_mk1 (shut_bool Tryz.underlying4 _), trodAll_mk1 (shut_string Tryz.underlying9 hs0), rfl, bel.frame _, fun h => by cases h⟩

theorem changeParses_row : Rows.ChangeParsesSaid :=
  OpenClaim.holds_of_wide 8 Tryz.f8 rfl rfl rfl rfl rfl rfl rfl ⟨rfl, rfl, rfl, rfl, rfl⟩ rfl rfl rfl rfl rfl (by kernel_rfl) Tryz.func8 (by kernel_rfl)
    (of_decide_eq_true (by kernel_rfl)) (by unfold Func.isWrapper; first | (rw [if_pos (by decide +kernel)]; kernel_rfl) | (rw [if_neg (by decide +kernel)]; exact ⟨rfl, rfl⟩))
    (fun os started H enc _ => changeParses_lifted os started H enc)

theorem changeParses_holds : Rows.ChangeParsesCardSaid :=
  Claim7.holds_tied_plain_at .later [] [.data, .data, .data, .sentinel, .sentinel] true (true, "810b6b9e174de18989472189c9613c513580924266aca977a2e0d3b17c2651ba") true
    changeParses_row (fun _ h => by cases h) (by kernel_rfl) (fun _ h => by cases h) changeParses_row_tie rfl ⟨rfl, rfl⟩ (by kernel_rfl) rfl
    (fun f fn hf hfn => by
      obtain rfl : f = 8 := Option.some.inj ((show Tryz.prog.funcNamed Rows.changeParsesRow.func = some 8 by kernel_rfl).symm.trans hf) |>.symm
      obtain rfl : fn = Tryz.f8 := (Option.some.inj (Tryz.func8.symm.trans hfn)).symm
      exact ⟨by kernel_rfl, fun j t ht => by
        rw [Tryz.params8] at ht
        have hm : t ∈ [9] := by simpa using Array.mem_of_getElem? ht
        have hall : ([9].all fun u => !Tryz.prog.wantsStandIn u) = true := by kernel_rfl
        exact (show Tryz.prog.wantsStandIn t = false by simpa using List.all_eq_true.1 hall t hm)⟩)
    (by kernel_rfl)
#print axioms changeParses_holds
end Go.Proofs.YtaocjmipjibiaaaGreatDoor
