/- LisMore of package topiarylaw16 is proved at this commit: for every input (a list of numbers, a number, any) the call returns true and the arguments read as they did. No condition. -/
import Derived.Test.YtjnccmkhhnaaiabBaseI
import Derived.Test.YtjnccmkhhnaaiabLiK
namespace Go.Proofs.Ytjnccmkhhnaaiab
open Go.ChangeShapes Go.WideShapes Go.ChangeAt Go.RowKit
open Go.ChangeMaps (open_string shut_string)
set_option linter.unusedVariables false

set_option maxRecDepth 100000 in
theorem lisMore_lifted (os : Os) (started : os.Started) (H : Type) (enc : TypeId × Value → H) :
    ReturnsInHanded {} Try.checked os 3 .any (Rows.lisMoreSpec.pre6 enc Try.prog Try.f3 Rows.lisMoreRow.domain false) (Rows.lisMoreSpec.post enc Try.prog Try.f3 false true false false) := by
  refine returnsInHanded_of_change_sized (C := Try.checked) ownI started (by kernel_rfl) Try.func3
    (ChangeSpec.witness6 (enc := enc) (C := Try.checked) false ⟨#[], #[.slice none 0 0, .int .i64 0], []⟩ 8 (by kernel_rfl) (by kernel_rfl) (by kernel_rfl) (by kernel_rfl)) ?_
  intro W base args ds gs before hval0 hW _ hsz0 _
  have hval : ∀ (j : Nat) t v, Try.f3.params[j]? = some t → args[j]? = some v → Value.okWide Try.prog W .any base t v := hval0
  have hW' := hW
  obtain ⟨p, q, hA0, hV, rfl, hfz, hnd⟩ := hW
  have hA : DataW.TrodAll enc Try.prog W 0 (fun _ => true) true Try.f3.params.toList args.toList ds p := hA0
  rw [Try.params3] at hA hval
  obtain ⟨v0, v1, d0, d1, p0, p1, rfl, rfl, rfl, h0, h1⟩ := trodAll_two hA
  obtain ⟨rfl, rfl⟩ := trodVars_none hV
  have hk0 := h0
  obtain ⟨D0, hf0, hd0⟩ := open_intsV (hval 0 22 v0 rfl rfl) h0
  obtain ⟨x1, rfl, rfl, rfl, wx1⟩ := open_int Try.underlying3 (hval 1 3 v1 rfl rfl) h1
  have hsz : (DataW.weightsEach Try.prog (Try.f3.params.toList ++ Rows.lisMoreSpec.plain.varTypes Try.prog) (_ ++ _)).all (· ≤ reachBytes) = true := hsz0
  rw [Try.params3] at hsz
  have len0 : D0.length ≤ 17592186043904 := by
    rcases hd0 with ⟨_, rfl⟩ | ⟨els, sp, e, he⟩
    · simp
    · subst e
      have h1 := sized_slice hsz (j := 0) (t := 22) rfl rfl Try.underlying22
      have h2 : reachBytes ≤ 140737488351232 := by decide
      rw [bytesInt] at h1
      omega
  have is0 : IsI W v0 D0 := by obtain ⟨a, cap, e, h1, h2⟩ := hf0; exact ⟨a, cap, e, h1, Nat.le_trans len0 (by decide), h2⟩
  have hlt0 : ∀ x ∈ p0, x.block < W.heap.size := fun x hx => by simpa using hW'.lt x (by simp [hx])
  clear hA0 hval0
  refine (lisMore_walk v0 D0 x1 W is0 len0 wx1).mono fun e W' ⟨he, bel⟩ => ?_
  subst he
  exact ⟨_, rfl, _, _, _, [], _, [], hW', trodAll_mk1 (shut_bool Try.underlying4 _), trodAll_mk2 (Below.trod laidOutI (by kernel_rfl) (of_decide_eq_true (by kernel_rfl)) hk0 bel hlt0) (shut_int Try.underlying3 wx1), rfl, bel.frame _, fun h => by cases h⟩

theorem lisMore_holds : Rows.LisMoreSaid :=
  OpenClaim.holds_of_wide 3 Try.f3 rfl rfl rfl rfl rfl rfl rfl ⟨rfl, rfl, rfl, rfl, rfl⟩ rfl rfl rfl rfl rfl (by kernel_rfl) Try.func3 (by kernel_rfl)
    (of_decide_eq_true (by kernel_rfl)) (by unfold Func.isWrapper; first | (rw [if_pos (by decide +kernel)]; kernel_rfl) | (rw [if_neg (by decide +kernel)]; exact ⟨rfl, rfl⟩))
    (fun os started H enc _ => lisMore_lifted os started H enc)
#print axioms lisMore_holds
end Go.Proofs.Ytjnccmkhhnaaiab
