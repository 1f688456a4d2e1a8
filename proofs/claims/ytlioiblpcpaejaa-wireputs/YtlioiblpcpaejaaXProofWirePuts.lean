/- WirePuts of package topiarylaw06 is proved at this commit: for every input (a change, any) the call returns true and the arguments read as they did. No condition. -/
import Derived.Test.YtlioiblpcpaejaaXBaseW
import Derived.Test.YtlioiblpcpaejaaXWlPu
namespace Go.Proofs.Ytlioiblpcpaejaa
open Go.ChangeShapes Go.WideShapes Go.ChangeAt Go.RowKit
open Go.ChangeMaps (open_string shut_string)
set_option linter.unusedVariables false

set_option maxRecDepth 100000 in
theorem wirePuts_lifted (os : Os) (started : os.Started) (H : Type) (enc : TypeId × Value → H) :
    ReturnsInHanded {} Try.checked os 3 .any (Rows.wirePutsSpec.pre6 enc Try.prog Try.f3 Rows.wirePutsRow.domain false) (Rows.wirePutsSpec.post enc Try.prog Try.f3 false true false false) := by
  refine returnsInHanded_of_change_sized (C := Try.checked) ownI started (by kernel_rfl) Try.func3
    (ChangeSpec.witness6 (enc := enc) (C := Try.checked) false ⟨#[], #[.agg #[.int .i64 0, .int .i64 0, .int .i64 0, .slice none 0 0, .int .i64 0, .int .i64 0, .int .i64 0, .int .i64 0, .int .i64 0, .int .i64 0, .int .i64 0, .string ByteArray.empty, .string ByteArray.empty]], []⟩ 8 (by kernel_rfl) (by kernel_rfl) (by kernel_rfl) (by kernel_rfl)) ?_
  intro W base args ds gs before hval0 hW _ hsz0 _
  have hval : ∀ (j : Nat) t v, Try.f3.params[j]? = some t → args[j]? = some v → Value.okWide Try.prog W .any base t v := hval0
  have hW' := hW
  obtain ⟨p, q, hA0, hV, rfl, hfz, hnd⟩ := hW
  have hA : DataW.TrodAll enc Try.prog W 0 (fun _ => true) true Try.f3.params.toList args.toList ds p := hA0
  rw [Try.params3] at hA hval
  obtain ⟨v0, d0, rfl, rfl, h0⟩ := trodAll_one hA
  obtain ⟨rfl, rfl⟩ := trodVars_none hV
  have hk0 := h0
  obtain ⟨ac0, ar0, sq0, dv0, ds0, kd0, nc0, nr0, pc0, pr0, fc0, fr0, nm0, vl0, ev0, hf0, ⟨y00, y01, y02, y03, y04, y05, y06, ey0, hd0⟩, wf0⟩ := open_change (hval 0 26 v0 rfl rfl) h0
  subst ev0 ey0
  have hsz : (DataW.weightsEach Try.prog (Try.f3.params.toList ++ Rows.wirePutsSpec.plain.varTypes Try.prog) (_ ++ _)).all (· ≤ reachBytes) = true := hsz0
  rw [Try.params3] at hsz
  have hst0 := sized_struct hsz (j := 0) (t := 26) rfl rfl Try.underlying26
  have len0 : ds0.length ≤ 17592186044416 := by
    rcases hd0 with ⟨_, rfl⟩ | ⟨els, sp, e, he⟩
    · simp
    · subst e
      have h1 := sized_slice hst0 (j := 2) (t := 24) rfl rfl Try.underlying24
      have h2 : reachBytes ≤ 140737488355328 := by decide
      rw [bytesInt] at h1
      omega
  have bn0 : nm0.size ≤ 281474976710656 := by
    have h1 := sized_string hst0 (j := 7) (t := 9) rfl rfl
    have h2 : reachBytes ≤ 140737488355328 := by decide
    have h3 : nm0.size = nm0.data.size := rfl
    rw [Array.length_toList] at h1
    omega
  have bv0 : vl0.size ≤ 281474976710656 := by
    have h1 := sized_string hst0 (j := 8) (t := 9) rfl rfl
    have h2 : reachBytes ≤ 140737488355328 := by decide
    have h3 : vl0.size = vl0.data.size := rfl
    rw [Array.length_toList] at h1
    omega
  have is0 : IsI W dv0 ds0 := by obtain ⟨a, cap, e, h1, h2⟩ := hf0; exact ⟨a, cap, e, h1, len0, h2⟩
  have hlt0 : ∀ x ∈ p, x.block < W.heap.size := fun x hx => by simpa using hW'.lt x (by simp [hx])
  clear hA0 hval0
  refine (wirePuts_walk ac0 ar0 sq0 dv0 kd0 nc0 nr0 pc0 pr0 fc0 fr0 nm0 vl0 ds0 W is0 bn0).mono fun e W' ⟨he, bel⟩ => ?_
  subst he
  exact ⟨_, rfl, _, _, _, [], _, [], hW', trodAll_mk1 (shut_bool Try.underlying4 _), trodAll_mk1 (Below.trod laidOutI (by kernel_rfl) (of_decide_eq_true (by kernel_rfl)) hk0 bel hlt0), rfl, bel.frame _, fun h => by cases h⟩

theorem wirePuts_holds : Rows.WirePutsSaid :=
  OpenClaim.holds_of_wide 3 Try.f3 rfl rfl rfl rfl rfl rfl rfl ⟨rfl, rfl, rfl, rfl, rfl⟩ rfl rfl rfl rfl rfl (by kernel_rfl) Try.func3 (by kernel_rfl)
    (of_decide_eq_true (by kernel_rfl)) (by unfold Func.isWrapper; first | (rw [if_pos (by decide +kernel)]; kernel_rfl) | (rw [if_neg (by decide +kernel)]; exact ⟨rfl, rfl⟩))
    (fun os started H enc _ => wirePuts_lifted os started H enc)
#print axioms wirePuts_holds
end Go.Proofs.Ytlioiblpcpaejaa
