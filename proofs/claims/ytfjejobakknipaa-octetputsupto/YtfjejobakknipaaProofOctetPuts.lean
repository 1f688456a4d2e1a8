/- OctetPuts of package topiarylaw03 is proved at this commit, in its second form: for every input (a list of bytes, a list of numbers, a list of texts) of bulk at most 1048576 the call returns true and the arguments read as they did. (The first form is false by size alone.) -/
import Derived.Test.YtfjejobakknipaaBaseU
import Derived.Test.YtfjejobakknipaaOcPu
namespace Go.Proofs.Ytfjejobakknipaa
open Go.ChangeShapes Go.WideShapes Go.ChangeAt Go.RowKit
set_option linter.unusedVariables false

set_option maxRecDepth 100000 in
theorem octetPuts_contract (H : Type) (enc : TypeId × Value → H) (W : World) (base : Nat) (args : Array Value) (ds gs : List (DataW H)) (before : List MemPlace)
    (hval : ∀ (j : Nat) t v, Try.f3.params[j]? = some t → args[j]? = some v → Value.okWide Try.prog W .any base t v)
    (hW : DataW.Whole enc Try.prog Try.f3.params.toList Rows.octetPutsSpec.vars false W args.toList ds gs before) (hk : Rows.uptoSmall H (ds ++ gs) = true) :
    Calls Try.prog 3 args W fun e W' => ∃ v, e = .returned v ∧ Rows.octetPutsSpec.post enc Try.prog Try.f3 false true false false W args v W' := by
  have hW' := hW
  obtain ⟨p, q, hA0, hV, rfl, hfz, hnd⟩ := hW
  have hA : DataW.TrodAll enc Try.prog W 0 (fun _ => true) true Try.f3.params.toList args.toList ds p := hA0
  rw [Try.params3] at hA hval
  obtain ⟨v0, v1, v2, d0, d1, d2, p0, p1, p2, rfl, rfl, rfl, h0, h1, h2⟩ := trodAll_three hA
  obtain ⟨rfl, rfl⟩ := trodVars_none hV
  have hk0 := h0
  obtain ⟨D0, hf0, hd0⟩ := open_bytesU (hval 0 22 v0 rfl rfl) h0
  have hk1 := h1
  obtain ⟨D1, hf1, hr1, hd1⟩ := open_intsU (hval 1 23 v1 rfl rfl) h1
  have hk2 := h2
  obtain ⟨D2, hf2, hd2⟩ := open_textsU (hval 2 24 v2 rfl rfl) h2
  have hb : Rows.uptoBulkAll _ ≤ 1048576 := of_decide_eq_true hk
  simp only [List.append_nil, Rows.uptoBulkAll] at hb
  have bk0 : D0.length + 1 ≤ Rows.uptoBulk d0 + 0 := by
    rcases hd0 with ⟨rfl, rfl⟩ | ⟨zs, sp, rfl, hz⟩
    · simp [Rows.uptoBulk]
    · rw [Rows.uptoBulk, bulk_ints]; omega
  have hlt0 : ∀ x ∈ p0, x.block < W.heap.size := fun x hx => by simpa using hW'.lt x (by simp [hx])
  have bk1 : D1.length + 1 ≤ Rows.uptoBulk d1 + 0 := by
    rcases hd1 with ⟨rfl, rfl⟩ | ⟨sp, rfl⟩
    · simp [Rows.uptoBulk]
    · rw [Rows.uptoBulk, bulk_ints]; omega
  have pl1 := puts_len D1 hr1
  have hlt1 : ∀ x ∈ p1, x.block < W.heap.size := fun x hx => by simpa using hW'.lt x (by simp [hx])
  have bk2 : (textsL D2).length ≤ 10 * Rows.uptoBulk d2 ∧ D2.length ≤ Rows.uptoBulk d2 := by
    rcases hd2 with ⟨rfl, rfl⟩ | ⟨sp, rfl⟩
    · simp [Rows.uptoBulk, textsL]
    · have h := bulk_texts (H := H) D2
      rw [Rows.uptoBulk]; omega
  have hlt2 : ∀ x ∈ p2, x.block < W.heap.size := fun x hx => by simpa using hW'.lt x (by simp [hx])
  have is0 : IsB W v0 D0 := by obtain ⟨a, cap, e, h1, h2⟩ := hf0; exact ⟨a, cap, e, h1, by omega, h2⟩
  have is1 : IsI W v1 D1 := by obtain ⟨a, cap, e, h1, h2⟩ := hf1; exact ⟨a, cap, e, h1, by omega, h2⟩
  have is2 : IsT W v2 D2 := by obtain ⟨a, cap, e, h1, h2⟩ := hf2; exact ⟨a, cap, e, h1, by omega, h2⟩
  clear hA0
  refine (octetPuts_walk v0 D0 v1 D1 v2 D2 W is0 is1 hr1 is2 (by omega)).mono fun e W' ⟨he, bel⟩ => ?_
  subst he
  exact ⟨_, rfl, _, _, _, [], _, [], hW', trodAll_mk1 (shut_bool Try.underlying4 _), trodAll_mk3 (Below.trod laidOutI (by kernel_rfl) (of_decide_eq_true (by kernel_rfl)) hk0 bel hlt0) (Below.trod laidOutI (by kernel_rfl) (of_decide_eq_true (by kernel_rfl)) hk1 bel hlt1) (Below.trod laidOutI (by kernel_rfl) (of_decide_eq_true (by kernel_rfl)) hk2 bel hlt2), rfl, bel.frame _, fun h => by cases h⟩

set_option maxRecDepth 100000 in
theorem octetPuts_lifted (os : Os) (started : os.Started) (H : Type) (enc : TypeId × Value → H) (F : Stop.Interp) :
    ReturnsInHanded {} Try.checked os 3 .any ((Rows.OpenSpec.upto Rows.octetPutsSpec).pre6 enc Try.prog Try.f3 Rows.octetPutsUptoRow.domain false) (((Rows.OpenSpec.upto Rows.octetPutsSpec).at F).post enc Try.prog Try.f3 false true false false) := by
  refine returnsInHanded_of_cond (C := Try.checked) (s := Rows.OpenSpec.upto Rows.octetPutsSpec) (k := Rows.uptoSmall) rfl ownI started (by kernel_rfl) Try.func3
    (OpenSpec.witness (enc := enc) (C := Try.checked) (s := Rows.OpenSpec.upto Rows.octetPutsSpec) (k := Rows.uptoSmall) rfl false ⟨#[], #[.slice none 0 0, .slice none 0 0, .slice none 0 0], []⟩ 8 (by kernel_rfl) (by kernel_rfl) (by kernel_rfl)
      (x := ([.nil, .nil, .nil], [], [])) (by kernel_rfl) rfl (by kernel_rfl)) ?_
  intro W base args ds gs before hval hW _ hk _
  exact octetPuts_contract H enc W base args ds gs before hval hW hk

theorem octetPuts_holds : Rows.OctetPutsUptoSaid :=
  OpenClaim.holds_of_cond 3 Try.f3 rfl rfl rfl rfl rfl rfl rfl ⟨rfl, rfl, rfl, rfl, rfl⟩ rfl rfl rfl rfl rfl (by kernel_rfl) Try.func3 (by kernel_rfl)
    (of_decide_eq_true (by kernel_rfl)) (by unfold Func.isWrapper; first | (rw [if_pos (by decide +kernel)]; kernel_rfl) | (rw [if_neg (by decide +kernel)]; exact ⟨rfl, rfl⟩))
    (fun os started H enc _ F => octetPuts_lifted os started H enc F)
#print axioms octetPuts_holds
end Go.Proofs.Ytfjejobakknipaa
