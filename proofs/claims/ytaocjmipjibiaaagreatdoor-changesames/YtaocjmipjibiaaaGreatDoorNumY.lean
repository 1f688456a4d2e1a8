/- What the document's Whole and Digits do. -/
import Derived.Test.YtaocjmipjibiaaaGreatDoorNumX
namespace Go.Proofs.YtaocjmipjibiaaaGreatDoor
open Go.RowKit
set_option linter.unusedVariables false

theorem whole_any (s : ByteArray) (w : World) : Calls Tryz.prog 68 #[.string s] w fun e w' => WholePost s.data.toList w e w' := by
  have hl : s.data.toList.length = s.size := by simp
  by_cases h0 : s.size = 0
  · exact (whole_short s h0 w).mono fun e w' ⟨h, hw⟩ => by subst h hw; exact WholePost.mk (wholeIs_long 0 (.inl (List.eq_nil_of_length_eq_zero (by omega))))
  by_cases h13 : 13 < s.size
  · exact (whole_wide s h13 w).mono fun e w' ⟨h, hw⟩ => by subst h hw; exact WholePost.mk (wholeIs_long 0 (.inr (by omega)))
  have hp : 0 < s.size := by omega
  by_cases q : ((s[0].toNat : Int) == 48) = true
  · by_cases h1 : 1 < s.size
    · refine (whole_nought s hp h1 (by omega) q w).mono fun e w' ⟨h, hw⟩ => ?_
      subst h hw
      match hm : s.data.toList with
      | [] => rw [hm] at hl; simp at hl; omega
      | c :: r =>
        have hc : s[0] = c := by
          have : s.data.toList[0]? = some c := by rw [hm]; rfl
          rw [Array.getElem?_toList] at this
          exact (Array.getElem?_eq_some_iff.1 this).2
        rw [hc] at q
        simp at q
        exact WholePost.mk (wholeIs_nought 0 (by omega) (fun e => by rw [hm, e] at hl; simp at hl; omega))
    · exact whole_loop s hp (by omega) (.inr ⟨q, by omega⟩) w
  · exact whole_loop s hp (by omega) (.inl (by simpa using q)) w

theorem digitsI (c : Int) (h0 : 0 ≤ c) (h1 : c ≤ 1099511627776) (w : World) :
    Calls Tryz.prog 64 #[.int .i64 c] w fun e w' => e = .returned (.string ⟨(Lib.itoa c).toArray⟩) ∧ Below w.heap.size w w' := by
  obtain ⟨n, rfl⟩ := Int.eq_ofNat_of_zero_le h0
  rw [itoa_nat _ h0]
  exact digits_any n (by omega) w

end Go.Proofs.YtaocjmipjibiaaaGreatDoor
