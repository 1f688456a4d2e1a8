/- What Take's answers come to; Held of a buffer in order. -/
import Derived.Test.YthndgmnckpimmaaCaZ
import Derived.Test.YthndgmnckpimmaaOlQ
namespace Go.Proofs.Ythndgmnckpimmaa
open Go.RowKit
set_option linter.unusedVariables false
set_option linter.unusedSimpArgs false

theorem checkCh_six (c : Ch) : checkCh c ≠ 6 := by
  have h1 : depsE c ≠ 6 := by unfold depsE; (repeat' split) <;> first | decide | (have := checkL_cases c.deps; omega)
  have h2 : valueE c ≠ 6 := by unfold valueE; (repeat' split) <;> decide
  unfold checkCh
  (repeat' split) <;> first | decide | exact h1 | exact h2
theorem newH_six (H : List Ch) (kn : List Int) (c : Ch) : newH H kn c ≠ 6 := by
  unfold newH
  have := checkL_cases kn
  have := checkCh_six c
  (repeat' split) <;> omega
theorem takeR_full {room : Int} {H : List Ch} {kn : List Int} {c : Ch} (h : (takeR room H kn c).2.2 = 6) : takeR room H kn c = (H, [], 6) ∧ room ≤ (H.length : Int) := by
  unfold takeR at *
  split at h
  · exact absurd h (newH_six H kn c)
  · rename_i h1
    rw [if_neg h1]
    split at h
    · cases h
    · rename_i h2
      rw [if_neg h2]
      split at h
      · rename_i h3
        rw [if_pos h3]
        exact ⟨rfl, h3⟩
      · cases h
theorem takeR_len {room : Int} {H : List Ch} {kn : List Int} {c : Ch} (h : (H.length : Int) ≤ room) : ((takeR room H kn c).1.length : Int) ≤ room := by
  unfold takeR
  split
  · exact h
  · split
    · have := (runL_sub H.length (tickR kn c.ar) H).length_le
      simp only
      omega
    · split
      · exact h
      · have := (insC_perm c H).length_eq
        simp only [List.length_cons] at this
        simp only
        omega
theorem BufH.lt {F : Nat → Prop} {w : World} {v : Value} {room : Int} {H : List Ch} (h : BufH F w v room H) : ∀ k, F k → k < w.heap.size := by
  obtain ⟨D, h1, _⟩ := h
  rcases h1 with ⟨_, _, _, h⟩ | ⟨_, _, _, h⟩
  · exact h.lt
  · exact h
theorem heldH_any (F : Nat → Prop) (v : Value) (room : Int) (H : List Ch) (w : World) (h : BufH F w v room H) (hl : H.length ≤ 4096) :
    Calls Try.prog 23 #[v] w fun e w' => ∃ a c E, e = .returned (.slice a H.length c) ∧ AccH w.heap.size (.slice a H.length c) E w' ∧ E.map Prod.fst = H ∧ Below w.heap.size w w' := by
  obtain ⟨D, h1, hp, hs⟩ := h
  refine (held_any v room D F w h1 (by have := hp.length_eq; simp at this; omega)).mono ?_
  rintro e w' ⟨v', E, rfl, hA, hp2, hs2, hb⟩
  have he : E.map Prod.fst = H := srtC_ext hs2 hs (hp2.trans hp)
  obtain ⟨a, c, e⟩ := hA.own.form
  have hl2 : E.length = H.length := by have := congrArg List.length he; simpa using this
  rw [hl2] at e
  subst e
  exact ⟨a, c, E, rfl, hA, he, hb⟩
theorem lenH_any (F : Nat → Prop) (v : Value) (room : Int) (H : List Ch) (w : World) (h : BufH F w v room H) :
    Calls Try.prog 22 #[v] w fun e w' => e = .returned (.int .i64 (H.length : Int)) ∧ Below w.heap.size w w' := by
  obtain ⟨D, h1, hp, hs⟩ := h
  have hl : D.length = H.length := by have := hp.length_eq; simpa using this
  rw [← hl]
  exact len_any v room D F w h1

end Go.Proofs.Ythndgmnckpimmaa
