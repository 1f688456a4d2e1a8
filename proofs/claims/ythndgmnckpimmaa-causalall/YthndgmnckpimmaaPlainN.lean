/- What follows of a log: it is closed; a part of a history, two parts of it together; what somebody lacks. -/
import Derived.Test.YthndgmnckpimmaaPlainL
namespace Go.Proofs.Ythndgmnckpimmaa
set_option linter.unusedVariables false

/-- What is added where nothing speaks against it. -/
def addL (Z : List Ch) (room : Int) (c : Ch) : List Ch := if whyR Z room c = 0 then putC Z c else Z
theorem addL_good {Z : List Ch} (g : Good Z) (room : Int) (c : Ch) : Good (addL Z room c) := by
  unfold addL
  split
  · rename_i h; exact good_put g h
  · exact g
theorem addL_length (Z : List Ch) (room : Int) (c : Ch) : (addL Z room c).length ≤ Z.length + 1 := by
  unfold addL
  split
  · rw [putC_length]; exact Nat.le_refl _
  · exact Nat.le_succ _
theorem addL_room {Z : List Ch} {room : Int} {c : Ch} (h : (Z.length : Int) ≤ room) : ((addL Z room c).length : Int) ≤ room := by
  unfold addL
  split
  · rename_i h2
    have := (why_ok h2).2.2.2.2.2
    rw [putC_length]; omega
  · exact h
theorem addL_mem {Z : List Ch} {room : Int} {c x : Ch} (h : x ∈ addL Z room c) : x ∈ Z ∨ x = c := by
  unfold addL at h
  split at h
  · exact ((putC_mem _ _ _).1 h).symm
  · exact .inl h
/-- A log of changes, as far as they can be added. -/
def fillL (room : Int) (l : List Ch) : List Ch := l.foldl (fun Z c => addL Z room c) []
theorem fillL_snoc (room : Int) (l : List Ch) (c : Ch) : fillL room (l ++ [c]) = addL (fillL room l) room c := by simp [fillL]
theorem foldl_good (room : Int) (l : List Ch) : ∀ Z, Good Z → Good (l.foldl (fun Z c => addL Z room c) Z) := by
  induction l with
  | nil => intro Z h; exact h
  | cons c t ih => intro Z h; exact ih _ (addL_good h room c)
theorem fillL_good (room : Int) (l : List Ch) : Good (fillL room l) := foldl_good room l [] Good.none
theorem foldl_room (room : Int) (l : List Ch) : ∀ Z : List Ch, (Z.length : Int) ≤ room → ((l.foldl (fun Z c => addL Z room c) Z).length : Int) ≤ room := by
  induction l with
  | nil => intro Z h; exact h
  | cons c t ih => intro Z h; exact ih _ (addL_room h)
theorem fillL_room {room : Int} (h : 0 ≤ room) (l : List Ch) : ((fillL room l).length : Int) ≤ room := foldl_room room l [] (by simpa using h)

/-- What somebody lacks. -/
def lackL (L : List Ch) (known : List Int) : List Ch := L.filter fun c => !withinB c known
theorem lackL_srt {L : List Ch} (h : Srt L) (known : List Int) : Srt (lackL L known) := List.Pairwise.filter _ h
theorem lackL_all {L : List Ch} (g : Good L) : lackL L [] = L := by
  unfold lackL
  rw [List.filter_eq_self]
  intro c hc
  have := g.right hc
  have e : withinB c [] = false := by unfold withinB; rw [decide_eq_false_iff_not]; unfold atL; split <;> simp <;> omega
  rw [e]; rfl
/-- The greatest count. -/
def lastL (L : List Ch) : Int := match L.getLast? with | some c => c.ac | none => 0
theorem foldl_max {L : List Ch} (h : Srt L) : ∀ n : Int, (∀ c ∈ L, n ≤ c.ac) → L.foldl (fun m c => max m c.ac) n = match L.getLast? with | some c => c.ac | none => n := by
  induction L with
  | nil => intro n _; rfl
  | cons x t ih =>
    intro n hn
    have h1 := List.pairwise_cons.1 h
    rw [List.foldl_cons, show max n x.ac = x.ac by have := hn x (by simp); omega, ih h1.2 x.ac (fun c hc => by have := (ltB_iff _ _).1 (h1.1 c hc); omega)]
    cases t with
    | nil => rfl
    | cons y u =>
      rw [List.getLast?_cons_cons]
      cases e : (y :: u).getLast? with
      | none => simp at e
      | some z => rfl
theorem lastL_max {L : List Ch} (g : Good L) : L.foldl (fun m c => max m c.ac) 0 = lastL L := foldl_max g.srt 0 fun c hc => by have := g.right hc; omega

end Go.Proofs.Ythndgmnckpimmaa
