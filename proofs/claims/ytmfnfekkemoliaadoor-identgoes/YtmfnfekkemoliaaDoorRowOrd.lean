/- What ident.ordered does at a list of stamps: the stamps in their order, of the same ones one, in a row of its own. -/
import Derived.Test.YtmfnfekkemoliaaDoorRowClone
import Derived.Test.YtmfnfekkemoliaaDoorRowSortF
import Derived.Test.YtmfnfekkemoliaaDoorRowCompW
namespace Go.Proofs.YtmfnfekkemoliaaDoor
open Go.RowKit
set_option linter.unusedVariables false

theorem compL_len (d : List (Int × Int)) : ∀ k, k ≤ d.length → (compL (d.take k)).length ≤ k := by
  intro k
  induction k with
  | zero => intro _; simp [compL]
  | succ k ih =>
    intro h
    rw [compL_next d k (by omega)]
    have := ih (by omega)
    unfold cstep
    split
    · omega
    · simp; omega
theorem compL_length (d : List (Int × Int)) : (compL d).length ≤ d.length := by
  have h := compL_len d d.length (Nat.le_refl _)
  rwa [List.take_length] at h
theorem compL_short (d : List (Int × Int)) (h : d.length < 2) : compL d = d := by
  match d with
  | [] => rfl
  | [x] => simp [compL, cstep]
  | x :: y :: r => simp at h; omega

set_option maxHeartbeats 400000 in
theorem compact_short (a : Option Addr) (n cap : Nat) (f : Value) (w : World) (hn : n < 2) :
    Calls Tryd.prog 48 #[.slice a n cap, f] w fun e w' => e = .returned (.slice a n cap) ∧ w' = w := by
  have hd1 : decide ((n : Int) < 2) = true := by simp only [decide_eq_true_eq]; omega
  go_enter Tryd.func48, Tryd.ntmps48
  go_wp2
  go_ret
  exact ⟨rfl, rfl⟩

theorem OwnS.blockLt {B : Nat} {w : World} {g n cap : Nat} {D : List (Int × Int)} (h : OwnS B w (.slice (some ⟨g, 0, none⟩) n cap) D) : g < w.heap.size := (World.ownsRow.lt h g rfl).2
theorem OwnS.cases {B : Nat} {w : World} {v : Value} {D : List (Int × Int)} (h : OwnS B w v D) : (v = .slice none 0 0 ∧ D = []) ∨ ∃ g cap, v = .slice (some ⟨g, 0, none⟩) D.length cap ∧ B ≤ g ∧ D.length ≤ cap := by
  rcases h.2 with ⟨rfl, hn⟩ | ⟨g, cap, cur, rfl, hg, hc, hcap, _⟩
  · exact .inl ⟨rfl, List.eq_nil_of_length_eq_zero hn⟩
  · exact .inr ⟨g, cap, rfl, hg, hcap⟩

/-- CompactFunc at a row that lies there, of whatever length. -/
theorem compact_any (B g cap P : Nat) (d : List (Int × Int)) (w : World) (hl : d.length ≤ 8796093022208) (hcap : d.length ≤ cap) (hr : RowF w g d) (hP : w.cell? ⟨P, 0, none⟩ = some (.func (.func 14) #[] #[])) (hPg : P ≠ g) (hPl : P < w.heap.size) (hB : B ≤ g) :
    Calls Tryd.prog 48 #[.slice (some ⟨g, 0, none⟩) d.length cap, .func (.func 49) #[] #[.pointer (some ⟨P, 0, none⟩)]] w fun e w' => e = .returned (.slice (some ⟨g, 0, none⟩) (compL d).length cap) ∧ IsS w' (.slice (some ⟨g, 0, none⟩) (compL d).length cap) (compL d) ∧ Below B w w' := by
  have hlen := compL_length d
  by_cases hd : d.length < 2
  · refine (compact_short _ _ _ _ _ hd).mono fun e w' ⟨he, hw⟩ => ?_
    rw [compL_short d hd, hw]
    exact ⟨he, ⟨_, cap, rfl, hcap, hl, .inr ⟨g, 0, rfl, hr.rowAt⟩⟩, Below.refl _ _⟩
  · refine (compact_walk B g cap P d w (by omega) hl hcap hr hP hPg hPl hB).mono fun e w' ⟨n, he, hn, hrow, hb⟩ => ?_
    subst hn
    exact ⟨he, ⟨_, cap, rfl, by omega, by omega, .inr ⟨g, 0, rfl, hrow⟩⟩, hb⟩

set_option maxHeartbeats 1000000 in
set_option maxRecDepth 100000 in
theorem ordered_any (v : Value) (d : List (Int × Int)) (w : World) (h : IsS w v d) :
    Calls Tryd.prog 39 #[v, .func (.func 14) #[] #[]] w fun e w' => ∃ a cap, e = .returned (.slice a (compL (msort d)).length cap) ∧ IsS w' (.slice a (compL (msort d)).length cap) (compL (msort d)) ∧ (compL (msort d) = [] ∨ ∃ g, a = some ⟨g, 0, none⟩ ∧ w.heap.size ≤ g) ∧ Below w.heap.size w w' := by
  have hl : d.length ≤ 8796093022208 := by obtain ⟨_, _, _, _, hl, _⟩ := h; exact hl
  have hb0 : Below w.heap.size w (w.alloc (.cells #[.func (.func 14) #[] #[]] 26)) := (Below.refl _ _).alloc (Nat.le_refl _) _
  have h1 := h.below hb0
  have HV : Hid (IsS (w.alloc (.cells #[.func (.func 14) #[] #[]] 26)) v d) := h1
  clear h1 h
  go_enter Tryd.func39, Tryd.ntmps39
  go_wp2_with fail
  refine (clone_any v d _ HV.out).mono ?_
  rintro e w2 ⟨v2, rfl, hown, hb2⟩
  have z2 : w.heap.size + 1 ≤ w2.heap.size := by have := hb2.size; simpa using this
  have hP2 : w2.cell? ⟨w.heap.size, 0, none⟩ = some (.func (.func 14) #[] #[]) := (hb2.cell (p := ⟨w.heap.size, 0, none⟩) (by simp)).trans (by simp)
  have hB2 : Below w.heap.size w w2 := hb0.trans (hb2.mono (by simp))
  rcases hown.cases with ⟨rfl, rfl⟩ | ⟨g, cap, rfl, hg, hcap⟩
  · clear hown HV hb2
    go_wp2_with fail
    refine (sortFunc_none none 0 _).mono ?_
    rintro e w3 ⟨rfl, rfl⟩
    go_wp2_with fail
    refine (compact_short none 0 0 _ _ (by omega)).mono ?_
    rintro e w4 ⟨rfl, rfl⟩
    go_wp2
    go_ret
    have e0 : compL (msort []) = [] := by simp [msort, compL]
    rw [e0]
    exact ⟨none, 0, rfl, isS_empty _ _, .inl rfl, hB2⟩
  · have hgl := hown.blockLt
    have hg2 : w.heap.size + 1 ≤ g := by simpa using hg
    have HO : Hid (OwnS (w.heap.size + 1) w2 (.slice (some ⟨g, 0, none⟩) d.length cap) d) := by show OwnS _ _ _ _; simpa using hown
    clear hown HV hb2 hg
    go_wp2_with fail
    refine (sortFunc_some (w.heap.size + 1) g cap d _ HO.out hgl hg2 hl).mono ?_
    rintro e w3 ⟨rfl, hrow, hgl3, hb3⟩
    have HR : Hid (RowF w3 g (msort d)) := hrow
    have hP3 : w3.cell? ⟨w.heap.size, 0, none⟩ = some (.func (.func 14) #[] #[]) := (hb3.cell (p := ⟨w.heap.size, 0, none⟩) (by simp)).trans hP2
    clear hrow HO
    go_wp2_with fail
    rw [show d.length = (msort d).length from (msort_length d).symm]
    refine (compact_any (w.heap.size + 1) g cap w.heap.size (msort d) _ (by rw [msort_length]; exact hl) (by rw [msort_length]; exact hcap) HR.out hP3 (by omega) (by omega) hg2).mono ?_
    rintro e w4 ⟨rfl, hs, hb4⟩
    have HS : Hid (IsS w4 (.slice (some ⟨g, 0, none⟩) (compL (msort d)).length cap) (compL (msort d))) := hs
    clear hs
    go_wp2
    go_ret
    exact ⟨_, cap, rfl, HS.out, .inr ⟨g, rfl, by omega⟩, hB2.trans ((hb3.mono (by omega)).trans (hb4.mono (by omega)))⟩

end Go.Proofs.YtmfnfekkemoliaaDoor
