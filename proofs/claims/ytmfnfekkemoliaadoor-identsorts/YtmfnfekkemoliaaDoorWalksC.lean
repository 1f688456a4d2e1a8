/- What 'awake' does: it returns true, and of what was there it turns nothing. -/
import Derived.Test.YtmfnfekkemoliaaDoorWalksA
namespace Go.Proofs.YtmfnfekkemoliaaDoor
open Go.RowKit
set_option linter.unusedVariables false

def digB (n : Int) : UInt8 := if n = 8 then 56 else 51
theorem digB8 : digB 8 = 56 := rfl
theorem digB3 : digB 3 = 51 := rfl

set_option maxHeartbeats 400000 in
theorem itoaD (n : Int) (h : n = 8 ∨ n = 3) (w : World) : Calls Tryd.prog 34 #[.int .i64 n] w fun e w' => e = .returned (.string ⟨#[digB n]⟩) ∧ w' = w := by
  rcases h with rfl | rfl
  all_goals
    go_enter Tryd.func34, Tryd.ntmps34
    go_wp2
    go_ret
    exact ⟨rfl, rfl⟩

set_option maxHeartbeats 400000 in
theorem next73 (w : World) : Calls Tryd.prog 18 #[.int .i64 7, .int .i64 3] w fun e w' => e = .returned (.tuple #[.agg #[.int .i64 8, .int .i64 3], .int .i64 0]) ∧ Below w.heap.size w w' := by
  go_enter Tryd.func18, Tryd.ntmps18
  go_wp2
  exact bodyPost_ret (v := .tuple #[.agg #[.int .i64 8, .int .i64 3], .int .i64 0]) (by simp [results, Tryd.results18, go_sem]) rfl ⟨rfl, (by repeat (first | exact Below.refl _ _ | refine Below.alloc ?_ (by first | exact Nat.le_refl _ | omega | (simp; done) | (simp; omega)) _ | refine Below.setCell ?_ (by first | exact Nat.le_refl _ | omega | (simp; done) | (simp; omega)) _ | refine Below.drew ?_))⟩

set_option maxHeartbeats 400000 in
theorem text83 (w : World) : Calls Tryd.prog 21 #[.agg #[.int .i64 8, .int .i64 3]] w fun e w' => e = .returned (.tuple #[.string ⟨#[56, 46, 51]⟩, .int .i64 0]) ∧ Below w.heap.size w w' := by
  have h1 : rootB 8 3 = false := by decide
  have h2 : trashB 8 3 = false := by decide
  have h3 : rightB 8 3 = true := by decide
  have h4 := digB8
  have h5 := digB3
  go_enter Tryd.func21, Tryd.ntmps21
  go_wp2_with (first
      | (go_at_call 30; refine (isRoot_any _ _ _).mono ?_; rintro e w' ⟨rfl, rfl⟩)
      | (go_at_call 31; refine (isTrash_any _ _ _).mono ?_; rintro e w' ⟨rfl, rfl⟩)
      | (go_at_call 9; refine (right_any _ _ _).mono ?_; rintro e w' ⟨rfl, rfl⟩))
  go_region_held3 (fun w' => w'.cell? ⟨w.heap.size, 0, none⟩ = some (.int .i64 8) ∧ w'.cell? ⟨w.heap.size, 1, none⟩ = some (.int .i64 3)) (simp [go_sem, World.cell?_alloc_past])
    (first
      | (go_at_call 34; refine (itoaD _ (by simp) _).mono ?_; rintro e w' ⟨rfl, rfl⟩))
  go_wp2
  go_ret2
  exact ⟨rfl, (by repeat (first | exact Below.refl _ _ | refine Below.alloc ?_ (by first | exact Nat.le_refl _ | omega | (simp; done) | (simp; omega)) _ | refine Below.setCell ?_ (by first | exact Nat.le_refl _ | omega | (simp; done) | (simp; omega)) _ | refine Below.drew ?_))⟩

set_option maxHeartbeats 400000 in
theorem awake_any (w : World) : Calls Tryd.prog 13 #[] w fun e w' => e = .returned (.bool true) ∧ Below w.heap.size w w' := by
  have h3 : rightB 8 3 = true := by decide
  go_enter Tryd.func13, Tryd.ntmps13
  go_wp2_with fail
  refine (next73 _).mono ?_
  rintro e w1 ⟨rfl, hb1⟩
  go_wp2_with fail
  refine (text83 _).mono ?_
  rintro e w2 ⟨rfl, hb2⟩
  have hc := fun (b o : Nat) (h : b < _) => hb2.cell (p := ⟨b, o, none⟩) h
  go_wp2_with fail
  refine (right_any _ _ _).mono ?_
  rintro e w3 ⟨rfl, rfl⟩
  go_wp2
  go_ret
  refine ⟨rfl, ?_⟩
  have hs := hb1.size
  have hs2 := hb2.size
  simp at hs2
  refine Below.alloc ?_ (by omega) _
  refine Below.trans ?_ (hb2.mono (by simp; omega))
  repeat (first | exact hb1 | refine Below.alloc ?_ (by first | exact Nat.le_refl _ | omega | (simp; done) | (simp; omega)) _ | refine Below.setCell ?_ (by first | exact Nat.le_refl _ | omega | (simp; done) | (simp; omega)) _ | refine Below.drew ?_)

end Go.Proofs.YtmfnfekkemoliaaDoor
