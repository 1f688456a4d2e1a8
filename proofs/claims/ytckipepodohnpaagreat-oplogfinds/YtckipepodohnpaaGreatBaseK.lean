/- A question that came in, opened as data. -/
import Derived.Test.YtckipepodohnpaaGreatBaseO
namespace Go.Proofs.YtckipepodohnpaaGreat
open Go.ChangeShapes Go.WideShapes Go.ChangeAt Go.RowKit Go.Joins Go.Deep
set_option linter.unusedVariables false
set_option linter.constructorNameAsVariable false
set_option maxRecDepth 100000

theorem cellsAskK : Tryz.prog.cellsOf 42 = 4 := by kernel_rfl
theorem array4 {α : Type} {cs : Array α} (h : cs.size = 4) : ∃ c0 c1 c2 c3, cs = #[c0, c1, c2, c3] := by
  obtain ⟨l⟩ := cs
  match l, h with
  | [c0, c1, c2, c3], _ => exact ⟨c0, c1, c2, c3, rfl⟩
section
variable {H : Type} {enc : TypeId × Value → H} {W : World} {held : Bool}

set_option maxHeartbeats 4000000 in
theorem open_ask {r : Reach} {b0 : Nat} {v : Value} {d : DataW H} {p : List MemPlace} (hv : Value.okWide Tryz.prog W r b0 42 v) (h : DataW.Trod enc Tryz.prog W 0 (fun _ => true) held 42 v d p) :
    ∃ c r rp sq : Int, v = .agg #[.int .i64 c, .int .i64 r, .int .i64 rp, .int .i64 sq] := by
  obtain ⟨cs, rfl, hsz⟩ := okWide_struct Tryz.underlying42 hv
  obtain ⟨c0, c1, c2, c3, rfl⟩ := array4 (hsz.trans cellsAskK)
  obtain ⟨fuel, hf⟩ := h
  obtain ⟨xs, n, _, hx, _, hlen, hfs⟩ := DataW.trod_struct Tryz.underlying42 hf
  match xs, hlen with
  | [x0, x1, x2], _ =>
    have g0 : DataW.trod enc Tryz.prog W 0 (fun _ => true) held n 31 [c0, c1] = some x0 := by have := hfs 0 _ rfl; simpa [cellsInt, cellsStampG, Value.cells] using this
    have g1 : DataW.trod enc Tryz.prog W 0 (fun _ => true) held n 3 [c2] = some x1 := by have := hfs 1 _ rfl; simpa [cellsInt, cellsStampG, Value.cells] using this
    have g2 : DataW.trod enc Tryz.prog W 0 (fun _ => true) held n 3 [c3] = some x2 := by have := hfs 2 _ rfl; simpa [cellsInt, cellsStampG, Value.cells] using this
    obtain ⟨c, r, rfl, rfl, _, _⟩ := open_stampG g0
    obtain ⟨rp, e, _, _⟩ := DataW.trod_int Tryz.underlying3 g1
    simp at e; subst e
    obtain ⟨sq, e, _, _⟩ := DataW.trod_int Tryz.underlying3 g2
    simp at e; subst e
    exact ⟨c, r, rp, sq, rfl⟩

end
end Go.Proofs.YtckipepodohnpaaGreat
