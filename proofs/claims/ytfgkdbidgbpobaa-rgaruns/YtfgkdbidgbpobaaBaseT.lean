/- What RgaRuns is given, as data: how many slots each of two puts, and from which counts on. -/
import Derived.Test.YtfgkdbidgbpobaaBaseR
namespace Go.Proofs.Ytfgkdbidgbpobaa
open Go.ChangeShapes Go.WideShapes Go.ChangeAt Go.RowKit Go.Joins Go.Deep
set_option linter.unusedVariables false
set_option linter.unusedSimpArgs false

structure Tw where
  n : Int
  m : Int
  a : Int
  b : Int
  f : Bool
theorem cellsTwoV : Try.prog.cellsOf 44 = 5 := by kernel_rfl
theorem cellsBoolV : Try.prog.cellsOf 4 = 1 := by kernel_rfl
theorem array5 {α : Type} {cs : Array α} (h : cs.size = 5) : ∃ c0 c1 c2 c3 c4, cs = #[c0, c1, c2, c3, c4] := by
  obtain ⟨l⟩ := cs
  match l, h with
  | [c0, c1, c2, c3, c4], _ => exact ⟨c0, c1, c2, c3, c4, rfl⟩
section
variable {H : Type} {enc : TypeId × Value → H} {W : World} {held : Bool}

set_option maxHeartbeats 4000000 in
theorem open_twoV {r : Reach} {b0 : Nat} {v : Value} {d : DataW H} {p : List MemPlace} (hv : Value.okWide Try.prog W r b0 44 v) (h : DataW.Trod enc Try.prog W 0 (fun _ => true) held 44 v d p) :
    ∃ t : Tw, v = .agg #[.int .i64 t.n, .int .i64 t.m, .int .i64 t.a, .int .i64 t.b, .bool t.f] := by
  obtain ⟨cs, rfl, hsz⟩ := okWide_struct Try.underlying44 hv
  obtain ⟨c0, c1, c2, c3, c4, rfl⟩ := array5 (hsz.trans cellsTwoV)
  obtain ⟨fuel, hf⟩ := h
  have hf2 : DataW.trod enc Try.prog W 0 (fun _ => true) held fuel 44 [c0, c1, c2, c3, c4] = some (d, p) := by simpa [Value.cells] using hf
  obtain ⟨xs, n, _, hx, _, hlen, hfs⟩ := DataW.trod_struct Try.underlying44 hf2
  match xs, hlen with
  | [x0, x1, x2, x3, x4], _ =>
    have g0 : DataW.trod enc Try.prog W 0 (fun _ => true) held n 3 [c0] = some x0 := by have := hfs 0 _ rfl; simpa [cellsIntV, cellsBoolV] using this
    have g1 : DataW.trod enc Try.prog W 0 (fun _ => true) held n 3 [c1] = some x1 := by have := hfs 1 _ rfl; simpa [cellsIntV, cellsBoolV] using this
    have g2 : DataW.trod enc Try.prog W 0 (fun _ => true) held n 3 [c2] = some x2 := by have := hfs 2 _ rfl; simpa [cellsIntV, cellsBoolV] using this
    have g3 : DataW.trod enc Try.prog W 0 (fun _ => true) held n 3 [c3] = some x3 := by have := hfs 3 _ rfl; simpa [cellsIntV, cellsBoolV] using this
    have g4 : DataW.trod enc Try.prog W 0 (fun _ => true) held n 4 [c4] = some x4 := by have := hfs 4 _ rfl; simpa [cellsIntV, cellsBoolV] using this
    obtain ⟨i0, e0, _, _⟩ := DataW.trod_int Try.underlying3 g0
    obtain ⟨i1, e1, _, _⟩ := DataW.trod_int Try.underlying3 g1
    obtain ⟨i2, e2, _, _⟩ := DataW.trod_int Try.underlying3 g2
    obtain ⟨i3, e3, _, _⟩ := DataW.trod_int Try.underlying3 g3
    obtain ⟨b4, e4, _⟩ := DataW.trod_bool Try.underlying4 g4
    simp at e0 e1 e2 e3 e4
    exact ⟨⟨i0, i1, i2, i3, b4⟩, by rw [e0, e1, e2, e3, e4]⟩

end

end Go.Proofs.Ytfgkdbidgbpobaa
