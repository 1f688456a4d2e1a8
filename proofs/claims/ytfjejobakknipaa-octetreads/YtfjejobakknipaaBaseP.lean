/- A list of steps that came in, opened as data: what it holds. -/
import Derived.Test.YtfjejobakknipaaBaseB
import Derived.Test.YtfjejobakknipaaOcRd
import Derived.Deep.SlicePairs
namespace Go.Proofs.Ytfjejobakknipaa
open Go.ChangeShapes Go.WideShapes Go.ChangeAt Go.RowKit Go.Deep

theorem bytesStep : Try.prog.bytesOf 39 = 16 := by kernel_rfl
theorem cellsStep : Try.prog.cellsOf 39 = 2 := by kernel_rfl

section
variable {H : Type} {enc : TypeId × Value → H} {W : World} {held : Bool}

set_option maxRecDepth 100000 in
theorem open_steps {r : Reach} {b0 : Nat} {v : Value} {d : DataW H} {p : List MemPlace} (hv : Value.okWide Try.prog W r b0 32 v) (h : DataW.Trod enc Try.prog W 0 (fun _ => true) held 32 v d p) :
    ∃ D : List (Int × Int), (∃ (a : Option Addr) (cap : Nat), v = .slice a D.length cap ∧ D.length ≤ cap ∧ (D = [] ∨ ∃ b o, a = some ⟨b, o, none⟩ ∧ StepsAt W b o D)) ∧
      ((d = .nil ∧ D = []) ∨ ∃ els sp, d = .slice els sp ∧ els.length = D.length) := by
  obtain ⟨a0, len0, cap0, rfl⟩ := okWide_slice Try.underlying32 hv
  obtain ⟨fuel, hf⟩ := h
  rcases open_slice_pairs Try.underlying32 Try.underlying39 cellsStep rfl rfl cellsInt cellsInt hf with ⟨hc, hx⟩ | ⟨a, len, cap, m, n, V0, V1, D0, D1, P0, P1, hc, _, hl, hm, hmm, hx, hi⟩
  · simp [Value.cells] at hc
    obtain ⟨rfl, rfl, rfl⟩ := hc
    simp only [Prod.mk.injEq] at hx
    exact ⟨[], ⟨none, 0, rfl, Nat.le_refl _, .inl rfl⟩, .inl ⟨hx.1, rfl⟩⟩
  · simp [Value.cells] at hc
    obtain ⟨rfl, rfl, rfl⟩ := hc
    simp only [Prod.mk.injEq] at hx
    have hlm : len0 ≤ m := by rw [hmm]; simp; omega
    have each : ∀ i, i < len0 → W.cell? (a.add (i * 2)) = some (.int .i64 (intOf (V0 i))) ∧ W.cell? (a.add (i * 2 + 1)) = some (.int .i64 (intOf (V1 i))) := by
      intro i h
      obtain ⟨h1, h2, h3, h4⟩ := hi i (by omega)
      obtain ⟨x, e0, _, _⟩ := DataW.trod_int Try.underlying3 h3
      obtain ⟨y, e1, _, _⟩ := DataW.trod_int Try.underlying3 h4
      simp at e0 e1
      rw [h1, h2, e0, e1]
      exact ⟨rfl, rfl⟩
    refine ⟨(List.range len0).map fun i => (intOf (V0 i), intOf (V1 i)), ⟨some a, cap0, by simp, by simpa using hl, ?_⟩, .inr ⟨_, _, hx.1, by simp⟩⟩
    by_cases h0 : len0 = 0
    · left; simp [h0]
    · right
      obtain ⟨b, o, spot⟩ := a
      have g0 := (each 0 (by omega)).1
      have hspot : spot = none := by simpa [Addr.add] using World.cell?_spot g0
      subst hspot
      refine ⟨b, o, rfl, fun i hi => ?_⟩
      have g := each i (by simpa using hi)
      rw [Addr.add_lit, Addr.add_lit] at g
      simpa [Nat.add_assoc] using g

end
end Go.Proofs.Ytfjejobakknipaa
