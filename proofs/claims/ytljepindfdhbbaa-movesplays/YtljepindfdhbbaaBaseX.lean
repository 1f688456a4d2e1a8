/- A list of numbers that came in. -/
import Derived.Test.YtljepindfdhbbaaBaseV
namespace Go.Proofs.Ytljepindfdhbbaa
open Go.ChangeShapes Go.WideShapes Go.ChangeAt Go.RowKit Go.Joins Go.Deep
set_option linter.unusedVariables false
set_option maxRecDepth 100000
/-- A list of numbers. -/
def IsIn (w : World) (v : Value) (D : List Int) : Prop := ∃ (a : Option Addr) (cap : Nat), v = .slice a D.length cap ∧ D.length ≤ cap ∧ D.length ≤ 17592186044416 ∧ (D = [] ∨ ∃ b o, a = some ⟨b, o, none⟩ ∧ b < w.heap.size ∧ ∀ i (h : i < D.length), w.cell? ⟨b, o + i, none⟩ = some (.int .i64 D[i]))
section
variable {H : Type} {enc : TypeId × Value → H} {W : World} {held : Bool}
theorem open_intsX {n : Nat} {v : Value} {x : DataW H × List MemPlace} (hf : DataW.trod enc Try.prog W 0 (fun _ => true) held n 52 [v] = some x) (hw : ∀ n ∈ x.1.weights Try.prog 52, n ≤ reachBytes) : ∃ L : List Int, IsIn W v L := by
  rcases open_slice Try.underlying52 hf with ⟨hc, hx⟩ | ⟨a, len, cap, m, k, D, Pq, hc, _, hl, hm, hmm, hx, hel⟩
  · simp at hc
    subst hc
    exact ⟨[], none, 0, rfl, Nat.zero_le _, by simp, .inl rfl⟩
  · simp at hc
    subst hc
    have hml : len ≤ m := by rw [hmm]; simp only [if_true]; exact hl
    have hch : ∀ i, i < len → ∃ c : Int, ∀ b o, a = ⟨b, o, none⟩ → W.cell? ⟨b, o + i, none⟩ = some (.int .i64 c) := fun i hi => by
      obtain ⟨cs', h1, h2⟩ := hel i (by omega)
      rw [cellsIntV] at h1
      obtain ⟨hb1, hb2, hb3⟩ := World.cells?_some h1
      obtain ⟨z, e, _, w0⟩ := DataW.trod_int Try.underlying3 h2
      refine ⟨z, fun b o ea => ?_⟩
      subst ea
      have h5 := hb3 0 (by omega)
      rw [Addr.add_lit, Addr.add_lit] at h5
      rw [e] at h5
      simpa using h5
    obtain ⟨c, hcc⟩ : ∃ c : Nat → Int, ∀ i, i < len → ∀ b o, a = ⟨b, o, none⟩ → W.cell? ⟨b, o + i, none⟩ = some (.int .i64 (c i)) := by
      refine ⟨fun i => if h : i < len then Classical.choose (hch i h) else 0, fun i hi => ?_⟩
      simp only [dif_pos hi]
      exact Classical.choose_spec (hch i hi)
    have hw0 := hw ((len + (m - len)) * Try.prog.bytesOf 3) (by
      rw [hx]
      show _ ∈ (DataW.slice _ _).weights Try.prog _
      rw [DataW.weights, Try.underlying52]
      simp)
    have hb0 : Try.prog.bytesOf 3 = 8 := by kernel_rfl
    have h2 : reachBytes ≤ 140737488355328 := by decide
    rw [hb0] at hw0
    have hLL : ((List.range len).map c).length = len := by simp
    refine ⟨(List.range len).map c, ⟨some a, cap, by rw [hLL], by rw [hLL]; exact hl, ?_, ?_⟩⟩
    · rw [hLL]; omega
    · by_cases h0 : len = 0
      · left; simp [h0]
      · right
        obtain ⟨b, o, spot⟩ := a
        obtain ⟨cs', h1, _⟩ := hel 0 (by omega)
        rw [cellsIntV] at h1
        obtain ⟨hb1, hb2, hb3⟩ := World.cells?_some h1
        have g0 := hb3 0 (by omega)
        rw [List.getElem?_eq_getElem (by omega)] at g0
        have hspot : spot = none := by simpa [Addr.add] using World.cell?_spot g0
        subst hspot
        have g1 := hcc 0 (by omega) b o rfl
        refine ⟨b, o, rfl, cell_lt g1, fun i hi => ?_⟩
        rw [hLL] at hi
        rw [List.getElem_map, List.getElem_range]
        exact hcc i hi b o rfl
theorem open_intsE {r : Reach} {b0 : Nat} {v : Value} {d : DataW H} {p : List MemPlace} (hv : Value.okWide Try.prog W r b0 52 v) (h : DataW.Trod enc Try.prog W 0 (fun _ => true) held 52 v d p) (hw : ∀ n ∈ d.weights Try.prog 52, n ≤ reachBytes) : ∃ L : List Int, IsIn W v L := by
  obtain ⟨a0, len0, cap0, rfl⟩ := okWide_slice Try.underlying52 hv
  obtain ⟨fuel, hf⟩ := h
  have hf2 : DataW.trod enc Try.prog W 0 (fun _ => true) held fuel 52 [.slice a0 len0 cap0] = some (d, p) := by simpa [Value.cells] using hf
  exact open_intsX hf2 hw
end
end Go.Proofs.Ytljepindfdhbbaa
