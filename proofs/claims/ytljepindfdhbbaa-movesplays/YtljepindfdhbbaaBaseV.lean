/- What came in, opened as data: calls, lists of calls, stamps, lists of numbers. -/
import Derived.Test.YtljepindfdhbbaaRows
import Derived.Test.YtljepindfdhbbaaFlA
import Derived.ProofKit
import Derived.OpenShut
import Derived.ChangeOld
import Derived.ChangeSlices
import Derived.SizedLaws
import Derived.Below
import Derived.Carry
import Derived.Lib.SmallJoins
import Derived.Deep.Slices
namespace Go.Proofs.Ytljepindfdhbbaa
open Go.ChangeShapes Go.WideShapes Go.ChangeAt Go.RowKit Go.Joins Go.Deep
set_option linter.unusedVariables false
set_option linter.constructorNameAsVariable false
set_option maxRecDepth 100000

theorem ownI : ownKnob Try.prog.godebug = none := by kernel_rfl
theorem laidOutI : laidOutB Try.prog = true := by kernel_rfl
theorem cellsIntV : Try.prog.cellsOf 3 = 1 := by kernel_rfl
theorem cellsStampV : Try.prog.cellsOf 27 = 2 := by kernel_rfl
theorem cellsActV : Try.prog.cellsOf 29 = 7 := by kernel_rfl
/-- A call: its kind, and a move. -/
abbrev Ma := Int × Mv
def maCells (a : Ma) : List Value := [.int .i64 a.1, .int .i64 a.2.ts.1, .int .i64 a.2.ts.2, .int .i64 a.2.nd.1, .int .i64 a.2.nd.2, .int .i64 a.2.pr.1, .int .i64 a.2.pr.2]
theorem maCells_len (x : Ma) : (maCells x).length = 7 := rfl
abbrev IsMa (w : World) (v : Value) (D : List Ma) : Prop := LsE maCells 7 (fun _ => True) w v D
theorem array7 {α : Type} {cs : Array α} (h : cs.size = 7) : ∃ c0 c1 c2 c3 c4 c5 c6, cs = #[c0, c1, c2, c3, c4, c5, c6] := by
  obtain ⟨l⟩ := cs
  match l, h with
  | [c0, c1, c2, c3, c4, c5, c6], _ => exact ⟨c0, c1, c2, c3, c4, c5, c6, rfl⟩
theorem list7 {α : Type} {cs : List α} (h : cs.length = 7) : ∃ c0 c1 c2 c3 c4 c5 c6, cs = [c0, c1, c2, c3, c4, c5, c6] := by
  match cs, h with
  | [c0, c1, c2, c3, c4, c5, c6], _ => exact ⟨c0, c1, c2, c3, c4, c5, c6, rfl⟩
theorem array2 {α : Type} {cs : Array α} (h : cs.size = 2) : ∃ c0 c1, cs = #[c0, c1] := by
  obtain ⟨l⟩ := cs
  match l, h with
  | [c0, c1], _ => exact ⟨c0, c1, rfl⟩
section
variable {H : Type} {enc : TypeId × Value → H} {W : World} {held : Bool}

theorem open_stampG {n : Nat} {a b : Value} {y : DataW H × List MemPlace} (h : DataW.trod enc Try.prog W 0 (fun _ => true) held n 27 [a, b] = some y) :
    ∃ s : St, a = .int .i64 s.1 ∧ b = .int .i64 s.2 := by
  obtain ⟨y0, y1, m, hx, _, h0, h1⟩ := trod_struct2 Try.underlying27 h
  obtain ⟨c, e0, _, w0⟩ := DataW.trod_int Try.underlying3 h0
  obtain ⟨r, e1, _, w1⟩ := DataW.trod_int Try.underlying3 h1
  rw [cellsIntV] at e0 e1
  simp at e0 e1
  exact ⟨(c, r), e0, e1⟩

theorem open_stampV {r : Reach} {b0 : Nat} {v : Value} {d : DataW H} {p : List MemPlace} (hv : Value.okWide Try.prog W r b0 27 v) (h : DataW.Trod enc Try.prog W 0 (fun _ => true) held 27 v d p) :
    ∃ s : St, v = .agg #[.int .i64 s.1, .int .i64 s.2] := by
  obtain ⟨cs, rfl, hsz⟩ := okWide_struct Try.underlying27 hv
  obtain ⟨c0, c1, rfl⟩ := array2 (hsz.trans cellsStampV)
  obtain ⟨fuel, hf⟩ := h
  have hf2 : DataW.trod enc Try.prog W 0 (fun _ => true) held fuel 27 [c0, c1] = some (d, p) := by simpa [Value.cells] using hf
  obtain ⟨s, rfl, rfl⟩ := open_stampG hf2
  exact ⟨s, rfl⟩

set_option maxHeartbeats 4000000 in
theorem open_actG {fuel : Nat} {c0 c1 c2 c3 c4 c5 c6 : Value} {x : DataW H × List MemPlace} (hf : DataW.trod enc Try.prog W 0 (fun _ => true) held fuel 29 [c0, c1, c2, c3, c4, c5, c6] = some x) :
    ∃ a : Ma, [c0, c1, c2, c3, c4, c5, c6] = maCells a := by
  obtain ⟨xs, n, _, hx, _, hlen, hfs⟩ := DataW.trod_struct Try.underlying29 hf
  match xs, hlen with
  | [x0, x1, x2, x3], _ =>
    have g0 : DataW.trod enc Try.prog W 0 (fun _ => true) held n 3 [c0] = some x0 := by have := hfs 0 _ rfl; simpa [cellsIntV, cellsStampV] using this
    have g1 : DataW.trod enc Try.prog W 0 (fun _ => true) held n 27 [c1, c2] = some x1 := by have := hfs 1 _ rfl; simpa [cellsIntV, cellsStampV] using this
    have g2 : DataW.trod enc Try.prog W 0 (fun _ => true) held n 27 [c3, c4] = some x2 := by have := hfs 2 _ rfl; simpa [cellsIntV, cellsStampV] using this
    have g3 : DataW.trod enc Try.prog W 0 (fun _ => true) held n 27 [c5, c6] = some x3 := by have := hfs 3 _ rfl; simpa [cellsIntV, cellsStampV] using this
    obtain ⟨z0, e, _, w0⟩ := DataW.trod_int Try.underlying3 g0
    simp at e; subst e
    obtain ⟨s1, rfl, rfl⟩ := open_stampG g1
    obtain ⟨s2, rfl, rfl⟩ := open_stampG g2
    obtain ⟨s3, rfl, rfl⟩ := open_stampG g3
    exact ⟨(z0, ⟨s1, s2, s3⟩), rfl⟩
theorem open_actV {r : Reach} {b0 : Nat} {v : Value} {d : DataW H} {p : List MemPlace} (hv : Value.okWide Try.prog W r b0 29 v) (h : DataW.Trod enc Try.prog W 0 (fun _ => true) held 29 v d p) :
    ∃ a : Ma, v = .agg (maCells a).toArray := by
  obtain ⟨cs, rfl, hsz⟩ := okWide_struct Try.underlying29 hv
  obtain ⟨c0, c1, c2, c3, c4, c5, c6, rfl⟩ := array7 (hsz.trans cellsActV)
  obtain ⟨fuel, hf⟩ := h
  have hf2 : DataW.trod enc Try.prog W 0 (fun _ => true) held fuel 29 [c0, c1, c2, c3, c4, c5, c6] = some (d, p) := by simpa [Value.cells] using hf
  obtain ⟨a, ha⟩ := open_actG hf2
  exact ⟨a, by rw [← ha]⟩

/-- A list of calls that came in. -/
theorem open_acts {n : Nat} {v : Value} {x : DataW H × List MemPlace} (hf : DataW.trod enc Try.prog W 0 (fun _ => true) held n 22 [v] = some x) (hw : ∀ n ∈ x.1.weights Try.prog 22, n ≤ reachBytes) : ∃ L : List Ma, IsMa W v L := by
  rcases open_slice Try.underlying22 hf with ⟨hc, hx⟩ | ⟨a, len, cap, m, k, D, Pq, hc, _, hl, hm, hmm, hx, hel⟩
  · simp at hc
    subst hc
    exact ⟨[], LsE.nil _ _ _⟩
  · simp at hc
    subst hc
    have hml : len ≤ m := by rw [hmm]; simp only [if_true]; exact hl
    have hch : ∀ i, i < len → ∃ c : Ma, ∀ b o, a = ⟨b, o, none⟩ → ∀ j u, (maCells c)[j]? = some u → W.cell? ⟨b, o + i * 7 + j, none⟩ = some u := fun i hi => by
      obtain ⟨cs', h1, h2⟩ := hel i (by omega)
      rw [cellsActV] at h1
      obtain ⟨hb1, hb2, hb3⟩ := World.cells?_some h1
      obtain ⟨c0, c1, c2, c3, c4, c5, c6, rfl⟩ := list7 hb2
      obtain ⟨ac, ho⟩ := open_actG h2
      refine ⟨ac, fun b o ea j u hj => ?_⟩
      subst ea
      have hj7 : j < 7 := (List.getElem?_eq_some_iff.1 hj).1
      have h5 := hb3 j hj7
      rw [Addr.add_lit, Addr.add_lit] at h5
      rw [h5, ho]
      exact hj
    obtain ⟨c, hcc⟩ : ∃ c : Nat → Ma, ∀ i, i < len → ∀ b o, a = ⟨b, o, none⟩ → ∀ j u, (maCells (c i))[j]? = some u → W.cell? ⟨b, o + i * 7 + j, none⟩ = some u := by
      refine ⟨fun i => if h : i < len then Classical.choose (hch i h) else (0, ⟨(0, 0), (0, 0), (0, 0)⟩), fun i hi => ?_⟩
      simp only [dif_pos hi]
      exact Classical.choose_spec (hch i hi)
    have hw0 := hw ((len + (m - len)) * Try.prog.bytesOf 29) (by
      rw [hx]
      show _ ∈ (DataW.slice _ _).weights Try.prog _
      rw [DataW.weights, Try.underlying22]
      simp)
    have hb0 : Try.prog.bytesOf 29 = 56 := by kernel_rfl
    have h2 : reachBytes ≤ 140737488355328 := by decide
    rw [hb0] at hw0
    have hLL : ((List.range len).map c).length = len := by simp
    refine ⟨(List.range len).map c, ⟨some a, cap, by rw [hLL], by rw [hLL]; exact hl, by rw [hLL]; omega, ?_⟩⟩
    by_cases h0 : len = 0
    · left; simp [h0]
    · right
      obtain ⟨b, o, spot⟩ := a
      obtain ⟨cs', h1, _⟩ := hel 0 (by omega)
      rw [cellsActV] at h1
      obtain ⟨hb1, hb2, hb3⟩ := World.cells?_some h1
      have g0 := hb3 0 (by omega)
      rw [List.getElem?_eq_getElem (by omega)] at g0
      have hspot : spot = none := by simpa [Addr.add] using World.cell?_spot g0
      subst hspot
      have g1 := hcc 0 (by omega) b o rfl 0 _ rfl
      refine ⟨b, o, rfl, trivial, cell_lt g1, fun i hi j u hj => ?_⟩
      rw [hLL] at hi
      rw [List.getElem_map, List.getElem_range] at hj
      exact hcc i hi b o rfl j u hj
theorem open_actsV {r : Reach} {b0 : Nat} {v : Value} {d : DataW H} {p : List MemPlace} (hv : Value.okWide Try.prog W r b0 22 v) (h : DataW.Trod enc Try.prog W 0 (fun _ => true) held 22 v d p) (hw : ∀ n ∈ d.weights Try.prog 22, n ≤ reachBytes) : ∃ L : List Ma, IsMa W v L := by
  obtain ⟨a0, len0, cap0, rfl⟩ := okWide_slice Try.underlying22 hv
  obtain ⟨fuel, hf⟩ := h
  have hf2 : DataW.trod enc Try.prog W 0 (fun _ => true) held fuel 22 [.slice a0 len0 cap0] = some (d, p) := by simpa [Value.cells] using hf
  exact open_acts hf2 hw
end

end Go.Proofs.Ytljepindfdhbbaa
