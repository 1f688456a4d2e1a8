/- What came in, opened as data: slots, lists of slots, stamps, lists of numbers. -/
import Derived.Test.YtfgkdbidgbpobaaRows
import Derived.Test.YtfgkdbidgbpobaaFlS
import Derived.ProofKit
import Derived.OpenShut
import Derived.ChangeOld
import Derived.ChangeSlices
import Derived.SizedLaws
import Derived.Below
import Derived.Carry
import Derived.Lib.SmallJoins
import Derived.Deep.Slices
namespace Go.Proofs.Ytfgkdbidgbpobaa
open Go.ChangeShapes Go.WideShapes Go.ChangeAt Go.RowKit Go.Joins Go.Deep
set_option linter.unusedVariables false
set_option linter.constructorNameAsVariable false
set_option maxRecDepth 100000

theorem ownI : ownKnob Try.prog.godebug = none := by kernel_rfl
theorem laidOutI : laidOutB Try.prog = true := by kernel_rfl
theorem cellsIntV : Try.prog.cellsOf 3 = 1 := by kernel_rfl
theorem cellsStampV : Try.prog.cellsOf 33 = 2 := by kernel_rfl
theorem cellsSlotV : Try.prog.cellsOf 36 = 4 := by kernel_rfl
abbrev IsSl (w : World) (v : Value) (D : List Sl) : Prop := LsE slCells 4 (fun _ => True) w v D
theorem array4 {α : Type} {cs : Array α} (h : cs.size = 4) : ∃ c0 c1 c2 c3, cs = #[c0, c1, c2, c3] := by
  obtain ⟨l⟩ := cs
  match l, h with
  | [c0, c1, c2, c3], _ => exact ⟨c0, c1, c2, c3, rfl⟩
theorem list4 {α : Type} {cs : List α} (h : cs.length = 4) : ∃ c0 c1 c2 c3, cs = [c0, c1, c2, c3] := by
  match cs, h with
  | [c0, c1, c2, c3], _ => exact ⟨c0, c1, c2, c3, rfl⟩
theorem array2 {α : Type} {cs : Array α} (h : cs.size = 2) : ∃ c0 c1, cs = #[c0, c1] := by
  obtain ⟨l⟩ := cs
  match l, h with
  | [c0, c1], _ => exact ⟨c0, c1, rfl⟩
section
variable {H : Type} {enc : TypeId × Value → H} {W : World} {held : Bool}

theorem open_stampG {n : Nat} {a b : Value} {y : DataW H × List MemPlace} (h : DataW.trod enc Try.prog W 0 (fun _ => true) held n 33 [a, b] = some y) :
    ∃ s : St, a = .int .i64 s.1 ∧ b = .int .i64 s.2 := by
  obtain ⟨y0, y1, m, hx, _, h0, h1⟩ := trod_struct2 Try.underlying33 h
  obtain ⟨c, e0, _, w0⟩ := DataW.trod_int Try.underlying3 h0
  obtain ⟨r, e1, _, w1⟩ := DataW.trod_int Try.underlying3 h1
  rw [cellsIntV] at e0 e1
  simp at e0 e1
  exact ⟨(c, r), e0, e1⟩

theorem open_stampV {r : Reach} {b0 : Nat} {v : Value} {d : DataW H} {p : List MemPlace} (hv : Value.okWide Try.prog W r b0 33 v) (h : DataW.Trod enc Try.prog W 0 (fun _ => true) held 33 v d p) :
    ∃ s : St, v = .agg #[.int .i64 s.1, .int .i64 s.2] := by
  obtain ⟨cs, rfl, hsz⟩ := okWide_struct Try.underlying33 hv
  obtain ⟨c0, c1, rfl⟩ := array2 (hsz.trans cellsStampV)
  obtain ⟨fuel, hf⟩ := h
  have hf2 : DataW.trod enc Try.prog W 0 (fun _ => true) held fuel 33 [c0, c1] = some (d, p) := by simpa [Value.cells] using hf
  obtain ⟨s, rfl, rfl⟩ := open_stampG hf2
  exact ⟨s, rfl⟩

set_option maxHeartbeats 4000000 in
theorem open_slotG {fuel : Nat} {c0 c1 c2 c3 : Value} {x : DataW H × List MemPlace} (hf : DataW.trod enc Try.prog W 0 (fun _ => true) held fuel 36 [c0, c1, c2, c3] = some x) :
    ∃ a : Sl, [c0, c1, c2, c3] = slCells a := by
  obtain ⟨xs, n, _, hx, _, hlen, hfs⟩ := DataW.trod_struct Try.underlying36 hf
  match xs, hlen with
  | [x0, x1], _ =>
    have g0 : DataW.trod enc Try.prog W 0 (fun _ => true) held n 33 [c0, c1] = some x0 := by have := hfs 0 _ rfl; simpa [cellsIntV, cellsStampV] using this
    have g1 : DataW.trod enc Try.prog W 0 (fun _ => true) held n 33 [c2, c3] = some x1 := by have := hfs 1 _ rfl; simpa [cellsIntV, cellsStampV] using this
    obtain ⟨s1, rfl, rfl⟩ := open_stampG g0
    obtain ⟨s2, rfl, rfl⟩ := open_stampG g1
    exact ⟨⟨s1, s2⟩, rfl⟩
theorem open_slotV {r : Reach} {b0 : Nat} {v : Value} {d : DataW H} {p : List MemPlace} (hv : Value.okWide Try.prog W r b0 36 v) (h : DataW.Trod enc Try.prog W 0 (fun _ => true) held 36 v d p) :
    ∃ a : Sl, v = .agg (slCells a).toArray := by
  obtain ⟨cs, rfl, hsz⟩ := okWide_struct Try.underlying36 hv
  obtain ⟨c0, c1, c2, c3, rfl⟩ := array4 (hsz.trans cellsSlotV)
  obtain ⟨fuel, hf⟩ := h
  have hf2 : DataW.trod enc Try.prog W 0 (fun _ => true) held fuel 36 [c0, c1, c2, c3] = some (d, p) := by simpa [Value.cells] using hf
  obtain ⟨a, ha⟩ := open_slotG hf2
  exact ⟨a, by rw [← ha]⟩

/-- A list of slots that came in. -/
theorem open_slots {n : Nat} {v : Value} {x : DataW H × List MemPlace} (hf : DataW.trod enc Try.prog W 0 (fun _ => true) held n 22 [v] = some x) (hw : ∀ n ∈ x.1.weights Try.prog 22, n ≤ reachBytes) : ∃ L : List Sl, IsSl W v L := by
  rcases open_slice Try.underlying22 hf with ⟨hc, hx⟩ | ⟨a, len, cap, m, k, D, Pq, hc, _, hl, hm, hmm, hx, hel⟩
  · simp at hc
    subst hc
    exact ⟨[], LsE.nil _ _ _⟩
  · simp at hc
    subst hc
    have hml : len ≤ m := by rw [hmm]; simp only [if_true]; exact hl
    have hch : ∀ i, i < len → ∃ c : Sl, ∀ b o, a = ⟨b, o, none⟩ → ∀ j u, (slCells c)[j]? = some u → W.cell? ⟨b, o + i * 4 + j, none⟩ = some u := fun i hi => by
      obtain ⟨cs', h1, h2⟩ := hel i (by omega)
      rw [cellsSlotV] at h1
      obtain ⟨hb1, hb2, hb3⟩ := World.cells?_some h1
      obtain ⟨c0, c1, c2, c3, rfl⟩ := list4 hb2
      obtain ⟨ac, ho⟩ := open_slotG h2
      refine ⟨ac, fun b o ea j u hj => ?_⟩
      subst ea
      have hj4 : j < 4 := (List.getElem?_eq_some_iff.1 hj).1
      have h5 := hb3 j hj4
      rw [Addr.add_lit, Addr.add_lit] at h5
      rw [h5, ho]
      exact hj
    obtain ⟨c, hcc⟩ : ∃ c : Nat → Sl, ∀ i, i < len → ∀ b o, a = ⟨b, o, none⟩ → ∀ j u, (slCells (c i))[j]? = some u → W.cell? ⟨b, o + i * 4 + j, none⟩ = some u := by
      refine ⟨fun i => if h : i < len then Classical.choose (hch i h) else ⟨(0, 0), (0, 0)⟩, fun i hi => ?_⟩
      simp only [dif_pos hi]
      exact Classical.choose_spec (hch i hi)
    have hw0 := hw ((len + (m - len)) * Try.prog.bytesOf 36) (by
      rw [hx]
      show _ ∈ (DataW.slice _ _).weights Try.prog _
      rw [DataW.weights, Try.underlying22]
      simp)
    have hb0 : Try.prog.bytesOf 36 = 32 := by kernel_rfl
    have h2 : reachBytes ≤ 140737488355328 := by decide
    rw [hb0] at hw0
    have hLL : ((List.range len).map c).length = len := by simp
    refine ⟨(List.range len).map c, ⟨some a, cap, by rw [hLL], by rw [hLL]; exact hl, by rw [hLL]; omega, ?_⟩⟩
    by_cases h0 : len = 0
    · left; simp [h0]
    · right
      obtain ⟨b, o, spot⟩ := a
      obtain ⟨cs', h1, _⟩ := hel 0 (by omega)
      rw [cellsSlotV] at h1
      obtain ⟨hb1, hb2, hb3⟩ := World.cells?_some h1
      have g0 := hb3 0 (by omega)
      rw [List.getElem?_eq_getElem (by omega)] at g0
      have hspot : spot = none := by simpa [Addr.add] using World.cell?_spot g0
      subst hspot
      have g1 := hcc 0 (by omega) b o rfl 0 _ rfl
      refine ⟨b, o, rfl, trivial, cell_lt g1, fun i hi j u hj => ?_⟩
      rw [hLL] at hi
      rw [List.getElem_map, List.getElem_range] at hj
      exact hcc i hi b o rfl j u hj
theorem open_slotsV {r : Reach} {b0 : Nat} {v : Value} {d : DataW H} {p : List MemPlace} (hv : Value.okWide Try.prog W r b0 22 v) (h : DataW.Trod enc Try.prog W 0 (fun _ => true) held 22 v d p) (hw : ∀ n ∈ d.weights Try.prog 22, n ≤ reachBytes) : ∃ L : List Sl, IsSl W v L := by
  obtain ⟨a0, len0, cap0, rfl⟩ := okWide_slice Try.underlying22 hv
  obtain ⟨fuel, hf⟩ := h
  have hf2 : DataW.trod enc Try.prog W 0 (fun _ => true) held fuel 22 [.slice a0 len0 cap0] = some (d, p) := by simpa [Value.cells] using hf
  exact open_slots hf2 hw
end

/-- A list of numbers. -/
def IsIn (w : World) (v : Value) (D : List Int) : Prop := ∃ (a : Option Addr) (cap : Nat), v = .slice a D.length cap ∧ D.length ≤ cap ∧ D.length ≤ 17592186044416 ∧ (D = [] ∨ ∃ b o, a = some ⟨b, o, none⟩ ∧ b < w.heap.size ∧ ∀ i (h : i < D.length), w.cell? ⟨b, o + i, none⟩ = some (.int .i64 D[i]))

section
variable {H : Type} {enc : TypeId × Value → H} {W : World} {held : Bool}

theorem open_intsX {n : Nat} {v : Value} {x : DataW H × List MemPlace} (hf : DataW.trod enc Try.prog W 0 (fun _ => true) held n 45 [v] = some x) (hw : ∀ n ∈ x.1.weights Try.prog 45, n ≤ reachBytes) : ∃ L : List Int, IsIn W v L := by
  rcases open_slice Try.underlying45 hf with ⟨hc, hx⟩ | ⟨a, len, cap, m, k, D, Pq, hc, _, hl, hm, hmm, hx, hel⟩
  · simp at hc
    subst hc
    exact ⟨[], none, 0, rfl, Nat.zero_le _, by simp, .inl rfl⟩
  · simp at hc
    subst hc
    have hml : len ≤ m := by rw [hmm]; simp only [if_true]; exact hl
    have hch : ∀ i, i < len → ∃ c : Int, ∀ b o, a = ⟨b, o, none⟩ → W.cell? ⟨b, o + i, none⟩ = some (.int .i64 c) := fun i hi => by
      obtain ⟨cs', h1, h2⟩ := hel i (by omega)
      rw [cellsIntV] at h1
      obtain ⟨hb1, hb2, hb3⟩ := World.cells?_some h1
      obtain ⟨z, e, _, w0⟩ := DataW.trod_int Try.underlying3 h2
      refine ⟨z, fun b o ea => ?_⟩
      subst ea
      have h5 := hb3 0 (by omega)
      rw [Addr.add_lit, Addr.add_lit] at h5
      rw [e] at h5
      simpa using h5
    obtain ⟨c, hcc⟩ : ∃ c : Nat → Int, ∀ i, i < len → ∀ b o, a = ⟨b, o, none⟩ → W.cell? ⟨b, o + i, none⟩ = some (.int .i64 (c i)) := by
      refine ⟨fun i => if h : i < len then Classical.choose (hch i h) else 0, fun i hi => ?_⟩
      simp only [dif_pos hi]
      exact Classical.choose_spec (hch i hi)
    have hw0 := hw ((len + (m - len)) * Try.prog.bytesOf 3) (by
      rw [hx]
      show _ ∈ (DataW.slice _ _).weights Try.prog _
      rw [DataW.weights, Try.underlying45]
      simp)
    have hb0 : Try.prog.bytesOf 3 = 8 := by kernel_rfl
    have h2 : reachBytes ≤ 140737488355328 := by decide
    rw [hb0] at hw0
    have hLL : ((List.range len).map c).length = len := by simp
    refine ⟨(List.range len).map c, ⟨some a, cap, by rw [hLL], by rw [hLL]; exact hl, ?_, ?_⟩⟩
    · rw [hLL]; omega
    · by_cases h0 : len = 0
      · left; simp [h0]
      · right
        obtain ⟨b, o, spot⟩ := a
        obtain ⟨cs', h1, _⟩ := hel 0 (by omega)
        rw [cellsIntV] at h1
        obtain ⟨hb1, hb2, hb3⟩ := World.cells?_some h1
        have g0 := hb3 0 (by omega)
        rw [List.getElem?_eq_getElem (by omega)] at g0
        have hspot : spot = none := by simpa [Addr.add] using World.cell?_spot g0
        subst hspot
        have g1 := hcc 0 (by omega) b o rfl
        refine ⟨b, o, rfl, cell_lt g1, fun i hi => ?_⟩
        rw [hLL] at hi
        rw [List.getElem_map, List.getElem_range]
        exact hcc i hi b o rfl

theorem open_intsE {r : Reach} {b0 : Nat} {v : Value} {d : DataW H} {p : List MemPlace} (hv : Value.okWide Try.prog W r b0 45 v) (h : DataW.Trod enc Try.prog W 0 (fun _ => true) held 45 v d p) (hw : ∀ n ∈ d.weights Try.prog 45, n ≤ reachBytes) : ∃ L : List Int, IsIn W v L := by
  obtain ⟨a0, len0, cap0, rfl⟩ := okWide_slice Try.underlying45 hv
  obtain ⟨fuel, hf⟩ := h
  have hf2 : DataW.trod enc Try.prog W 0 (fun _ => true) held fuel 45 [.slice a0 len0 cap0] = some (d, p) := by simpa [Value.cells] using hf
  exact open_intsX hf2 hw

end

end Go.Proofs.Ytfgkdbidgbpobaa
