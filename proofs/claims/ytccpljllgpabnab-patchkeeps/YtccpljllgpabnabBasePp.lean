/- Steps of a patch that came in. -/
import Derived.Test.YtccpljllgpabnabBaseM
import Derived.Test.YtccpljllgpabnabPaE
namespace Go.Proofs.Ytccpljllgpabnab
open Go.ChangeShapes Go.WideShapes Go.ChangeAt Go.RowKit Go.Deep
set_option linter.unusedVariables false
set_option linter.unusedSimpArgs false

theorem cellsPaV : Try.prog.cellsOf 42 = 9 := by kernel_rfl
/-- Its texts are not too long. -/
def smP (p : Pa) : Prop := p.nm.size ≤ 140737488355328 ∧ p.vl.size ≤ 140737488355328
def IsPp (w : World) (v : Value) (D : List Pa) : Prop := LsE paCells 9 (fun _ => True) w v D ∧ ∀ r ∈ D, smP r
def zeroPp : Pa := ⟨0, (0, 0), (0, 0), (0, 0), ⟨#[]⟩, ⟨#[]⟩⟩
theorem array9 {α : Type} {cs : Array α} (h : cs.size = 9) : ∃ c0 c1 c2 c3 c4 c5 c6 c7 c8, cs = #[c0, c1, c2, c3, c4, c5, c6, c7, c8] := by
  obtain ⟨l⟩ := cs
  match l, h with
  | [c0, c1, c2, c3, c4, c5, c6, c7, c8], _ => exact ⟨c0, c1, c2, c3, c4, c5, c6, c7, c8, rfl⟩
theorem list9 {α : Type} {cs : List α} (h : cs.length = 9) : ∃ c0 c1 c2 c3 c4 c5 c6 c7 c8, cs = [c0, c1, c2, c3, c4, c5, c6, c7, c8] := by
  match cs, h with
  | [c0, c1, c2, c3, c4, c5, c6, c7, c8], _ => exact ⟨c0, c1, c2, c3, c4, c5, c6, c7, c8, rfl⟩
section
variable {H : Type} {enc : TypeId × Value → H} {W : World} {held : Bool}

set_option maxHeartbeats 4000000 in
theorem open_patchG {fuel : Nat} {c0 c1 c2 c3 c4 c5 c6 c7 c8 : Value} {x : DataW H × List MemPlace} (hf : DataW.trod enc Try.prog W 0 (fun _ => true) held fuel 42 [c0, c1, c2, c3, c4, c5, c6, c7, c8] = some x) (hw : ∀ n ∈ x.1.weights Try.prog 42, n ≤ reachBytes) :
    ∃ a : Pa, [c0, c1, c2, c3, c4, c5, c6, c7, c8] = paCells a ∧ smP a := by
  obtain ⟨xs, n, _, hx, _, hlen, hfs⟩ := DataW.trod_struct Try.underlying42 hf
  match xs, hlen with
  | [x0, x1, x2, x3, x4, x5], _ =>
    have g0 : DataW.trod enc Try.prog W 0 (fun _ => true) held n 3 [c0] = some x0 := by have := hfs 0 _ rfl; simpa [cellsIntV, cellsStampV, cellsStrV] using this
    have g1 : DataW.trod enc Try.prog W 0 (fun _ => true) held n 23 [c1, c2] = some x1 := by have := hfs 1 _ rfl; simpa [cellsIntV, cellsStampV, cellsStrV] using this
    have g2 : DataW.trod enc Try.prog W 0 (fun _ => true) held n 23 [c3, c4] = some x2 := by have := hfs 2 _ rfl; simpa [cellsIntV, cellsStampV, cellsStrV] using this
    have g3 : DataW.trod enc Try.prog W 0 (fun _ => true) held n 23 [c5, c6] = some x3 := by have := hfs 3 _ rfl; simpa [cellsIntV, cellsStampV, cellsStrV] using this
    have g4 : DataW.trod enc Try.prog W 0 (fun _ => true) held n 9 [c7] = some x4 := by have := hfs 4 _ rfl; simpa [cellsIntV, cellsStampV, cellsStrV] using this
    have g5 : DataW.trod enc Try.prog W 0 (fun _ => true) held n 9 [c8] = some x5 := by have := hfs 5 _ rfl; simpa [cellsIntV, cellsStampV, cellsStrV] using this
    obtain ⟨kd, e, _⟩ := DataW.trod_int Try.underlying3 g0
    simp at e; subst e
    obtain ⟨s1, rfl, rfl⟩ := open_stampG g1
    obtain ⟨s2, rfl, rfl⟩ := open_stampG g2
    obtain ⟨s3, rfl, rfl⟩ := open_stampG g3
    obtain ⟨nm, e, e7, _⟩ := DataW.trod_string Try.underlying9 g4
    simp at e; subst e
    obtain ⟨vl, e, e8, _⟩ := DataW.trod_string Try.underlying9 g5
    simp at e; subst e
    refine ⟨⟨kd, s1, s2, s3, nm, vl⟩, rfl, ?_⟩
    have ex : x.1 = DataW.agg [x0.1, x1.1, x2.1, x3.1, .lit (.string nm.data.toList), .lit (.string vl.data.toList)] := by rw [hx, e7, e8]; rfl
    rw [ex] at hw
    exact ⟨text_size (sized_struct (sized_one hw) (j := 0) rfl rfl Try.underlying42) (j := 4) rfl rfl, text_size (sized_struct (sized_one hw) (j := 0) rfl rfl Try.underlying42) (j := 5) rfl rfl⟩
set_option maxRecDepth 100000 in
theorem open_patchV {r : Reach} {b0 : Nat} {v : Value} {d : DataW H} {p : List MemPlace} (hv : Value.okWide Try.prog W r b0 42 v) (h : DataW.Trod enc Try.prog W 0 (fun _ => true) held 42 v d p) (hw : ∀ n ∈ d.weights Try.prog 42, n ≤ reachBytes) :
    ∃ a : Pa, v = .agg (paCells a).toArray ∧ smP a := by
  obtain ⟨cs, rfl, hsz⟩ := okWide_struct Try.underlying42 hv
  obtain ⟨c0, c1, c2, c3, c4, c5, c6, c7, c8, rfl⟩ := array9 (hsz.trans cellsPaV)
  obtain ⟨fuel, hf⟩ := h
  have hf2 : DataW.trod enc Try.prog W 0 (fun _ => true) held fuel 42 [c0, c1, c2, c3, c4, c5, c6, c7, c8] = some (d, p) := by simpa [Value.cells] using hf
  obtain ⟨a, ha, hs⟩ := open_patchG hf2 hw
  exact ⟨a, by rw [← ha], hs⟩

set_option maxRecDepth 100000 in
/-- A list of steps that came in. -/
theorem open_patches {n : Nat} {v : Value} {x : DataW H × List MemPlace} (hf : DataW.trod enc Try.prog W 0 (fun _ => true) held n 28 [v] = some x) (hw : ∀ n ∈ x.1.weights Try.prog 28, n ≤ reachBytes) : ∃ L : List Pa, IsPp W v L := by
  rcases open_slice Try.underlying28 hf with ⟨hc, hx⟩ | ⟨a, len, cap, m, k, D, Pq, hc, _, hl, hm, hmm, hx, hel⟩
  · simp at hc
    subst hc
    exact ⟨[], LsE.nil _ _ _, fun r h => absurd h (by simp)⟩
  · simp at hc
    subst hc
    have hml : len ≤ m := by rw [hmm]; simp only [if_true]; exact hl
    have hwe : ∀ i, i < len → ∀ q ∈ (D i).weights Try.prog 42, q ≤ reachBytes := fun i hi q hq => by
      refine hw q ?_
      rw [hx]
      show q ∈ (DataW.slice _ _).weights Try.prog _
      rw [DataW.weights, Try.underlying28]
      simp only [List.mem_cons, List.mem_append]
      exact .inr (.inl (weights_all (List.mem_map.2 ⟨i, List.mem_range.2 hi, rfl⟩) hq))
    have hch : ∀ i, i < len → ∃ c : Pa, smP c ∧ ∀ b o, a = ⟨b, o, none⟩ → ∀ j u, (paCells c)[j]? = some u → W.cell? ⟨b, o + i * 9 + j, none⟩ = some u := fun i hi => by
      obtain ⟨cs', h1, h2⟩ := hel i (by omega)
      rw [cellsPaV] at h1
      obtain ⟨hb1, hb2, hb3⟩ := World.cells?_some h1
      obtain ⟨c0, c1, c2, c3, c4, c5, c6, c7, c8, rfl⟩ := list9 hb2
      obtain ⟨ac, ho, hsm⟩ := open_patchG h2 (hwe i hi)
      refine ⟨ac, hsm, fun b o ea j u hj => ?_⟩
      subst ea
      have hj9 : j < 9 := (List.getElem?_eq_some_iff.1 hj).1
      have h5 := hb3 j hj9
      rw [Addr.add_lit, Addr.add_lit] at h5
      rw [h5, ho]
      exact hj
    obtain ⟨c, hcc⟩ : ∃ c : Nat → Pa, ∀ i, i < len → smP (c i) ∧ ∀ b o, a = ⟨b, o, none⟩ → ∀ j u, (paCells (c i))[j]? = some u → W.cell? ⟨b, o + i * 9 + j, none⟩ = some u := by
      refine ⟨fun i => if h : i < len then Classical.choose (hch i h) else zeroPp, fun i hi => ?_⟩
      simp only [dif_pos hi]
      exact Classical.choose_spec (hch i hi)
    have hw0 := hw ((len + (m - len)) * Try.prog.bytesOf 42) (by
      rw [hx]
      show _ ∈ (DataW.slice _ _).weights Try.prog _
      rw [DataW.weights, Try.underlying28]
      simp)
    have hb0 : Try.prog.bytesOf 42 = 88 := by kernel_rfl
    have h2 : reachBytes ≤ 140737488355328 := by decide
    rw [hb0] at hw0
    have hLL : ((List.range len).map c).length = len := by simp
    refine ⟨(List.range len).map c, ⟨some a, cap, by rw [hLL], by rw [hLL]; exact hl, by rw [hLL]; omega, ?_⟩, fun r hr => ?_⟩
    rotate_left
    · obtain ⟨i, hi, rfl⟩ := List.mem_map.1 hr
      exact (hcc i (List.mem_range.1 hi)).1
    by_cases h0 : len = 0
    · left; simp [h0]
    · right
      obtain ⟨b, o, spot⟩ := a
      obtain ⟨cs', h1, _⟩ := hel 0 (by omega)
      rw [cellsPaV] at h1
      obtain ⟨hb1, hb2, hb3⟩ := World.cells?_some h1
      have g0 := hb3 0 (by omega)
      rw [List.getElem?_eq_getElem (by omega)] at g0
      have hspot : spot = none := by simpa [Addr.add] using World.cell?_spot g0
      subst hspot
      have g1 := (hcc 0 (by omega)).2 b o rfl 0 _ rfl
      refine ⟨b, o, rfl, trivial, cell_lt g1, fun i hi j u hj => ?_⟩
      rw [hLL] at hi
      rw [List.getElem_map, List.getElem_range] at hj
      exact (hcc i hi).2 b o rfl j u hj
set_option maxRecDepth 100000 in
theorem open_patchesV {r : Reach} {b0 : Nat} {v : Value} {d : DataW H} {p : List MemPlace} (hv : Value.okWide Try.prog W r b0 28 v) (h : DataW.Trod enc Try.prog W 0 (fun _ => true) held 28 v d p) (hw : ∀ n ∈ d.weights Try.prog 28, n ≤ reachBytes) : ∃ L : List Pa, IsPp W v L := by
  obtain ⟨a0, len0, cap0, rfl⟩ := okWide_slice Try.underlying28 hv
  obtain ⟨fuel, hf⟩ := h
  have hf2 : DataW.trod enc Try.prog W 0 (fun _ => true) held fuel 28 [.slice a0 len0 cap0] = some (d, p) := by simpa [Value.cells] using hf
  exact open_patches hf2 hw
end

end Go.Proofs.Ytccpljllgpabnab
