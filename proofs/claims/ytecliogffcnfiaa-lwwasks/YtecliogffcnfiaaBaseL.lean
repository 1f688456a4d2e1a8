/- What came in, opened as data: what registers have, lists of it, stamps, lists of numbers. -/
import Derived.Test.YtecliogffcnfiaaRows
import Derived.Test.YtecliogffcnfiaaFlT
import Derived.ProofKit
import Derived.OpenShut
import Derived.ChangeOld
import Derived.ChangeSlices
import Derived.SizedLaws
import Derived.Below
import Derived.Carry
import Derived.Lib.SmallJoins
import Derived.Deep.Slices
namespace Go.Proofs.Ytecliogffcnfiaa
open Go.ChangeShapes Go.WideShapes Go.ChangeAt Go.RowKit Go.Joins Go.Deep
set_option linter.unusedVariables false
set_option linter.constructorNameAsVariable false
set_option maxRecDepth 100000

theorem ownI : ownKnob Try.prog.godebug = none := by kernel_rfl
theorem laidOutI : laidOutB Try.prog = true := by kernel_rfl
theorem cellsIntV : Try.prog.cellsOf 3 = 1 := by kernel_rfl
theorem cellsStampV : Try.prog.cellsOf 24 = 2 := by kernel_rfl
theorem cellsRegV : Try.prog.cellsOf 26 = 7 := by kernel_rfl
theorem cellsStrV : Try.prog.cellsOf 9 = 1 := by kernel_rfl
theorem cellsBoolV : Try.prog.cellsOf 4 = 1 := by kernel_rfl
/-- Its texts are not too long. -/
def smR (r : Rg) : Prop := r.nm.size ≤ 140737488355328 ∧ r.vl.size ≤ 140737488355328
def IsRg (w : World) (v : Value) (D : List Rg) : Prop := LsE rgCells 7 (fun _ => True) w v D ∧ ∀ r ∈ D, smR r
theorem IsRg.below {w w' : World} {v : Value} {D : List Rg} (h : IsRg w v D) (hb : Below w.heap.size w w') : IsRg w' v D := ⟨h.1.below hb, h.2⟩
theorem array7 {α : Type} {cs : Array α} (h : cs.size = 7) : ∃ c0 c1 c2 c3 c4 c5 c6, cs = #[c0, c1, c2, c3, c4, c5, c6] := by
  obtain ⟨l⟩ := cs
  match l, h with
  | [c0, c1, c2, c3, c4, c5, c6], _ => exact ⟨c0, c1, c2, c3, c4, c5, c6, rfl⟩
theorem list7 {α : Type} {cs : List α} (h : cs.length = 7) : ∃ c0 c1 c2 c3 c4 c5 c6, cs = [c0, c1, c2, c3, c4, c5, c6] := by
  match cs, h with
  | [c0, c1, c2, c3, c4, c5, c6], _ => exact ⟨c0, c1, c2, c3, c4, c5, c6, rfl⟩
theorem sized_struct {H : Type} {P : Program} {ts : List TypeId} {ds : List (DataW H)} (h : (DataW.weightsEach P ts ds).all (· ≤ reachBytes) = true) {j : Nat} {t : TypeId} {fs : Array Field} {parts : List (DataW H)} (ht : ts[j]? = some t) (hd : ds[j]? = some (.agg parts)) (hu : P.underlying t = some (.struct fs)) : (DataW.weightsEach P (fs.toList.map (·.type)) parts).all (· ≤ reachBytes) = true := by
  rw [List.all_eq_true]
  intro n hn
  exact List.all_eq_true.1 h n (DataW.weights_mem_each ht hd n (by unfold DataW.weights; rw [hu]; exact hn))
theorem array2 {α : Type} {cs : Array α} (h : cs.size = 2) : ∃ c0 c1, cs = #[c0, c1] := by
  obtain ⟨l⟩ := cs
  match l, h with
  | [c0, c1], _ => exact ⟨c0, c1, rfl⟩
section
variable {H : Type} {enc : TypeId × Value → H} {W : World} {held : Bool}

theorem open_stampG {n : Nat} {a b : Value} {y : DataW H × List MemPlace} (h : DataW.trod enc Try.prog W 0 (fun _ => true) held n 24 [a, b] = some y) :
    ∃ s : St, a = .int .i64 s.1 ∧ b = .int .i64 s.2 := by
  obtain ⟨y0, y1, m, hx, _, h0, h1⟩ := trod_struct2 Try.underlying24 h
  obtain ⟨c, e0, _, w0⟩ := DataW.trod_int Try.underlying3 h0
  obtain ⟨r, e1, _, w1⟩ := DataW.trod_int Try.underlying3 h1
  rw [cellsIntV] at e0 e1
  simp at e0 e1
  exact ⟨(c, r), e0, e1⟩

theorem open_stampV {r : Reach} {b0 : Nat} {v : Value} {d : DataW H} {p : List MemPlace} (hv : Value.okWide Try.prog W r b0 24 v) (h : DataW.Trod enc Try.prog W 0 (fun _ => true) held 24 v d p) :
    ∃ s : St, v = .agg #[.int .i64 s.1, .int .i64 s.2] := by
  obtain ⟨cs, rfl, hsz⟩ := okWide_struct Try.underlying24 hv
  obtain ⟨c0, c1, rfl⟩ := array2 (hsz.trans cellsStampV)
  obtain ⟨fuel, hf⟩ := h
  have hf2 : DataW.trod enc Try.prog W 0 (fun _ => true) held fuel 24 [c0, c1] = some (d, p) := by simpa [Value.cells] using hf
  obtain ⟨s, rfl, rfl⟩ := open_stampG hf2
  exact ⟨s, rfl⟩

theorem weights_all {P : Program} {e : TypeId} {l : List (DataW H)} {d : DataW H} (hd : d ∈ l) {n : Nat} (hn : n ∈ d.weights P e) : n ∈ DataW.weightsAll P e l := by
  induction l with
  | nil => simp at hd
  | cons x l ih =>
    rw [DataW.weightsAll, List.mem_append]
    rcases List.mem_cons.1 hd with rfl | hd
    · exact .inl hn
    · exact .inr (ih hd)

set_option maxHeartbeats 4000000 in
theorem open_regG {fuel : Nat} {c0 c1 c2 c3 c4 c5 c6 : Value} {x : DataW H × List MemPlace} (hf : DataW.trod enc Try.prog W 0 (fun _ => true) held fuel 26 [c0, c1, c2, c3, c4, c5, c6] = some x) (hw : ∀ n ∈ x.1.weights Try.prog 26, n ≤ reachBytes) :
    ∃ a : Rg, [c0, c1, c2, c3, c4, c5, c6] = rgCells a ∧ smR a := by
  obtain ⟨xs, n, _, hx, _, hlen, hfs⟩ := DataW.trod_struct Try.underlying26 hf
  match xs, hlen with
  | [x0, x1, x2, x3, x4], _ =>
    have g0 : DataW.trod enc Try.prog W 0 (fun _ => true) held n 24 [c0, c1] = some x0 := by have := hfs 0 _ rfl; simpa [cellsIntV, cellsStampV, cellsStrV, cellsBoolV] using this
    have g1 : DataW.trod enc Try.prog W 0 (fun _ => true) held n 9 [c2] = some x1 := by have := hfs 1 _ rfl; simpa [cellsIntV, cellsStampV, cellsStrV, cellsBoolV] using this
    have g2 : DataW.trod enc Try.prog W 0 (fun _ => true) held n 24 [c3, c4] = some x2 := by have := hfs 2 _ rfl; simpa [cellsIntV, cellsStampV, cellsStrV, cellsBoolV] using this
    have g3 : DataW.trod enc Try.prog W 0 (fun _ => true) held n 9 [c5] = some x3 := by have := hfs 3 _ rfl; simpa [cellsIntV, cellsStampV, cellsStrV, cellsBoolV] using this
    have g4 : DataW.trod enc Try.prog W 0 (fun _ => true) held n 4 [c6] = some x4 := by have := hfs 4 _ rfl; simpa [cellsIntV, cellsStampV, cellsStrV, cellsBoolV] using this
    obtain ⟨s1, rfl, rfl⟩ := open_stampG g0
    obtain ⟨s2, rfl, rfl⟩ := open_stampG g2
    obtain ⟨nm, e, e7, _⟩ := DataW.trod_string Try.underlying9 g1
    simp at e; subst e
    obtain ⟨vl, e, e8, _⟩ := DataW.trod_string Try.underlying9 g3
    simp at e; subst e
    obtain ⟨gn, e, _⟩ := DataW.trod_bool Try.underlying4 g4
    simp at e; subst e
    refine ⟨⟨s1, nm, s2, vl, gn⟩, rfl, ?_⟩
    have ex : x.1 = DataW.agg [x0.1, .lit (.string nm.data.toList), x2.1, .lit (.string vl.data.toList), x4.1] := by rw [hx, e7, e8]; rfl
    rw [ex] at hw
    have h2 : reachBytes ≤ 140737488355328 := by decide
    have hall := sized_struct (ts := [26]) (ds := [_]) (by
      rw [List.all_eq_true]
      intro n hn
      have hn' : n ∈ (DataW.agg [x0.1, .lit (.string nm.data.toList), x2.1, .lit (.string vl.data.toList), x4.1]).weights Try.prog 26 := by simpa [DataW.weightsEach] using hn
      exact decide_eq_true (hw n hn')) (j := 0) rfl rfl Try.underlying26
    refine ⟨?_, ?_⟩
    · have h1 := sized_string hall (j := 1) (t := 9) rfl rfl
      have h3 : nm.size = nm.data.size := rfl
      rw [Array.length_toList] at h1
      show nm.size ≤ _
      omega
    · have h1 := sized_string hall (j := 3) (t := 9) rfl rfl
      have h3 : vl.size = vl.data.size := rfl
      rw [Array.length_toList] at h1
      show vl.size ≤ _
      omega
theorem open_regV {r : Reach} {b0 : Nat} {v : Value} {d : DataW H} {p : List MemPlace} (hv : Value.okWide Try.prog W r b0 26 v) (h : DataW.Trod enc Try.prog W 0 (fun _ => true) held 26 v d p) (hw : ∀ n ∈ d.weights Try.prog 26, n ≤ reachBytes) :
    ∃ a : Rg, v = .agg (rgCells a).toArray ∧ smR a := by
  obtain ⟨cs, rfl, hsz⟩ := okWide_struct Try.underlying26 hv
  obtain ⟨c0, c1, c2, c3, c4, c5, c6, rfl⟩ := array7 (hsz.trans cellsRegV)
  obtain ⟨fuel, hf⟩ := h
  have hf2 : DataW.trod enc Try.prog W 0 (fun _ => true) held fuel 26 [c0, c1, c2, c3, c4, c5, c6] = some (d, p) := by simpa [Value.cells] using hf
  obtain ⟨a, ha, hs⟩ := open_regG hf2 hw
  exact ⟨a, by rw [← ha], hs⟩

/-- A list of what registers have that came in. -/
theorem open_regs {n : Nat} {v : Value} {x : DataW H × List MemPlace} (hf : DataW.trod enc Try.prog W 0 (fun _ => true) held n 22 [v] = some x) (hw : ∀ n ∈ x.1.weights Try.prog 22, n ≤ reachBytes) : ∃ L : List Rg, IsRg W v L := by
  rcases open_slice Try.underlying22 hf with ⟨hc, hx⟩ | ⟨a, len, cap, m, k, D, Pq, hc, _, hl, hm, hmm, hx, hel⟩
  · simp at hc
    subst hc
    exact ⟨[], LsE.nil _ _ _, fun r h => absurd h (by simp)⟩
  · simp at hc
    subst hc
    have hml : len ≤ m := by rw [hmm]; simp only [if_true]; exact hl
    have hwe : ∀ i, i < len → ∀ q ∈ (D i).weights Try.prog 26, q ≤ reachBytes := fun i hi q hq => by
      refine hw q ?_
      rw [hx]
      show q ∈ (DataW.slice _ _).weights Try.prog _
      rw [DataW.weights, Try.underlying22]
      simp only [List.mem_cons, List.mem_append]
      exact .inr (.inl (weights_all (List.mem_map.2 ⟨i, List.mem_range.2 hi, rfl⟩) hq))
    have hch : ∀ i, i < len → ∃ c : Rg, smR c ∧ ∀ b o, a = ⟨b, o, none⟩ → ∀ j u, (rgCells c)[j]? = some u → W.cell? ⟨b, o + i * 7 + j, none⟩ = some u := fun i hi => by
      obtain ⟨cs', h1, h2⟩ := hel i (by omega)
      rw [cellsRegV] at h1
      obtain ⟨hb1, hb2, hb3⟩ := World.cells?_some h1
      obtain ⟨c0, c1, c2, c3, c4, c5, c6, rfl⟩ := list7 hb2
      obtain ⟨ac, ho, hsm⟩ := open_regG h2 (hwe i hi)
      refine ⟨ac, hsm, fun b o ea j u hj => ?_⟩
      subst ea
      have hj7 : j < 7 := (List.getElem?_eq_some_iff.1 hj).1
      have h5 := hb3 j hj7
      rw [Addr.add_lit, Addr.add_lit] at h5
      rw [h5, ho]
      exact hj
    obtain ⟨c, hcc⟩ : ∃ c : Nat → Rg, ∀ i, i < len → smR (c i) ∧ ∀ b o, a = ⟨b, o, none⟩ → ∀ j u, (rgCells (c i))[j]? = some u → W.cell? ⟨b, o + i * 7 + j, none⟩ = some u := by
      refine ⟨fun i => if h : i < len then Classical.choose (hch i h) else zeroR, fun i hi => ?_⟩
      simp only [dif_pos hi]
      exact Classical.choose_spec (hch i hi)
    have hw0 := hw ((len + (m - len)) * Try.prog.bytesOf 26) (by
      rw [hx]
      show _ ∈ (DataW.slice _ _).weights Try.prog _
      rw [DataW.weights, Try.underlying22]
      simp)
    have hb0 : Try.prog.bytesOf 26 = 72 := by kernel_rfl
    have h2 : reachBytes ≤ 140737488355328 := by decide
    rw [hb0] at hw0
    have hLL : ((List.range len).map c).length = len := by simp
    refine ⟨(List.range len).map c, ⟨some a, cap, by rw [hLL], by rw [hLL]; exact hl, by rw [hLL]; omega, ?_⟩, fun r hr => ?_⟩
    rotate_left
    · obtain ⟨i, hi, rfl⟩ := List.mem_map.1 hr
      exact (hcc i (List.mem_range.1 hi)).1
    by_cases h0 : len = 0
    · left; simp [h0]
    · right
      obtain ⟨b, o, spot⟩ := a
      obtain ⟨cs', h1, _⟩ := hel 0 (by omega)
      rw [cellsRegV] at h1
      obtain ⟨hb1, hb2, hb3⟩ := World.cells?_some h1
      have g0 := hb3 0 (by omega)
      rw [List.getElem?_eq_getElem (by omega)] at g0
      have hspot : spot = none := by simpa [Addr.add] using World.cell?_spot g0
      subst hspot
      have g1 := (hcc 0 (by omega)).2 b o rfl 0 _ rfl
      refine ⟨b, o, rfl, trivial, cell_lt g1, fun i hi j u hj => ?_⟩
      rw [hLL] at hi
      rw [List.getElem_map, List.getElem_range] at hj
      exact (hcc i hi).2 b o rfl j u hj
theorem open_regsV {r : Reach} {b0 : Nat} {v : Value} {d : DataW H} {p : List MemPlace} (hv : Value.okWide Try.prog W r b0 22 v) (h : DataW.Trod enc Try.prog W 0 (fun _ => true) held 22 v d p) (hw : ∀ n ∈ d.weights Try.prog 22, n ≤ reachBytes) : ∃ L : List Rg, IsRg W v L := by
  obtain ⟨a0, len0, cap0, rfl⟩ := okWide_slice Try.underlying22 hv
  obtain ⟨fuel, hf⟩ := h
  have hf2 : DataW.trod enc Try.prog W 0 (fun _ => true) held fuel 22 [.slice a0 len0 cap0] = some (d, p) := by simpa [Value.cells] using hf
  exact open_regs hf2 hw
end

/-- A list of numbers. -/
def IsIn (w : World) (v : Value) (D : List Int) : Prop := ∃ (a : Option Addr) (cap : Nat), v = .slice a D.length cap ∧ D.length ≤ cap ∧ D.length ≤ 17592186044416 ∧ (D = [] ∨ ∃ b o, a = some ⟨b, o, none⟩ ∧ b < w.heap.size ∧ ∀ i (h : i < D.length), w.cell? ⟨b, o + i, none⟩ = some (.int .i64 D[i]))

section
variable {H : Type} {enc : TypeId × Value → H} {W : World} {held : Bool}

end

end Go.Proofs.Ytecliogffcnfiaa
