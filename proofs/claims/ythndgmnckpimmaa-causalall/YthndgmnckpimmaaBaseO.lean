/- What came in, opened as data: lists of numbers, changes, lists of changes; and how long they may be. -/
import Derived.Test.YthndgmnckpimmaaRows
import Derived.Test.YthndgmnckpimmaaRowI
import Derived.Test.YthndgmnckpimmaaOlH
import Derived.ProofKit
import Derived.OpenShut
import Derived.ChangeOld
import Derived.ChangeSlices
import Derived.SizedLaws
import Derived.Below
import Derived.Carry
import Derived.Lib.SmallJoins
import Derived.Deep.Slices
namespace Go.Proofs.Ythndgmnckpimmaa
open Go.ChangeShapes Go.WideShapes Go.ChangeAt Go.RowKit Go.Joins Go.Deep
set_option linter.unusedVariables false
set_option linter.constructorNameAsVariable false
set_option maxRecDepth 100000

theorem ownI : ownKnob Try.prog.godebug = none := by kernel_rfl
theorem laidOutI : laidOutB Try.prog = true := by kernel_rfl
theorem bytesInt : Try.prog.bytesOf 3 = 8 := by kernel_rfl
theorem cellsInt : Try.prog.cellsOf 3 = 1 := by kernel_rfl

section
variable {H : Type} {enc : TypeId × Value → H} {W : World} {held : Bool}

set_option maxRecDepth 100000 in
theorem open_intsV {r : Reach} {b0 : Nat} {v : Value} {d : DataW H} {p : List MemPlace} (hv : Value.okWide Try.prog W r b0 31 v) (h : DataW.Trod enc Try.prog W 0 (fun _ => true) held 31 v d p) :
    ∃ D : List Int, (∃ (a : Option Addr) (cap : Nat), v = .slice a D.length cap ∧ D.length ≤ cap ∧ (D = [] ∨ ∃ b o, a = some ⟨b, o, none⟩ ∧ IntsAt W b o D)) ∧
      ((d = .nil ∧ D = []) ∨ ∃ els sp, d = .slice els sp ∧ els.length = D.length) := by
  obtain ⟨a0, len0, cap0, rfl⟩ := okWide_slice Try.underlying31 hv
  obtain ⟨fuel, hf⟩ := h
  rcases open_ints Try.underlying31 Try.underlying3 cellsInt hf with ⟨hc, hx⟩ | ⟨a, len, cap, zs, hc, _, hl, hm, hz, hx, hcell, hwz⟩
  · simp [Value.cells] at hc
    obtain ⟨rfl, rfl, rfl⟩ := hc
    simp only [Prod.mk.injEq] at hx
    exact ⟨[], ⟨none, 0, rfl, Nat.le_refl _, .inl rfl⟩, .inl ⟨hx.1, rfl⟩⟩
  · simp [Value.cells] at hc
    obtain ⟨rfl, rfl, rfl⟩ := hc
    simp only [Prod.mk.injEq] at hx
    have hlm : len0 ≤ zs.length := by rw [hz]; simp; omega
    have hD : (zs.take len0).length = len0 := by simp; omega
    refine ⟨zs.take len0, ⟨some a, cap0, by rw [hD], by rw [hD]; exact hl, ?_⟩, .inr ⟨_, _, hx.1, by simp [lits]⟩⟩
    by_cases h0 : len0 = 0
    · left; simp [h0]
    · right
      obtain ⟨b, o, spot⟩ := a
      have g0 := hcell 0 (by omega)
      have hspot : spot = none := by simpa [Addr.add] using World.cell?_spot g0
      subst hspot
      refine ⟨b, o, rfl, fun i hi => ?_⟩
      rw [hD] at hi
      have g := hcell i (by omega)
      rw [Addr.add_lit] at g
      rw [g, List.getElem_take, getD_at (by omega)]

end
theorem cellsStampG : Try.prog.cellsOf 33 = 2 := by kernel_rfl
theorem cellsChG : Try.prog.cellsOf 35 = 13 := by kernel_rfl
theorem cellsStrG : Try.prog.cellsOf 9 = 1 := by kernel_rfl
theorem cellsIntsG : Try.prog.cellsOf 31 = 1 := by kernel_rfl
theorem array13 {α : Type} {cs : Array α} (h : cs.size = 13) : ∃ c0 c1 c2 c3 c4 c5 c6 c7 c8 c9 c10 c11 c12, cs = #[c0, c1, c2, c3, c4, c5, c6, c7, c8, c9, c10, c11, c12] := by
  obtain ⟨l⟩ := cs
  match l, h with
  | [c0, c1, c2, c3, c4, c5, c6, c7, c8, c9, c10, c11, c12], _ => exact ⟨c0, c1, c2, c3, c4, c5, c6, c7, c8, c9, c10, c11, c12, rfl⟩
/-- The sizes of what lies in a struct. -/
theorem sized_struct {H : Type} {P : Program} {ts : List TypeId} {ds : List (DataW H)} (h : (DataW.weightsEach P ts ds).all (· ≤ reachBytes) = true) {j : Nat} {t : TypeId} {fs : Array Field} {parts : List (DataW H)} (ht : ts[j]? = some t) (hd : ds[j]? = some (.agg parts)) (hu : P.underlying t = some (.struct fs)) : (DataW.weightsEach P (fs.toList.map (·.type)) parts).all (· ≤ reachBytes) = true := by
  rw [List.all_eq_true]
  intro n hn
  exact List.all_eq_true.1 h n (DataW.weights_mem_each ht hd n (by unfold DataW.weights; rw [hu]; exact hn))

section
variable {H : Type} {enc : TypeId × Value → H} {W : World} {held : Bool}

theorem open_stampG {n : Nat} {a b : Value} {y : DataW H × List MemPlace} (h : DataW.trod enc Try.prog W 0 (fun _ => true) held n 33 [a, b] = some y) :
    ∃ c r : Int, a = .int .i64 c ∧ b = .int .i64 r ∧ (Lit.int .i64 c).wf = true ∧ (Lit.int .i64 r).wf = true := by
  obtain ⟨y0, y1, m, hx, _, h0, h1⟩ := trod_struct2 Try.underlying33 h
  obtain ⟨c, e0, _, w0⟩ := DataW.trod_int Try.underlying3 h0
  obtain ⟨r, e1, _, w1⟩ := DataW.trod_int Try.underlying3 h1
  rw [cellsInt] at e0 e1
  simp at e0 e1
  exact ⟨c, r, e0, e1, w0, w1⟩

theorem open_intsG {n : Nat} {v : Value} {x : DataW H × List MemPlace} (hf : DataW.trod enc Try.prog W 0 (fun _ => true) held n 31 [v] = some x) :
    ∃ D : List Int, (∃ (a : Option Addr) (cap : Nat), v = .slice a D.length cap ∧ D.length ≤ cap ∧ (D = [] ∨ ∃ b o, a = some ⟨b, o, none⟩ ∧ IntsAt W b o D)) ∧
      ((x.1 = .nil ∧ D = []) ∨ ∃ els sp, x.1 = .slice els sp ∧ els.length = D.length) := by
  rcases open_ints Try.underlying31 Try.underlying3 cellsInt hf with ⟨hc, hx⟩ | ⟨a, len, cap, zs, hc, _, hl, hm, hz, hx, hcell, hwz⟩
  · simp at hc
    subst hc
    exact ⟨[], ⟨none, 0, rfl, Nat.le_refl _, .inl rfl⟩, .inl ⟨by rw [hx], rfl⟩⟩
  · simp at hc
    subst hc
    have hlm : len ≤ zs.length := by rw [hz]; simp; omega
    have hD : (zs.take len).length = len := by simp; omega
    refine ⟨zs.take len, ⟨some a, cap, by rw [hD], by rw [hD]; exact hl, ?_⟩, .inr ⟨_, _, by rw [hx], by simp [lits]⟩⟩
    by_cases h0 : len = 0
    · left; simp [h0]
    · right
      obtain ⟨b, o, spot⟩ := a
      have g0 := hcell 0 (by omega)
      have hspot : spot = none := by simpa [Addr.add] using World.cell?_spot g0
      subst hspot
      refine ⟨b, o, rfl, fun i hi => ?_⟩
      rw [hD] at hi
      have g := hcell i (by omega)
      rw [Addr.add_lit] at g
      rw [g, List.getElem_take, getD_at (by omega)]

/-- What a change that came in is. -/
def ChOpen (W : World) (v : Value) (d : DataW H) (ac ar sq : Int) (dv : Value) (ds : List Int) (kd nc nr pc pr fc fr : Int) (nm vl : ByteArray) : Prop :=
  v = .agg #[.int .i64 ac, .int .i64 ar, .int .i64 sq, dv, .int .i64 kd, .int .i64 nc, .int .i64 nr, .int .i64 pc, .int .i64 pr, .int .i64 fc, .int .i64 fr, .string nm, .string vl] ∧ (∃ (a : Option Addr) (cap : Nat), dv = .slice a ds.length cap ∧ ds.length ≤ cap ∧ (ds = [] ∨ ∃ b o, a = some ⟨b, o, none⟩ ∧ IntsAt W b o ds)) ∧
  (∃ d0 d1 d2 d3 d4 d5 d6 : DataW H, d = .agg [d0, d1, d2, d3, d4, d5, d6, .lit (.string nm.data.toList), .lit (.string vl.data.toList)] ∧ ((d2 = .nil ∧ ds = []) ∨ ∃ els sp, d2 = .slice els sp ∧ els.length = ds.length)) ∧
  ((Lit.int .i64 ac).wf = true ∧ (Lit.int .i64 ar).wf = true ∧ (Lit.int .i64 sq).wf = true ∧ (Lit.int .i64 kd).wf = true)


set_option maxRecDepth 100000 in
set_option maxHeartbeats 4000000 in
theorem open_chg {fuel : Nat} {c0 c1 c2 c3 c4 c5 c6 c7 c8 c9 c10 c11 c12 : Value} {x : DataW H × List MemPlace} (hf : DataW.trod enc Try.prog W 0 (fun _ => true) held fuel 35 [c0, c1, c2, c3, c4, c5, c6, c7, c8, c9, c10, c11, c12] = some x) :
    ∃ ac ar sq dv ds kd nc nr pc pr fc fr nm vl, ChOpen W (.agg #[c0, c1, c2, c3, c4, c5, c6, c7, c8, c9, c10, c11, c12]) x.1 ac ar sq dv ds kd nc nr pc pr fc fr nm vl := by
  obtain ⟨xs, n, _, hx, _, hlen, hfs⟩ := DataW.trod_struct Try.underlying35 hf
  match xs, hlen with
  | [x0, x1, x2, x3, x4, x5, x6, x7, x8], _ =>
    have g0 : DataW.trod enc Try.prog W 0 (fun _ => true) held n 33 [c0, c1] = some x0 := by have := hfs 0 _ rfl; simpa [cellsInt, cellsStampG, cellsStrG, cellsIntsG] using this
    have g1 : DataW.trod enc Try.prog W 0 (fun _ => true) held n 3 [c2] = some x1 := by have := hfs 1 _ rfl; simpa [cellsInt, cellsStampG, cellsStrG, cellsIntsG] using this
    have g2 : DataW.trod enc Try.prog W 0 (fun _ => true) held n 31 [c3] = some x2 := by have := hfs 2 _ rfl; simpa [cellsInt, cellsStampG, cellsStrG, cellsIntsG] using this
    have g3 : DataW.trod enc Try.prog W 0 (fun _ => true) held n 3 [c4] = some x3 := by have := hfs 3 _ rfl; simpa [cellsInt, cellsStampG, cellsStrG, cellsIntsG] using this
    have g4 : DataW.trod enc Try.prog W 0 (fun _ => true) held n 33 [c5, c6] = some x4 := by have := hfs 4 _ rfl; simpa [cellsInt, cellsStampG, cellsStrG, cellsIntsG] using this
    have g5 : DataW.trod enc Try.prog W 0 (fun _ => true) held n 33 [c7, c8] = some x5 := by have := hfs 5 _ rfl; simpa [cellsInt, cellsStampG, cellsStrG, cellsIntsG] using this
    have g6 : DataW.trod enc Try.prog W 0 (fun _ => true) held n 33 [c9, c10] = some x6 := by have := hfs 6 _ rfl; simpa [cellsInt, cellsStampG, cellsStrG, cellsIntsG] using this
    have g7 : DataW.trod enc Try.prog W 0 (fun _ => true) held n 9 [c11] = some x7 := by have := hfs 7 _ rfl; simpa [cellsInt, cellsStampG, cellsStrG, cellsIntsG] using this
    have g8 : DataW.trod enc Try.prog W 0 (fun _ => true) held n 9 [c12] = some x8 := by have := hfs 8 _ rfl; simpa [cellsInt, cellsStampG, cellsStrG, cellsIntsG] using this
    obtain ⟨ac, ar, rfl, rfl, w1, w2⟩ := open_stampG g0
    obtain ⟨sq, e, _, w3⟩ := DataW.trod_int Try.underlying3 g1
    simp at e; subst e
    obtain ⟨ds, hD, hd⟩ := open_intsG g2
    obtain ⟨kd, e, _, w4⟩ := DataW.trod_int Try.underlying3 g3
    simp at e; subst e
    obtain ⟨nc, nr, rfl, rfl, _, _⟩ := open_stampG g4
    obtain ⟨pc, pr, rfl, rfl, _, _⟩ := open_stampG g5
    obtain ⟨fc, fr, rfl, rfl, _, _⟩ := open_stampG g6
    obtain ⟨nm, e, e7, _⟩ := DataW.trod_string Try.underlying9 g7
    simp at e; subst e
    obtain ⟨vl, e, e8, _⟩ := DataW.trod_string Try.underlying9 g8
    simp at e; subst e
    refine ⟨ac, ar, sq, _, ds, kd, nc, nr, pc, pr, fc, fr, nm, vl, rfl, hD, ⟨x0.1, x1.1, x2.1, x3.1, x4.1, x5.1, x6.1, ?_, hd⟩, w1, w2, w3, w4⟩
    rw [hx, e7, e8]
    rfl


theorem open_change {r : Reach} {b0 : Nat} {v : Value} {d : DataW H} {p : List MemPlace} (hv : Value.okWide Try.prog W r b0 35 v) (h : DataW.Trod enc Try.prog W 0 (fun _ => true) held 35 v d p) :
    ∃ ac ar sq dv ds kd nc nr pc pr fc fr nm vl, ChOpen W v d ac ar sq dv ds kd nc nr pc pr fc fr nm vl := by
  obtain ⟨cs, rfl, hsz⟩ := okWide_struct Try.underlying35 hv
  obtain ⟨c0, c1, c2, c3, c4, c5, c6, c7, c8, c9, c10, c11, c12, rfl⟩ := array13 (hsz.trans cellsChG)
  obtain ⟨fuel, hf⟩ := h
  exact open_chg hf
/-- How long a change's clock and texts may be. -/
theorem ch_sizes {v : Value} {d : DataW H} {ac ar sq : Int} {dv : Value} {ds : List Int} {kd nc nr pc pr fc fr : Int} {nm vl : ByteArray} (ho : ChOpen W v d ac ar sq dv ds kd nc nr pc pr fc fr nm vl) (hw : ∀ n ∈ d.weights Try.prog 35, n ≤ reachBytes) :
    ds.length ≤ 17592186044416 ∧ nm.size ≤ 281474976710656 ∧ vl.size ≤ 281474976710656 := by
  obtain ⟨_, _, ⟨d0, d1, d2, d3, d4, d5, d6, ey, hd⟩, _⟩ := ho
  subst ey
  have h2 : reachBytes ≤ 140737488355328 := by decide
  have hall := sized_struct (ts := [35]) (ds := [_]) (by
    rw [List.all_eq_true]
    intro n hn
    have hn' : n ∈ (DataW.agg [d0, d1, d2, d3, d4, d5, d6, .lit (.string nm.data.toList), .lit (.string vl.data.toList)]).weights Try.prog 35 := by simpa [DataW.weightsEach] using hn
    exact decide_eq_true (hw n hn')) (j := 0) rfl rfl Try.underlying35
  refine ⟨?_, ?_, ?_⟩
  · rcases hd with ⟨_, rfl⟩ | ⟨els, sp, e, he⟩
    · simp
    · subst e
      have h1 := sized_slice hall (j := 2) (t := 31) rfl rfl Try.underlying31
      rw [bytesInt] at h1
      omega
  · have h1 := sized_string hall (j := 7) (t := 9) rfl rfl
    have h3 : nm.size = nm.data.size := rfl
    rw [Array.length_toList] at h1
    omega
  · have h1 := sized_string hall (j := 8) (t := 9) rfl rfl
    have h3 : vl.size = vl.data.size := rfl
    rw [Array.length_toList] at h1
    omega
theorem open_chAt {v : Value} {d : DataW H} {ac ar sq : Int} {dv : Value} {ds : List Int} {kd nc nr pc pr fc fr : Int} {nm vl : ByteArray} (ho : ChOpen W v d ac ar sq dv ds kd nc nr pc pr fc fr nm vl) (hw : ∀ n ∈ d.weights Try.prog 35, n ≤ reachBytes) : IsI W dv ds := by
  have hs := ch_sizes ho hw
  obtain ⟨_, ⟨a, cap, e, h1, h2⟩, _⟩ := ho
  exact ⟨a, cap, e, h1, hs.1, h2⟩
theorem weights_all {P : Program} {e : TypeId} {l : List (DataW H)} {d : DataW H} (hd : d ∈ l) {n : Nat} (hn : n ∈ d.weights P e) : n ∈ DataW.weightsAll P e l := by
  induction l with
  | nil => simp at hd
  | cons x l ih =>
    rw [DataW.weightsAll, List.mem_append]
    rcases List.mem_cons.1 hd with rfl | hd
    · exact .inl hn
    · exact .inr (ih hd)
theorem list13 {α : Type} {cs : List α} (h : cs.length = 13) : ∃ c0 c1 c2 c3 c4 c5 c6 c7 c8 c9 c10 c11 c12, cs = [c0, c1, c2, c3, c4, c5, c6, c7, c8, c9, c10, c11, c12] := by
  match cs, h with
  | [c0, c1, c2, c3, c4, c5, c6, c7, c8, c9, c10, c11, c12], _ => exact ⟨c0, c1, c2, c3, c4, c5, c6, c7, c8, c9, c10, c11, c12, rfl⟩
/-- A list of changes that came in. -/
theorem open_chs {n : Nat} {v : Value} {x : DataW H × List MemPlace} (hf : DataW.trod enc Try.prog W 0 (fun _ => true) held n 28 [v] = some x) (hw : ∀ n ∈ x.1.weights Try.prog 28, n ≤ reachBytes) : ∃ L : List Ch, IsH W v L ∧ L.length * 136 ≤ 140737488355328 := by
  rcases open_slice Try.underlying28 hf with ⟨hc, hx⟩ | ⟨a, len, cap, m, k, D, Pl, hc, _, hl, hm, hmm, hx, hel⟩
  · simp at hc
    subst hc
    exact ⟨[], IsH.non 0, by simp⟩
  · simp at hc
    subst hc
    have hml : len ≤ m := by rw [hmm]; simp only [if_true]; exact hl
    have hwe : ∀ i, i < len → ∀ q ∈ (D i).weights Try.prog 35, q ≤ reachBytes := fun i hi q hq => by
      refine hw q ?_
      rw [hx]
      show q ∈ (DataW.slice _ _).weights Try.prog _
      rw [DataW.weights, Try.underlying28]
      simp only [List.mem_cons, List.mem_append]
      exact .inr (.inl (weights_all (List.mem_map.2 ⟨i, List.mem_range.2 hi, rfl⟩) hq))
    have hch : ∀ i, i < len → ∃ c : Ch, ∀ b o, a = ⟨b, o, none⟩ → ChAt W b (o + i * 13) c := fun i hi => by
      obtain ⟨cs', h1, h2⟩ := hel i (by omega)
      rw [cellsChG] at h1
      obtain ⟨hb1, hb2, hb3⟩ := World.cells?_some h1
      obtain ⟨c0, c1, c2, c3, c4, c5, c6, c7, c8, c9, c10, c11, c12, rfl⟩ := list13 hb2
      obtain ⟨ac, ar, sq, dv, ds, kd, nc, nr, pc, pr, fc, fr, nm, vl, ho⟩ := open_chg h2
      have hI := open_chAt ho (hwe i hi)
      have hS := ch_sizes ho (hwe i hi)
      obtain ⟨ev, _⟩ := ho
      refine ⟨⟨ac, ar, sq, ds, kd, nc, nr, pc, pr, fc, fr, nm, vl⟩, fun b o ea => ⟨dv, fun j u hj => ?_, hI, hS.2⟩⟩
      subst ea
      have hj13 : j < 13 := (List.getElem?_eq_some_iff.1 hj).1
      have h5 := hb3 j hj13
      rw [Addr.add_lit, Addr.add_lit] at h5
      rw [h5]
      injection ev with ev
      have e2 := congrArg Array.toList ev
      simp only at e2
      rw [e2]
      exact hj
    obtain ⟨c, hcc⟩ : ∃ c : Nat → Ch, ∀ i, i < len → ∀ b o, a = ⟨b, o, none⟩ → ChAt W b (o + i * 13) (c i) := by
      refine ⟨fun i => if h : i < len then Classical.choose (hch i h) else Ch.none, fun i hi => ?_⟩
      simp only [dif_pos hi]
      exact Classical.choose_spec (hch i hi)
    have hw0 := hw ((len + (m - len)) * Try.prog.bytesOf 35) (by
      rw [hx]
      show _ ∈ (DataW.slice _ _).weights Try.prog _
      rw [DataW.weights, Try.underlying28]
      simp)
    have hb0 : Try.prog.bytesOf 35 = 136 := by kernel_rfl
    have h2 : reachBytes ≤ 140737488355328 := by decide
    rw [hb0] at hw0
    have hLL : ((List.range len).map c).length = len := by simp
    refine ⟨(List.range len).map c, ⟨some a, cap, by rw [hLL], by rw [hLL]; exact hl, by rw [hLL]; omega, ?_⟩, by rw [hLL]; omega⟩
    by_cases h0 : len = 0
    · left; simp [h0]
    · right
      obtain ⟨b, o, spot⟩ := a
      obtain ⟨cs', h1, _⟩ := hel 0 (by omega)
      rw [cellsChG] at h1
      obtain ⟨_, hb2, hb3⟩ := World.cells?_some h1
      have g0 := hb3 0 (by decide)
      have hspot : spot = none := by
        obtain ⟨c0, c1, c2, c3, c4, c5, c6, c7, c8, c9, c10, c11, c12, rfl⟩ := list13 hb2
        simpa [Addr.add] using World.cell?_spot g0
      subst hspot
      refine ⟨b, o, rfl, fun i hi => ?_⟩
      rw [hLL] at hi
      rw [show ((List.range len).map c)[i] = c i by simp]
      exact hcc i hi b o rfl

theorem open_chsV {r : Reach} {b0 : Nat} {v : Value} {d : DataW H} {p : List MemPlace} (hv : Value.okWide Try.prog W r b0 28 v) (h : DataW.Trod enc Try.prog W 0 (fun _ => true) held 28 v d p) (hw : ∀ n ∈ d.weights Try.prog 28, n ≤ reachBytes) :
    ∃ L : List Ch, IsH W v L ∧ L.length * 136 ≤ 140737488355328 := by
  obtain ⟨a0, len0, cap0, rfl⟩ := okWide_slice Try.underlying28 hv
  obtain ⟨fuel, hf⟩ := h
  exact open_chs (x := (d, p)) hf hw

end
end Go.Proofs.Ythndgmnckpimmaa
