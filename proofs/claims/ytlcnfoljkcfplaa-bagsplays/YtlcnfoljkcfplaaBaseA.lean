/- What came in, opened as data: lists of bytes, calls, lists of calls; and how long they may be. -/
import Derived.Test.YtlcnfoljkcfplaaRows
import Derived.Test.YtlcnfoljkcfplaaBgAc
import Derived.ProofKit
import Derived.OpenShut
import Derived.ChangeOld
import Derived.ChangeSlices
import Derived.SizedLaws
import Derived.Below
import Derived.Carry
import Derived.Lib.SmallJoins
import Derived.Deep.Slices
namespace Go.Proofs.Ytlcnfoljkcfplaa
open Go.ChangeShapes Go.WideShapes Go.ChangeAt Go.RowKit Go.Joins Go.Deep
set_option linter.unusedVariables false
set_option linter.constructorNameAsVariable false
set_option maxRecDepth 100000

theorem ownI : ownKnob Try.prog.godebug = none := by kernel_rfl
theorem laidOutI : laidOutB Try.prog = true := by kernel_rfl
theorem getD_at {l : List Int} {k : Nat} (h : k < l.length) : l.getD k 0 = l[k] := by
  rw [List.getD_eq_getElem?_getD, List.getElem?_eq_getElem h]; rfl
theorem bytesByte : Try.prog.bytesOf 5 = 1 := by kernel_rfl
theorem cellsByte : Try.prog.cellsOf 5 = 1 := by kernel_rfl
theorem bounds_u8 {x : Int} (h : (Lit.int .u8 x).wf = true) : 0 ≤ x ∧ x < 256 := by
  simp [Lit.wf, IntKind.min, IntKind.max, IntKind.signed, IntKind.bits] at h
  exact ⟨by omega, by omega⟩

section
variable {H : Type} {enc : TypeId × Value → H} {W : World} {held : Bool}

set_option maxRecDepth 100000 in
theorem open_bytesV {r : Reach} {b0 : Nat} {v : Value} {d : DataW H} {p : List MemPlace} (hv : Value.okWide Try.prog W r b0 31 v) (h : DataW.Trod enc Try.prog W 0 (fun _ => true) held 31 v d p) :
    ∃ D : List UInt8, (∃ (a : Option Addr) (cap : Nat), v = .slice a D.length cap ∧ D.length ≤ cap ∧ (D = [] ∨ ∃ b o, a = some ⟨b, o, none⟩ ∧ BytesAt W b o D)) ∧
      ((d = .nil ∧ D = []) ∨ ∃ els sp, d = .slice els sp ∧ els.length = D.length) := by
  obtain ⟨a0, len0, cap0, rfl⟩ := okWide_slice Try.underlying31 hv
  obtain ⟨fuel, hf⟩ := h
  rcases open_ints Try.underlying31 Try.underlying5 cellsByte hf with ⟨hc, hx⟩ | ⟨a, len, cap, zs, hc, _, hl, hm, hz, hx, hcell, hwz⟩
  · simp [Value.cells] at hc
    obtain ⟨rfl, rfl, rfl⟩ := hc
    simp only [Prod.mk.injEq] at hx
    exact ⟨[], ⟨none, 0, rfl, Nat.le_refl _, .inl rfl⟩, .inl ⟨hx.1, rfl⟩⟩
  · simp [Value.cells] at hc
    obtain ⟨rfl, rfl, rfl⟩ := hc
    simp only [Prod.mk.injEq] at hx
    have hlm : len0 ≤ zs.length := by rw [hz]; simp; omega
    have hD : ((zs.take len0).map fun n => UInt8.ofNat n.toNat).length = len0 := by simp; omega
    refine ⟨(zs.take len0).map fun n => UInt8.ofNat n.toNat, ⟨some a, cap0, by rw [hD], by rw [hD]; exact hl, ?_⟩, .inr ⟨_, _, hx.1, by simp [lits]⟩⟩
    by_cases h0 : len0 = 0
    · left; simp [h0]
    · right
      obtain ⟨b, o, spot⟩ := a
      have g0 := hcell 0 (by omega)
      have hspot : spot = none := by simpa [Addr.add] using World.cell?_spot g0
      subst hspot
      refine ⟨b, o, rfl, fun i hi => ?_⟩
      rw [hD] at hi
      have g := hcell i (by omega)
      rw [Addr.add_lit] at g
      have hb := bounds_u8 (hwz zs[i] (List.getElem_mem (by omega)))
      rw [g, List.getElem_map, List.getElem_take, getD_at (by omega)]
      congr 2
      rw [toNat_of (by omega)]
      omega

end

theorem cellsIntA : Try.prog.cellsOf 3 = 1 := by kernel_rfl
theorem cellsActA : Try.prog.cellsOf 33 = 7 := by kernel_rfl
theorem cellsBytesA : Try.prog.cellsOf 31 = 1 := by kernel_rfl
theorem array7 {α : Type} {cs : Array α} (h : cs.size = 7) : ∃ c0 c1 c2 c3 c4 c5 c6, cs = #[c0, c1, c2, c3, c4, c5, c6] := by
  obtain ⟨l⟩ := cs
  match l, h with
  | [c0, c1, c2, c3, c4, c5, c6], _ => exact ⟨c0, c1, c2, c3, c4, c5, c6, rfl⟩
theorem list7 {α : Type} {cs : List α} (h : cs.length = 7) : ∃ c0 c1 c2 c3 c4 c5 c6, cs = [c0, c1, c2, c3, c4, c5, c6] := by
  match cs, h with
  | [c0, c1, c2, c3, c4, c5, c6], _ => exact ⟨c0, c1, c2, c3, c4, c5, c6, rfl⟩
/-- The sizes of what lies in a struct. -/
theorem sized_struct {H : Type} {P : Program} {ts : List TypeId} {ds : List (DataW H)} (h : (DataW.weightsEach P ts ds).all (· ≤ reachBytes) = true) {j : Nat} {t : TypeId} {fs : Array Field} {parts : List (DataW H)} (ht : ts[j]? = some t) (hd : ds[j]? = some (.agg parts)) (hu : P.underlying t = some (.struct fs)) : (DataW.weightsEach P (fs.toList.map (·.type)) parts).all (· ≤ reachBytes) = true := by
  rw [List.all_eq_true]
  intro n hn
  exact List.all_eq_true.1 h n (DataW.weights_mem_each ht hd n (by unfold DataW.weights; rw [hu]; exact hn))
section
variable {H : Type} {enc : TypeId × Value → H} {W : World} {held : Bool}

theorem open_bytesG {n : Nat} {v : Value} {x : DataW H × List MemPlace} (hf : DataW.trod enc Try.prog W 0 (fun _ => true) held n 31 [v] = some x) :
    ∃ D : List UInt8, (∃ (a : Option Addr) (cap : Nat), v = .slice a D.length cap ∧ D.length ≤ cap ∧ (D = [] ∨ ∃ b o, a = some ⟨b, o, none⟩ ∧ BytesAt W b o D)) ∧
      ((x.1 = .nil ∧ D = []) ∨ ∃ els sp, x.1 = .slice els sp ∧ els.length = D.length) := by
  rcases open_ints Try.underlying31 Try.underlying5 cellsByte hf with ⟨hc, hx⟩ | ⟨a, len, cap, zs, hc, _, hl, hm, hz, hx, hcell, hwz⟩
  · simp at hc
    subst hc
    exact ⟨[], ⟨none, 0, rfl, Nat.le_refl _, .inl rfl⟩, .inl ⟨by rw [hx], rfl⟩⟩
  · simp at hc
    subst hc
    have hlm : len ≤ zs.length := by rw [hz]; simp; omega
    have hD : ((zs.take len).map fun n => UInt8.ofNat n.toNat).length = len := by simp; omega
    refine ⟨(zs.take len).map fun n => UInt8.ofNat n.toNat, ⟨some a, cap, by rw [hD], by rw [hD]; exact hl, ?_⟩, .inr ⟨_, _, by rw [hx], by simp [lits]⟩⟩
    by_cases h0 : len = 0
    · left; simp [h0]
    · right
      obtain ⟨b, o, spot⟩ := a
      have g0 := hcell 0 (by omega)
      have hspot : spot = none := by simpa [Addr.add] using World.cell?_spot g0
      subst hspot
      refine ⟨b, o, rfl, fun i hi => ?_⟩
      rw [hD] at hi
      have g := hcell i (by omega)
      rw [Addr.add_lit] at g
      have hb := bounds_u8 (hwz zs[i] (List.getElem_mem (by omega)))
      rw [g, List.getElem_map, List.getElem_take, getD_at (by omega)]
      congr 2
      rw [toNat_of (by omega)]
      omega
/-- What a call that came in is. -/
def AcOpen (W : World) (v : Value) (d : DataW H) (a : Ac) (pv : Value) : Prop :=
  v = .agg #[.int .i64 a.kind, .int .i64 a.fr, .int .i64 a.to, .int .i64 a.i, .int .i64 a.at_, .int .i64 a.mask, pv] ∧ (∃ (z : Option Addr) (cap : Nat), pv = .slice z a.p.length cap ∧ a.p.length ≤ cap ∧ (a.p = [] ∨ ∃ b o, z = some ⟨b, o, none⟩ ∧ BytesAt W b o a.p)) ∧
  (∃ d0 d1 d2 d3 d4 d5 d6 : DataW H, d = .agg [d0, d1, d2, d3, d4, d5, d6] ∧ ((d6 = .nil ∧ a.p = []) ∨ ∃ els sp, d6 = .slice els sp ∧ els.length = a.p.length)) ∧ (Lit.int .i64 a.mask).wf = true

set_option maxRecDepth 100000 in
set_option maxHeartbeats 4000000 in
theorem open_acg {fuel : Nat} {c0 c1 c2 c3 c4 c5 c6 : Value} {x : DataW H × List MemPlace} (hf : DataW.trod enc Try.prog W 0 (fun _ => true) held fuel 33 [c0, c1, c2, c3, c4, c5, c6] = some x) :
    ∃ a pv, AcOpen W (.agg #[c0, c1, c2, c3, c4, c5, c6]) x.1 a pv := by
  obtain ⟨xs, n, _, hx, _, hlen, hfs⟩ := DataW.trod_struct Try.underlying33 hf
  match xs, hlen with
  | [x0, x1, x2, x3, x4, x5, x6], _ =>
    have g0 : DataW.trod enc Try.prog W 0 (fun _ => true) held n 3 [c0] = some x0 := by have := hfs 0 _ rfl; simpa [cellsIntA, cellsBytesA] using this
    have g1 : DataW.trod enc Try.prog W 0 (fun _ => true) held n 3 [c1] = some x1 := by have := hfs 1 _ rfl; simpa [cellsIntA, cellsBytesA] using this
    have g2 : DataW.trod enc Try.prog W 0 (fun _ => true) held n 3 [c2] = some x2 := by have := hfs 2 _ rfl; simpa [cellsIntA, cellsBytesA] using this
    have g3 : DataW.trod enc Try.prog W 0 (fun _ => true) held n 3 [c3] = some x3 := by have := hfs 3 _ rfl; simpa [cellsIntA, cellsBytesA] using this
    have g4 : DataW.trod enc Try.prog W 0 (fun _ => true) held n 3 [c4] = some x4 := by have := hfs 4 _ rfl; simpa [cellsIntA, cellsBytesA] using this
    have g5 : DataW.trod enc Try.prog W 0 (fun _ => true) held n 3 [c5] = some x5 := by have := hfs 5 _ rfl; simpa [cellsIntA, cellsBytesA] using this
    have g6 : DataW.trod enc Try.prog W 0 (fun _ => true) held n 31 [c6] = some x6 := by have := hfs 6 _ rfl; simpa [cellsIntA, cellsBytesA] using this
    obtain ⟨z0, e, _, w0⟩ := DataW.trod_int Try.underlying3 g0
    simp at e; subst e
    obtain ⟨z1, e, _, w1⟩ := DataW.trod_int Try.underlying3 g1
    simp at e; subst e
    obtain ⟨z2, e, _, w2⟩ := DataW.trod_int Try.underlying3 g2
    simp at e; subst e
    obtain ⟨z3, e, _, w3⟩ := DataW.trod_int Try.underlying3 g3
    simp at e; subst e
    obtain ⟨z4, e, _, w4⟩ := DataW.trod_int Try.underlying3 g4
    simp at e; subst e
    obtain ⟨z5, e, _, w5⟩ := DataW.trod_int Try.underlying3 g5
    simp at e; subst e
    obtain ⟨D, hD, hd⟩ := open_bytesG g6
    refine ⟨⟨z0, z1, z2, z3, z4, z5, D⟩, c6, rfl, hD, ⟨x0.1, x1.1, x2.1, x3.1, x4.1, x5.1, x6.1, ?_, hd⟩, w5⟩
    rw [hx]
    rfl
theorem ac_ok {v : Value} {d : DataW H} {a : Ac} {pv : Value} (ho : AcOpen W v d a pv) (hw : ∀ n ∈ d.weights Try.prog 33, n ≤ reachBytes) : AcOk a ∧ IsB W pv a.p := by
  obtain ⟨_, hp, ⟨d0, d1, d2, d3, d4, d5, d6, ey, hd⟩, hwf⟩ := ho
  subst ey
  have h2 : reachBytes ≤ 140737488351232 := by decide
  have hall := sized_struct (ts := [33]) (ds := [_]) (by
    rw [List.all_eq_true]
    intro n hn
    have hn' : n ∈ (DataW.agg [d0, d1, d2, d3, d4, d5, d6]).weights Try.prog 33 := by simpa [DataW.weightsEach] using hn
    exact decide_eq_true (hw n hn')) (j := 0) rfl rfl Try.underlying33
  have hlen : a.p.length ≤ 140737488351232 := by
    rcases hd with ⟨_, e⟩ | ⟨els, sp, e, he⟩
    · rw [e]; simp
    · subst e
      have h1 := sized_slice hall (j := 6) (t := 31) rfl rfl Try.underlying31
      rw [bytesByte] at h1
      omega
  refine ⟨⟨hlen, bounds_int hwf⟩, ?_⟩
  obtain ⟨z, cap, e, h3, h4⟩ := hp
  exact ⟨z, cap, e, h3, by omega, h4⟩
theorem weights_all {P : Program} {e : TypeId} {l : List (DataW H)} {d : DataW H} (hd : d ∈ l) {n : Nat} (hn : n ∈ d.weights P e) : n ∈ DataW.weightsAll P e l := by
  induction l with
  | nil => simp at hd
  | cons x l ih =>
    rw [DataW.weightsAll, List.mem_append]
    rcases List.mem_cons.1 hd with rfl | hd
    · exact .inl hn
    · exact .inr (ih hd)

/-- A list of calls that came in. -/
theorem open_acs {n : Nat} {v : Value} {x : DataW H × List MemPlace} (hf : DataW.trod enc Try.prog W 0 (fun _ => true) held n 22 [v] = some x) (hw : ∀ n ∈ x.1.weights Try.prog 22, n ≤ reachBytes) : ∃ L : List Ac, IsA W v L := by
  rcases open_slice Try.underlying22 hf with ⟨hc, hx⟩ | ⟨a, len, cap, m, k, D, Pl, hc, _, hl, hm, hmm, hx, hel⟩
  · simp at hc
    subst hc
    exact ⟨[], IsA.non 0⟩
  · simp at hc
    subst hc
    have hml : len ≤ m := by rw [hmm]; simp only [if_true]; exact hl
    have hwe : ∀ i, i < len → ∀ q ∈ (D i).weights Try.prog 33, q ≤ reachBytes := fun i hi q hq => by
      refine hw q ?_
      rw [hx]
      show q ∈ (DataW.slice _ _).weights Try.prog _
      rw [DataW.weights, Try.underlying22]
      simp only [List.mem_cons, List.mem_append]
      exact .inr (.inl (weights_all (List.mem_map.2 ⟨i, List.mem_range.2 hi, rfl⟩) hq))
    have hch : ∀ i, i < len → ∃ c : Ac, ∀ b o, a = ⟨b, o, none⟩ → AcAt W b (o + i * 7) c := fun i hi => by
      obtain ⟨cs', h1, h2⟩ := hel i (by omega)
      rw [cellsActA] at h1
      obtain ⟨hb1, hb2, hb3⟩ := World.cells?_some h1
      obtain ⟨c0, c1, c2, c3, c4, c5, c6, rfl⟩ := list7 hb2
      obtain ⟨ac, pv, ho⟩ := open_acg h2
      obtain ⟨hS, hI⟩ := ac_ok ho (hwe i hi)
      obtain ⟨ev, _⟩ := ho
      refine ⟨ac, fun b o ea => ⟨pv, fun j u hj => ?_, hI, hS⟩⟩
      subst ea
      have hj7 : j < 7 := (List.getElem?_eq_some_iff.1 hj).1
      have h5 := hb3 j hj7
      rw [Addr.add_lit, Addr.add_lit] at h5
      rw [h5]
      injection ev with ev
      have e2 := congrArg Array.toList ev
      simp only at e2
      rw [e2]
      exact hj
    obtain ⟨c, hcc⟩ : ∃ c : Nat → Ac, ∀ i, i < len → ∀ b o, a = ⟨b, o, none⟩ → AcAt W b (o + i * 7) (c i) := by
      refine ⟨fun i => if h : i < len then Classical.choose (hch i h) else ⟨0, 0, 0, 0, 0, 0, []⟩, fun i hi => ?_⟩
      simp only [dif_pos hi]
      exact Classical.choose_spec (hch i hi)
    have hw0 := hw ((len + (m - len)) * Try.prog.bytesOf 33) (by
      rw [hx]
      show _ ∈ (DataW.slice _ _).weights Try.prog _
      rw [DataW.weights, Try.underlying22]
      simp)
    have hb0 : Try.prog.bytesOf 33 = 72 := by kernel_rfl
    have h2 : reachBytes ≤ 140737488355328 := by decide
    rw [hb0] at hw0
    have hLL : ((List.range len).map c).length = len := by simp
    refine ⟨(List.range len).map c, ⟨some a, cap, by rw [hLL], by rw [hLL]; exact hl, by rw [hLL]; omega, ?_⟩⟩
    by_cases h0 : len = 0
    · left; simp [h0]
    · right
      obtain ⟨b, o, spot⟩ := a
      obtain ⟨cs', h1, _⟩ := hel 0 (by omega)
      rw [cellsActA] at h1
      obtain ⟨_, hb2, hb3⟩ := World.cells?_some h1
      have g0 := hb3 0 (by decide)
      have hspot : spot = none := by
        obtain ⟨c0, c1, c2, c3, c4, c5, c6, rfl⟩ := list7 hb2
        simpa [Addr.add] using World.cell?_spot g0
      subst hspot
      refine ⟨b, o, rfl, fun i hi => ?_⟩
      rw [hLL] at hi
      rw [show ((List.range len).map c)[i] = c i by simp]
      exact hcc i hi b o rfl

theorem open_acsV {r : Reach} {b0 : Nat} {v : Value} {d : DataW H} {p : List MemPlace} (hv : Value.okWide Try.prog W r b0 22 v) (h : DataW.Trod enc Try.prog W 0 (fun _ => true) held 22 v d p) (hw : ∀ n ∈ d.weights Try.prog 22, n ≤ reachBytes) :
    ∃ L : List Ac, IsA W v L := by
  obtain ⟨a0, len0, cap0, rfl⟩ := okWide_slice Try.underlying22 hv
  obtain ⟨fuel, hf⟩ := h
  exact open_acs (x := (d, p)) hf hw

/-- A call that came in. -/
theorem open_acV {r : Reach} {b0 : Nat} {v : Value} {d : DataW H} {p : List MemPlace} (hv : Value.okWide Try.prog W r b0 33 v) (h : DataW.Trod enc Try.prog W 0 (fun _ => true) held 33 v d p) (hw : ∀ n ∈ d.weights Try.prog 33, n ≤ reachBytes) :
    ∃ (a : Ac) (pv : Value), v = .agg #[.int .i64 a.kind, .int .i64 a.fr, .int .i64 a.to, .int .i64 a.i, .int .i64 a.at_, .int .i64 a.mask, pv] ∧ IsB W pv a.p ∧ AcOk a := by
  obtain ⟨cs, rfl, hsz⟩ := okWide_struct Try.underlying33 hv
  obtain ⟨c0, c1, c2, c3, c4, c5, c6, rfl⟩ := array7 (hsz.trans cellsActA)
  obtain ⟨fuel, hf⟩ := h
  obtain ⟨a, pv, ho⟩ := open_acg hf
  obtain ⟨h1, h2⟩ := ac_ok ho hw
  exact ⟨a, pv, ho.1, h2, h1⟩

end
end Go.Proofs.Ytlcnfoljkcfplaa
