/- A change that came in, opened as data: its numbers, its clock, its texts, and how long they may be. -/
import Derived.Test.YtaocjmipjibiaabGreatDoorBaseI
import Derived.Test.YtaocjmipjibiaabGreatDoorPlainG
import Derived.Lib.SmallJoins
namespace Go.Proofs.YtaocjmipjibiaabGreatDoor
open Go.ChangeShapes Go.WideShapes Go.ChangeAt Go.RowKit Go.Joins

theorem cellsStampG : Tryz.prog.cellsOf 23 = 2 := by kernel_rfl
theorem cellsChG : Tryz.prog.cellsOf 26 = 13 := by kernel_rfl
theorem cellsStrG : Tryz.prog.cellsOf 9 = 1 := by kernel_rfl
theorem cellsIntsG : Tryz.prog.cellsOf 24 = 1 := by kernel_rfl
theorem array13 {α : Type} {cs : Array α} (h : cs.size = 13) : ∃ c0 c1 c2 c3 c4 c5 c6 c7 c8 c9 c10 c11 c12, cs = #[c0, c1, c2, c3, c4, c5, c6, c7, c8, c9, c10, c11, c12] := by
  obtain ⟨l⟩ := cs
  match l, h with
  | [c0, c1, c2, c3, c4, c5, c6, c7, c8, c9, c10, c11, c12], _ => exact ⟨c0, c1, c2, c3, c4, c5, c6, c7, c8, c9, c10, c11, c12, rfl⟩
/-- The sizes of what lies in a struct. -/
theorem sized_struct {H : Type} {P : Program} {ts : List TypeId} {ds : List (DataW H)} (h : (DataW.weightsEach P ts ds).all (· ≤ reachBytes) = true) {j : Nat} {t : TypeId} {fs : Array Field} {parts : List (DataW H)} (ht : ts[j]? = some t) (hd : ds[j]? = some (.agg parts)) (hu : P.underlying t = some (.struct fs)) : (DataW.weightsEach P (fs.toList.map (·.type)) parts).all (· ≤ reachBytes) = true := by
  rw [List.all_eq_true]
  intro n hn
  exact List.all_eq_true.1 h n (DataW.weights_mem_each ht hd n (by unfold DataW.weights; rw [hu]; exact hn))

section
variable {H : Type} {enc : TypeId × Value → H} {W : World} {held : Bool}

theorem open_stampG {n : Nat} {a b : Value} {y : DataW H × List MemPlace} (h : DataW.trod enc Tryz.prog W 0 (fun _ => true) held n 23 [a, b] = some y) :
    ∃ c r : Int, a = .int .i64 c ∧ b = .int .i64 r ∧ (Lit.int .i64 c).wf = true ∧ (Lit.int .i64 r).wf = true := by
  obtain ⟨y0, y1, m, hx, _, h0, h1⟩ := trod_struct2 Tryz.underlying23 h
  obtain ⟨c, e0, _, w0⟩ := DataW.trod_int Tryz.underlying3 h0
  obtain ⟨r, e1, _, w1⟩ := DataW.trod_int Tryz.underlying3 h1
  rw [cellsInt] at e0 e1
  simp at e0 e1
  exact ⟨c, r, e0, e1, w0, w1⟩

theorem open_intsG {n : Nat} {v : Value} {x : DataW H × List MemPlace} (hf : DataW.trod enc Tryz.prog W 0 (fun _ => true) held n 24 [v] = some x) :
    ∃ D : List Int, (∃ (a : Option Addr) (cap : Nat), v = .slice a D.length cap ∧ D.length ≤ cap ∧ (D = [] ∨ ∃ b o, a = some ⟨b, o, none⟩ ∧ IntsAt W b o D)) ∧
      ((x.1 = .nil ∧ D = []) ∨ ∃ els sp, x.1 = .slice els sp ∧ els.length = D.length) := by
  rcases open_ints Tryz.underlying24 Tryz.underlying3 cellsInt hf with ⟨hc, hx⟩ | ⟨a, len, cap, zs, hc, _, hl, hm, hz, hx, hcell, hwz⟩
  · simp at hc
    subst hc
    exact ⟨[], ⟨none, 0, rfl, Nat.le_refl _, .inl rfl⟩, .inl ⟨by rw [hx], rfl⟩⟩
  · simp at hc
    subst hc
    have hlm : len ≤ zs.length := by rw [hz]; simp; omega
    have hD : (zs.take len).length = len := by simp; omega
    refine ⟨zs.take len, ⟨some a, cap, by rw [hD], by rw [hD]; exact hl, ?_⟩, .inr ⟨_, _, by rw [hx], by simp [lits]⟩⟩
    by_cases h0 : len = 0
    · left; simp [h0]
    · right
      obtain ⟨b, o, spot⟩ := a
      have g0 := hcell 0 (by omega)
      have hspot : spot = none := by simpa [Addr.add] using World.cell?_spot g0
      subst hspot
      refine ⟨b, o, rfl, fun i hi => ?_⟩
      rw [hD] at hi
      have g := hcell i (by omega)
      rw [Addr.add_lit] at g
      rw [g, List.getElem_take, getD_at (by omega)]

/-- What a change that came in is. -/
def ChOpen (W : World) (v : Value) (d : DataW H) (ac ar sq : Int) (dv : Value) (ds : List Int) (kd nc nr pc pr fc fr : Int) (nm vl : ByteArray) : Prop :=
  v = .agg #[.int .i64 ac, .int .i64 ar, .int .i64 sq, dv, .int .i64 kd, .int .i64 nc, .int .i64 nr, .int .i64 pc, .int .i64 pr, .int .i64 fc, .int .i64 fr, .string nm, .string vl] ∧ (∃ (a : Option Addr) (cap : Nat), dv = .slice a ds.length cap ∧ ds.length ≤ cap ∧ (ds = [] ∨ ∃ b o, a = some ⟨b, o, none⟩ ∧ IntsAt W b o ds)) ∧
  (∃ d0 d1 d2 d3 d4 d5 d6 : DataW H, d = .agg [d0, d1, d2, d3, d4, d5, d6, .lit (.string nm.data.toList), .lit (.string vl.data.toList)] ∧ ((d2 = .nil ∧ ds = []) ∨ ∃ els sp, d2 = .slice els sp ∧ els.length = ds.length)) ∧
  ((Lit.int .i64 ac).wf = true ∧ (Lit.int .i64 ar).wf = true ∧ (Lit.int .i64 sq).wf = true ∧ (Lit.int .i64 kd).wf = true)

set_option maxRecDepth 100000 in
set_option maxHeartbeats 4000000 in
theorem open_change {r : Reach} {b0 : Nat} {v : Value} {d : DataW H} {p : List MemPlace} (hv : Value.okWide Tryz.prog W r b0 26 v) (h : DataW.Trod enc Tryz.prog W 0 (fun _ => true) held 26 v d p) :
    ∃ ac ar sq dv ds kd nc nr pc pr fc fr nm vl, ChOpen W v d ac ar sq dv ds kd nc nr pc pr fc fr nm vl := by
  obtain ⟨cs, rfl, hsz⟩ := okWide_struct Tryz.underlying26 hv
  obtain ⟨c0, c1, c2, c3, c4, c5, c6, c7, c8, c9, c10, c11, c12, rfl⟩ := array13 (hsz.trans cellsChG)
  obtain ⟨fuel, hf⟩ := h
  obtain ⟨xs, n, _, hx, _, hlen, hfs⟩ := DataW.trod_struct Tryz.underlying26 hf
  match xs, hlen with
  | [x0, x1, x2, x3, x4, x5, x6, x7, x8], _ =>
    have g0 : DataW.trod enc Tryz.prog W 0 (fun _ => true) held n 23 [c0, c1] = some x0 := by have := hfs 0 _ rfl; simpa [Value.cells, cellsInt, cellsStampG, cellsStrG, cellsIntsG] using this
    have g1 : DataW.trod enc Tryz.prog W 0 (fun _ => true) held n 3 [c2] = some x1 := by have := hfs 1 _ rfl; simpa [Value.cells, cellsInt, cellsStampG, cellsStrG, cellsIntsG] using this
    have g2 : DataW.trod enc Tryz.prog W 0 (fun _ => true) held n 24 [c3] = some x2 := by have := hfs 2 _ rfl; simpa [Value.cells, cellsInt, cellsStampG, cellsStrG, cellsIntsG] using this
    have g3 : DataW.trod enc Tryz.prog W 0 (fun _ => true) held n 3 [c4] = some x3 := by have := hfs 3 _ rfl; simpa [Value.cells, cellsInt, cellsStampG, cellsStrG, cellsIntsG] using this
    have g4 : DataW.trod enc Tryz.prog W 0 (fun _ => true) held n 23 [c5, c6] = some x4 := by have := hfs 4 _ rfl; simpa [Value.cells, cellsInt, cellsStampG, cellsStrG, cellsIntsG] using this
    have g5 : DataW.trod enc Tryz.prog W 0 (fun _ => true) held n 23 [c7, c8] = some x5 := by have := hfs 5 _ rfl; simpa [Value.cells, cellsInt, cellsStampG, cellsStrG, cellsIntsG] using this
    have g6 : DataW.trod enc Tryz.prog W 0 (fun _ => true) held n 23 [c9, c10] = some x6 := by have := hfs 6 _ rfl; simpa [Value.cells, cellsInt, cellsStampG, cellsStrG, cellsIntsG] using this
    have g7 : DataW.trod enc Tryz.prog W 0 (fun _ => true) held n 9 [c11] = some x7 := by have := hfs 7 _ rfl; simpa [Value.cells, cellsInt, cellsStampG, cellsStrG, cellsIntsG] using this
    have g8 : DataW.trod enc Tryz.prog W 0 (fun _ => true) held n 9 [c12] = some x8 := by have := hfs 8 _ rfl; simpa [Value.cells, cellsInt, cellsStampG, cellsStrG, cellsIntsG] using this
    obtain ⟨ac, ar, rfl, rfl, w1, w2⟩ := open_stampG g0
    obtain ⟨sq, e, _, w3⟩ := DataW.trod_int Tryz.underlying3 g1
    simp at e; subst e
    obtain ⟨ds, hD, hd⟩ := open_intsG g2
    obtain ⟨kd, e, _, w4⟩ := DataW.trod_int Tryz.underlying3 g3
    simp at e; subst e
    obtain ⟨nc, nr, rfl, rfl, _, _⟩ := open_stampG g4
    obtain ⟨pc, pr, rfl, rfl, _, _⟩ := open_stampG g5
    obtain ⟨fc, fr, rfl, rfl, _, _⟩ := open_stampG g6
    obtain ⟨nm, e, e7, _⟩ := DataW.trod_string Tryz.underlying9 g7
    simp at e; subst e
    obtain ⟨vl, e, e8, _⟩ := DataW.trod_string Tryz.underlying9 g8
    simp at e; subst e
    simp only [Prod.mk.injEq] at hx
    refine ⟨ac, ar, sq, _, ds, kd, nc, nr, pc, pr, fc, fr, nm, vl, rfl, hD, ⟨x0.1, x1.1, x2.1, x3.1, x4.1, x5.1, x6.1, ?_, hd⟩, w1, w2, w3, w4⟩
    rw [hx.1, e7, e8]
    rfl

end
end Go.Proofs.YtaocjmipjibiaabGreatDoor
