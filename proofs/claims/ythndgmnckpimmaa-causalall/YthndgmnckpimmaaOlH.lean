/- Lists of changes in memory: what a slice of them holds, and that it holds it on behind whatever makes new memory alone; such that the call made itself. -/
import Derived.Test.YthndgmnckpimmaaWcE
import Derived.Test.YthndgmnckpimmaaRowI
import Derived.Laws.Rows
import Derived.Laws.AppendOwnNone
namespace Go.Proofs.Ythndgmnckpimmaa
open Go.RowKit
set_option linter.unusedVariables false

/-- A change's cells, with its clock's value. -/
def chCells (c : Ch) (dv : Value) : List Value := [.int .i64 c.ac, .int .i64 c.ar, .int .i64 c.seq, dv, .int .i64 c.kind, .int .i64 c.nc, .int .i64 c.nr, .int .i64 c.pc, .int .i64 c.pr, .int .i64 c.fc, .int .i64 c.fr, .string c.name, .string c.value]
/-- Texts that a value can hold. -/
def Sized (c : Ch) : Prop := c.name.size ≤ 281474976710656 ∧ c.value.size ≤ 281474976710656
/-- From block b, offset o on lies this change. -/
def ChAt (w : World) (b o : Nat) (c : Ch) : Prop := ∃ dv, (∀ j u, (chCells c dv)[j]? = some u → w.cell? ⟨b, o + j, none⟩ = some u) ∧ IsI w dv c.deps ∧ Sized c
theorem ChAt.lt {w : World} {b o : Nat} {c : Ch} (h : ChAt w b o c) : b < w.heap.size := by
  obtain ⟨dv, h, _⟩ := h
  have h0 := h 0 _ rfl
  rcases Nat.lt_or_ge b w.heap.size with h' | h'
  · exact h'
  · simp [World.cell?, h'] at h0
theorem ChAt.below {w w' : World} {b o : Nat} {c : Ch} (h : ChAt w b o c) (hb : Below w.heap.size w w') : ChAt w' b o c := by
  have hlt := h.lt
  obtain ⟨dv, h, hi, hs⟩ := h
  exact ⟨dv, fun j u hj => (hb.cell (p := ⟨b, o + j, none⟩) hlt).trans (h j u hj), hi.below hb, hs⟩
theorem ChAt.all {w : World} {b o : Nat} {c : Ch} (h : ChAt w b o c) : ∃ (a : Option Addr) (cap : Nat), IsI w (.slice a c.deps.length cap) c.deps ∧ Sized c ∧ w.cell? ⟨b, o, none⟩ = some (.int .i64 c.ac) ∧ w.cell? ⟨b, o + 1, none⟩ = some (.int .i64 c.ar) ∧ w.cell? ⟨b, o + 2, none⟩ = some (.int .i64 c.seq) ∧ w.cell? ⟨b, o + 3, none⟩ = some (.slice a c.deps.length cap) ∧ w.cell? ⟨b, o + 4, none⟩ = some (.int .i64 c.kind) ∧ w.cell? ⟨b, o + 5, none⟩ = some (.int .i64 c.nc) ∧ w.cell? ⟨b, o + 6, none⟩ = some (.int .i64 c.nr) ∧ w.cell? ⟨b, o + 7, none⟩ = some (.int .i64 c.pc) ∧ w.cell? ⟨b, o + 8, none⟩ = some (.int .i64 c.pr) ∧ w.cell? ⟨b, o + 9, none⟩ = some (.int .i64 c.fc) ∧ w.cell? ⟨b, o + 10, none⟩ = some (.int .i64 c.fr) ∧ w.cell? ⟨b, o + 11, none⟩ = some (.string c.name) ∧ w.cell? ⟨b, o + 12, none⟩ = some (.string c.value) := by
  obtain ⟨dv, h, hi, hs⟩ := h
  obtain ⟨a, cap, rfl⟩ := hi.form
  exact ⟨a, cap, hi, hs, h 0 _ rfl, h 1 _ rfl, h 2 _ rfl, h 3 _ rfl, h 4 _ rfl, h 5 _ rfl, h 6 _ rfl, h 7 _ rfl, h 8 _ rfl, h 9 _ rfl, h 10 _ rfl, h 11 _ rfl, h 12 _ rfl⟩

/-- From block b, offset o on lie these changes. -/
def ChsAt (w : World) (b o : Nat) (L : List Ch) : Prop := ∀ i (h : i < L.length), ChAt w b (o + i * 13) L[i]
theorem ChsAt.below {w w' : World} {b o : Nat} {L : List Ch} (h : ChsAt w b o L) (hb : Below w.heap.size w w') : ChsAt w' b o L := fun i hi => (h i hi).below hb
/-- The value is a slice of these changes. -/
def IsH (w : World) (v : Value) (L : List Ch) : Prop :=
  ∃ (a : Option Addr) (cap : Nat), v = .slice a L.length cap ∧ L.length ≤ cap ∧ L.length ≤ 281474976710656 ∧ (L = [] ∨ ∃ b o, a = some ⟨b, o, none⟩ ∧ ChsAt w b o L)
theorem IsH.below {w w' : World} {v : Value} {L : List Ch} (h : IsH w v L) (hb : Below w.heap.size w w') : IsH w' v L := by
  obtain ⟨a, cap, e, hc, hl, h⟩ := h
  exact ⟨a, cap, e, hc, hl, h.imp id fun ⟨b, o, e2, hr⟩ => ⟨b, o, e2, hr.below hb⟩⟩
theorem IsH.form {w : World} {v : Value} {L : List Ch} (h : IsH w v L) : ∃ a cap, v = .slice a L.length cap := by obtain ⟨a, cap, e, _⟩ := h; exact ⟨a, cap, e⟩
theorem IsH.non {w : World} (cap : Nat) : IsH w (.slice none 0 cap) [] := ⟨none, cap, rfl, Nat.zero_le _, by simp, .inl rfl⟩

/-- Changes and their clocks' values, as cells one behind the other. -/
def flatH (D : List (Ch × Value)) : List Value := D.flatMap fun x => chCells x.1 x.2
theorem flatH_snoc (D : List (Ch × Value)) (x : Ch × Value) : flatH (D ++ [x]) = flatH D ++ chCells x.1 x.2 := by simp [flatH]
theorem flatH_length (D : List (Ch × Value)) : (flatH D).length = D.length * 13 := by
  induction D with
  | nil => rfl
  | cons x y ih =>
    have e : flatH (x :: y) = chCells x.1 x.2 ++ flatH y := rfl
    rw [e, List.length_append, ih]
    simp [chCells]
    omega
theorem flatH_get (D : List (Ch × Value)) : ∀ i (h : i < D.length) j u, (chCells D[i].1 D[i].2)[j]? = some u → (flatH D)[i * 13 + j]? = some u := by
  induction D with
  | nil => intro i h; simp at h
  | cons x y ih =>
    intro i h j u hj
    have e : flatH (x :: y) = chCells x.1 x.2 ++ flatH y := rfl
    have hx : (chCells x.1 x.2).length = 13 := rfl
    rw [e]
    match i with
    | 0 =>
      have hj' : (chCells x.1 x.2)[j]? = some u := hj
      rw [List.getElem?_append_left (by rw [Nat.zero_mul, Nat.zero_add]; exact (List.getElem?_eq_some_iff.1 hj').1), Nat.zero_mul, Nat.zero_add]
      exact hj'
    | i + 1 =>
      have := ih i (by simpa using h) j u hj
      rw [List.getElem?_append_right (by omega), hx, show (i + 1) * 13 + j - 13 = i * 13 + j by omega]
      exact this
/-- The call's own row of these changes, in a block from B on; their clocks lie, too. -/
def OwnH (B : Nat) (w : World) (v : Value) (D : List (Ch × Value)) : Prop := w.ownsRow B 35 13 v D.length (flatH D)
theorem OwnH.below {B : Nat} {w w' : World} {v : Value} {D : List (Ch × Value)} (h : OwnH B w v D) (hb : Below w.heap.size w w') : OwnH B w' v D := by
  refine ⟨h.1, ?_⟩
  rcases h.2 with hn | ⟨g, cap, cur, hv, hg, hc, rest⟩
  · exact .inl hn
  · refine .inr ⟨g, cap, cur, hv, hg, ?_, rest⟩
    have hlt : g < w.heap.size := (Array.getElem?_eq_some_iff.1 hc).1
    rw [hb.block g hlt]
    exact hc
theorem OwnH.isH {B : Nat} {w : World} {v : Value} {D : List (Ch × Value)} (h : OwnH B w v D) (hl : D.length ≤ 281474976710656) (hd : ∀ x ∈ D, IsI w x.2 x.1.deps ∧ Sized x.1) : IsH w v (D.map Prod.fst) := by
  have h0 := h
  rcases h.2 with ⟨rfl, hn⟩ | ⟨g, cap, cur, rfl, hg, hc, hcap, rest⟩
  · have e : D = [] := List.eq_nil_of_length_eq_zero hn
    subst e
    exact IsH.non 0
  · refine ⟨_, cap, by simp, by simpa using hcap, by simpa using hl, .inr ⟨g, 0, rfl, fun i hi => ?_⟩⟩
    have hi' : i < D.length := by simpa using hi
    rw [show (D.map Prod.fst)[i] = D[i].1 by simp]
    refine ⟨D[i].2, fun j u hj => ?_, (hd _ (List.getElem_mem hi')).1, (hd _ (List.getElem_mem hi')).2⟩
    have hj2 : j < 13 := (List.getElem?_eq_some_iff.1 hj).1
    rw [show 0 + i * 13 + j = i * 13 + j by omega]
    exact (h0.cellAt (i * 13 + j) (by omega)).trans (flatH_get D i hi' j u hj)
theorem OwnH.nil0 (w : World) (B : Nat) : OwnH B w (.slice none 0 0) [] := World.ownsRow_nil _ _ _ _
theorem OwnH.form {B : Nat} {w : World} {v : Value} {D : List (Ch × Value)} (h : OwnH B w v D) : ∃ a cap, v = .slice a D.length cap := by
  rcases h.2 with ⟨rfl, hn⟩ | ⟨g, cap, cur, rfl, _⟩
  · exact ⟨none, 0, by rw [hn]⟩
  · exact ⟨_, cap, rfl⟩
theorem OwnH.snoc {B : Nat} {w : World} {v : Value} {D : List (Ch × Value)} {c : Ch} {dv : Value} (h : w.ownsRow B 35 13 v (D.length + 1) (flatH D ++ chCells c dv)) : OwnH B w v (D ++ [(c, dv)]) := by
  unfold OwnH
  rw [flatH_snoc]
  simpa using h
theorem infoChange : (Try.prog.info? 35).map (fun i => (i.zero, i.size, i.bytes)) = some (some (.agg #[.int .i64 0, .int .i64 0, .int .i64 0, .slice none 0 0, .int .i64 0, .int .i64 0, .int .i64 0, .int .i64 0, .int .i64 0, .int .i64 0, .int .i64 0, .string ⟨#[]⟩, .string ⟨#[]⟩]), 13, 136) := by kernel_rfl

/-- The bounds of an int. -/
theorem bounds_int {x : Int} (h : (Lit.int .i64 x).wf = true) : -9223372036854775808 ≤ x ∧ x < 9223372036854775808 := by
  simp [Lit.wf, IntKind.min, IntKind.max, IntKind.signed, IntKind.bits] at h
  exact ⟨by omega, by omega⟩
theorem grownBy.trans2 {a b c : World} {r : Option Nat} (h : a.grownBy b r) (k : b.grownBy c r) : a.grownBy c r :=
  ⟨k.os.trans h.os, k.tape.trans h.tape, k.output.trans h.output, Nat.le_trans h.size k.size, fun i hi hne => (k.block i (Nat.lt_of_lt_of_le hi h.size) hne).trans (h.block i hi hne)⟩
theorem grownBy.same (a : World) (r : Option Nat) : a.grownBy a r := ⟨rfl, rfl, rfl, Nat.le_refl _, fun _ _ _ => rfl⟩
theorem grownBy.ofBelow {a b : World} (h : Below a.heap.size a b) (r : Option Nat) : a.grownBy b r := ⟨h.os, h.tape, h.output, h.size, fun i hi _ => h.block i hi⟩
theorem grownBy.drewN {a b : World} {r : Option Nat} (h : a.grownBy b r) (n : Nat) : a.grownBy (b.drewN n) r := ⟨h.os, h.tape, h.output, h.size, h.block⟩

end Go.Proofs.Ythndgmnckpimmaa
