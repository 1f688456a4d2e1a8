/- Lists of gaps in memory: what a slice of them holds; such that the call made itself; the document's SameSpans. -/
import Derived.Test.YtjcpnjobfedejabDoorRowI
import Derived.RangeFuncNested
import Derived.RangeFuncBound
namespace Go.Proofs.YtjcpnjobfedejabDoor
open Go.RowKit
set_option linter.unusedVariables false

/-- From block b, offset o on lie these gaps. -/
def SpansAt (w : World) (b o : Nat) (d : List (Int × Int × Int)) : Prop :=
  ∀ i (h : i < d.length), w.cell? ⟨b, o + i * 3, none⟩ = some (.int .i64 d[i].1) ∧ w.cell? ⟨b, o + i * 3 + 1, none⟩ = some (.int .i64 d[i].2.1) ∧ w.cell? ⟨b, o + i * 3 + 2, none⟩ = some (.int .i64 d[i].2.2)
theorem SpansAt.lt {w : World} {b o : Nat} {d : List (Int × Int × Int)} (h : SpansAt w b o d) (hd : d ≠ []) : b < w.heap.size := by
  have h0 := (h 0 (by cases d with | nil => exact absurd rfl hd | cons x y => simp)).1
  rcases Nat.lt_or_ge b w.heap.size with h' | h'
  · exact h'
  · simp [World.cell?, h'] at h0
theorem SpansAt.below {w w' : World} {b o : Nat} {d : List (Int × Int × Int)} (h : SpansAt w b o d) (hb : Below w.heap.size w w') : SpansAt w' b o d := by
  intro i hi
  have hlt := h.lt (by intro e; subst e; simp at hi)
  exact ⟨(hb.cell (p := ⟨b, o + i * 3, none⟩) hlt).trans (h i hi).1, (hb.cell (p := ⟨b, o + i * 3 + 1, none⟩) hlt).trans (h i hi).2.1, (hb.cell (p := ⟨b, o + i * 3 + 2, none⟩) hlt).trans (h i hi).2.2⟩

/-- The value is a slice of these gaps. -/
def IsG (w : World) (v : Value) (d : List (Int × Int × Int)) : Prop :=
  ∃ (a : Option Addr) (cap : Nat), v = .slice a d.length cap ∧ d.length ≤ cap ∧ d.length ≤ 64 ∧ (d = [] ∨ ∃ b o, a = some ⟨b, o, none⟩ ∧ SpansAt w b o d)
theorem IsG.below {w w' : World} {v : Value} {d : List (Int × Int × Int)} (h : IsG w v d) (hb : Below w.heap.size w w') : IsG w' v d := by
  obtain ⟨a, cap, e, hc, hl, h⟩ := h
  refine ⟨a, cap, e, hc, hl, h.imp id fun ⟨b, o, e2, hr⟩ => ⟨b, o, e2, hr.below hb⟩⟩
theorem IsG.form {w : World} {v : Value} {d : List (Int × Int × Int)} (h : IsG w v d) : ∃ a cap, v = .slice a d.length cap := by obtain ⟨a, cap, e, _⟩ := h; exact ⟨a, cap, e⟩

/-- The cells of gaps. -/
def flatG (d : List (Int × Int × Int)) : List Value := d.flatMap fun x => [.int .i64 x.1, .int .i64 x.2.1, .int .i64 x.2.2]
theorem flatG_snoc (d : List (Int × Int × Int)) (x : Int × Int × Int) : flatG (d ++ [x]) = flatG d ++ [.int .i64 x.1, .int .i64 x.2.1, .int .i64 x.2.2] := by simp [flatG]
theorem flatG_length (d : List (Int × Int × Int)) : (flatG d).length = d.length * 3 := by
  induction d with
  | nil => rfl
  | cons x y ih => simp [flatG] at ih ⊢; omega
theorem flatG_get (d : List (Int × Int × Int)) : ∀ i (h : i < d.length), (flatG d)[i * 3]? = some (.int .i64 d[i].1) ∧ (flatG d)[i * 3 + 1]? = some (.int .i64 d[i].2.1) ∧ (flatG d)[i * 3 + 2]? = some (.int .i64 d[i].2.2) := by
  induction d with
  | nil => intro i h; simp at h
  | cons x y ih =>
    intro i h
    have e : flatG (x :: y) = .int .i64 x.1 :: .int .i64 x.2.1 :: .int .i64 x.2.2 :: flatG y := rfl
    rw [e]
    match i with
    | 0 => exact ⟨rfl, rfl, rfl⟩
    | i + 1 =>
      have := ih i (by simpa using h)
      rw [show (i + 1) * 3 = i * 3 + 1 + 1 + 1 by omega]
      simpa using this

/-- The call's own row of these gaps, in a block from B on. -/
def OwnG (B : Nat) (w : World) (v : Value) (D : List (Int × Int × Int)) : Prop := w.ownsRow B 36 3 v D.length (flatG D)
theorem OwnG.below {B : Nat} {w w' : World} {v : Value} {D : List (Int × Int × Int)} (h : OwnG B w v D) (hb : Below w.heap.size w w') : OwnG B w' v D := by
  refine ⟨h.1, ?_⟩
  rcases h.2 with hn | ⟨g, cap, cur, hv, hg, hc, rest⟩
  · exact .inl hn
  · refine .inr ⟨g, cap, cur, hv, hg, ?_, rest⟩
    have hlt : g < w.heap.size := (Array.getElem?_eq_some_iff.1 hc).1
    rw [hb.block g hlt]
    exact hc
theorem OwnG.isG {B : Nat} {w : World} {v : Value} {D : List (Int × Int × Int)} (h : OwnG B w v D) (hl : D.length ≤ 64) : IsG w v D := by
  have h0 := h
  rcases h.2 with ⟨rfl, hn⟩ | ⟨g, cap, cur, rfl, hg, hc, hcap, rest⟩
  · have e : D = [] := List.eq_nil_of_length_eq_zero hn
    subst e
    exact ⟨none, 0, rfl, Nat.le_refl _, hl, .inl rfl⟩
  · refine ⟨_, cap, rfl, hcap, hl, .inr ⟨g, 0, rfl, fun i hi => ?_⟩⟩
    have hf := flatG_get D i hi
    rw [show 0 + i * 3 = i * 3 by omega]
    exact ⟨(h0.cellAt (i * 3) (by omega)).trans hf.1, (h0.cellAt (i * 3 + 1) (by omega)).trans hf.2.1, (h0.cellAt (i * 3 + 2) (by omega)).trans hf.2.2⟩
theorem OwnG.snoc {B : Nat} {w : World} {v : Value} {D : List (Int × Int × Int)} {a b c : Int} (h : w.ownsRow B 36 3 v (D.length + 1) (flatG D ++ [.int .i64 a, .int .i64 b, .int .i64 c])) : OwnG B w v (D ++ [(a, b, c)]) := by
  unfold OwnG
  rw [flatG_snoc]
  simpa using h
theorem OwnG.empty (w : World) (B : Nat) (hB : B ≤ w.heap.size) : OwnG B (w.alloc (.cells #[] 36)) (.slice (some ⟨w.heap.size, 0, none⟩) 0 0) [] :=
  World.ownsRow_made w #[] 0 hB (by unfold maxLen; omega) (by simp)
theorem OwnG.nil0 (w : World) (B : Nat) : OwnG B w (.slice none 0 0) [] := World.ownsRow_nil _ _ _ _
theorem OwnG.block {B : Nat} {w : World} {v : Value} {D : List (Int × Int × Int)} (h : OwnG B w v D) : ∀ k, v.ownBlock = some k → B ≤ k := fun k e => (World.ownsRow.lt h k e).1
theorem OwnG.form {B : Nat} {w : World} {v : Value} {D : List (Int × Int × Int)} (h : OwnG B w v D) : ∃ a cap, v = .slice a D.length cap := by
  rcases h.2 with ⟨rfl, hn⟩ | ⟨g, cap, cur, rfl, _⟩
  · exact ⟨none, 0, by rw [hn]⟩
  · exact ⟨_, cap, rfl⟩
theorem ownG_mono {w : World} {B B' : Nat} {v : Value} {D : List (Int × Int × Int)} (h : OwnG B w v D) (hB : B' ≤ B) : OwnG B' w v D := by
  refine ⟨h.1, ?_⟩
  rcases h.2 with hn | ⟨g, cap, cur, hv, hg, rest⟩
  · exact .inl hn
  · exact .inr ⟨g, cap, cur, hv, by omega, rest⟩
theorem infoSpan : (Tryd.prog.info? 36).map (fun i => (i.zero, i.size, i.bytes)) = some (some (.agg #[.int .i64 0, .int .i64 0, .int .i64 0]), 3, 24) := by kernel_rfl
theorem cell_three_new (w : World) (x y z : Value) (t : TypeId) : ∀ j u, [x, y, z][j]? = some u → (w.alloc (.cells #[x, y, z] t)).cell? ((⟨w.heap.size, 0, none⟩ : Addr).add j) = some u := by
  intro j u hj
  rw [Addr.add_lit]
  match j, hj with
  | 0, hj => simp at hj; subst hj; simp [go_sem]
  | 1, hj => simp at hj; subst hj; simp [go_sem]
  | 2, hj => simp at hj; subst hj; simp [go_sem]
  | j + 3, hj => simp at hj

theorem take_moreG {d1 d2 : List (Int × Int × Int)} {k : Nat} (h1 : k < d1.length) (h2 : k < d2.length) (h : d1.take k = d2.take k) (e : d1[k] = d2[k]) : d1.take (k + 1) = d2.take (k + 1) := by
  rw [List.take_succ_eq_append_getElem h1, List.take_succ_eq_append_getElem h2, h, e]

end Go.Proofs.YtjcpnjobfedejabDoor
