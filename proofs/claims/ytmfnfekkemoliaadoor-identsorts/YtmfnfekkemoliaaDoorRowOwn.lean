/- Lists of stamps that a call itself makes, by append: they are read as any list is, and stay behind whatever makes new memory alone. -/
import Derived.Test.YtmfnfekkemoliaaDoorRowS
import Derived.Maps.AppendAt
import Derived.OwnWalk
namespace Go.Proofs.YtmfnfekkemoliaaDoor
open Go.RowKit
set_option linter.unusedVariables false

/-- The cells of stamps. -/
def flat (d : List (Int × Int)) : List Value := d.flatMap fun x => [.int .i64 x.1, .int .i64 x.2]
theorem flat_snoc (d : List (Int × Int)) (x : Int × Int) : flat (d ++ [x]) = flat d ++ [.int .i64 x.1, .int .i64 x.2] := by simp [flat]
theorem flat_append (d e : List (Int × Int)) : flat (d ++ e) = flat d ++ flat e := by simp [flat]
theorem flat_length (d : List (Int × Int)) : (flat d).length = d.length * 2 := by
  induction d with
  | nil => rfl
  | cons x y ih => simp [flat] at ih ⊢; omega
theorem flat_get (d : List (Int × Int)) : ∀ i (h : i < d.length), (flat d)[i * 2]? = some (.int .i64 d[i].1) ∧ (flat d)[i * 2 + 1]? = some (.int .i64 d[i].2) := by
  induction d with
  | nil => intro i h; simp at h
  | cons x y ih =>
    intro i h
    have e : flat (x :: y) = .int .i64 x.1 :: .int .i64 x.2 :: flat y := rfl
    rw [e]
    match i with
    | 0 => exact ⟨rfl, rfl⟩
    | i + 1 =>
      have := ih i (by simpa using h)
      rw [show (i + 1) * 2 = i * 2 + 1 + 1 by omega]
      simpa using this
theorem flat_one (d : List (Int × Int)) : ∀ u ∈ flat d, u.oneCell' = true := by
  intro u hu
  simp only [flat, List.mem_flatMap] at hu
  obtain ⟨x, _, hx⟩ := hu
  simp at hx
  rcases hx with rfl | rfl <;> rfl

/-- The call's own row of these stamps, in a block from B on. -/
def OwnS (B : Nat) (w : World) (v : Value) (D : List (Int × Int)) : Prop := w.ownsRow B 23 2 v D.length (flat D)

theorem OwnS.below {B : Nat} {w w' : World} {v : Value} {D : List (Int × Int)} (h : OwnS B w v D) (hb : Below w.heap.size w w') : OwnS B w' v D := by
  refine ⟨h.1, ?_⟩
  rcases h.2 with hn | ⟨g, cap, cur, hv, hg, hc, rest⟩
  · exact .inl hn
  · refine .inr ⟨g, cap, cur, hv, hg, ?_, rest⟩
    have hlt : g < w.heap.size := (Array.getElem?_eq_some_iff.1 hc).1
    rw [hb.block g hlt]
    exact hc
theorem OwnS.isS {B : Nat} {w : World} {v : Value} {D : List (Int × Int)} (h : OwnS B w v D) (hl : D.length ≤ 8796093022208) : IsS w v D := by
  have h0 := h
  rcases h.2 with ⟨rfl, hn⟩ | ⟨g, cap, cur, rfl, hg, hc, hcap, rest⟩
  · have e : D = [] := List.eq_nil_of_length_eq_zero hn
    subst e
    exact ⟨none, 0, rfl, Nat.le_refl _, hl, .inl rfl⟩
  · refine ⟨_, cap, rfl, hcap, hl, .inr ⟨g, 0, rfl, fun i hi => ?_⟩⟩
    have hf := flat_get D i hi
    rw [show 0 + i * 2 = i * 2 by omega]
    exact ⟨(h0.cellAt (i * 2) (by omega)).trans hf.1, (h0.cellAt (i * 2 + 1) (by omega)).trans hf.2⟩
theorem OwnS.snoc {B : Nat} {w : World} {v : Value} {D : List (Int × Int)} {a b : Int} (h : w.ownsRow B 23 2 v (D.length + 1) (flat D ++ [.int .i64 a, .int .i64 b])) : OwnS B w v (D ++ [(a, b)]) := by
  unfold OwnS
  rw [flat_snoc]
  simpa using h
theorem OwnS.snoc2 {B : Nat} {w : World} {v : Value} {D : List (Int × Int)} {a b a2 b2 : Int} (h : w.ownsRow B 23 2 v (D.length + 1 + 1) (flat D ++ [.int .i64 a, .int .i64 b] ++ [.int .i64 a2, .int .i64 b2])) : OwnS B w v (D ++ [(a, b)] ++ [(a2, b2)]) := by
  unfold OwnS
  rw [flat_snoc, flat_snoc]
  simpa using h
theorem own_slice {B : Nat} {w : World} {v : Value} {n : Nat} {xs : List Value} (h : w.ownsRow B 23 2 v (n + 1) xs) : ∃ g cap, v = .slice (some ⟨g, 0, none⟩) (n + 1) cap ∧ B ≤ g := by
  rcases h.2 with ⟨_, hn⟩ | ⟨g, cap, cur, rfl, hg, _⟩
  · omega
  · exact ⟨g, cap, rfl, hg⟩
theorem OwnS.empty (w : World) (B : Nat) (hB : B ≤ w.heap.size) : OwnS B (w.alloc (.cells #[] 23)) (.slice (some ⟨w.heap.size, 0, none⟩) 0 0) [] :=
  World.ownsRow_made w #[] 0 hB (by unfold maxLen; omega) (by simp)
theorem OwnS.nil0 (w : World) (B : Nat) : OwnS B w (.slice none 0 0) [] := World.ownsRow_nil _ _ _ _
theorem OwnS.block {B : Nat} {w : World} {v : Value} {D : List (Int × Int)} (h : OwnS B w v D) : ∀ k, v.ownBlock = some k → B ≤ k := fun k e => (World.ownsRow.lt h k e).1
theorem OwnS.form {B : Nat} {w : World} {v : Value} {D : List (Int × Int)} (h : OwnS B w v D) : ∃ a cap, v = .slice a D.length cap := by
  rcases h.2 with ⟨rfl, hn⟩ | ⟨g, cap, cur, rfl, _⟩
  · exact ⟨none, 0, by rw [hn]⟩
  · exact ⟨_, cap, rfl⟩

theorem infoStamp : (Tryd.prog.info? 23).map (fun i => (i.zero, i.size, i.bytes)) = some (some (.agg #[.int .i64 0, .int .i64 0]), 2, 16) := by kernel_rfl

end Go.Proofs.YtmfnfekkemoliaaDoor
