/- The document's Check. -/
import Derived.Test.YtngglnlphlembaaVtQ
import Derived.Test.YtngglnlphlembaaVtP
import Derived.Test.YtngglnlphlembaaVtF
import Derived.Deep.AppendLies
import Derived.Deep.Cut
namespace Go.Proofs.Ytngglnlphlembaa
open Go.RowKit
set_option linter.unusedVariables false
set_option linter.unusedSimpArgs false

/-- Why nodes laid flat are not right. -/
def chk2 (seen : List St) (i : Nat) : List VT → Int
  | [] => 0
  | x :: r => if keyB i x.k = false then 2 else if hasS seen x.k = true then 5 else if chkN x ≠ 0 then chkN x else chk2 (seen ++ [x.k]) (i + 1) r
theorem flatD_n : ∀ (n : Nat), (∀ t d, VT.sz t ≤ n → (flatD t d).map Prod.snd = flT t ∧ ∀ x ∈ flatD t d, d ≤ x.1) ∧ (∀ l d, szs l ≤ n → (flatDs l d).map Prod.snd = flTs l ∧ ∀ x ∈ flatDs l d, d ≤ x.1)
  | 0 => ⟨fun t d h => by have := t.sz_pos; omega, fun l d h => by
      cases l with
      | nil => simp [flTs, flatDs]
      | cons x r => have := x.sz_pos; rw [szs] at h; omega⟩
  | n + 1 => by
    have ih := flatD_n n
    have h1 : ∀ t d, VT.sz t ≤ n + 1 → (flatD t d).map Prod.snd = flT t ∧ ∀ x ∈ flatD t d, d ≤ x.1 := fun t d h => by
      have h2 := ih.2 t.ks (d + 1) (by have := t.sz_eq; omega)
      rw [flT_eq, flatD_eq, List.map_cons, h2.1]
      exact ⟨rfl, fun x hx => by
        rcases List.mem_cons.1 hx with rfl | hx
        · exact Nat.le_refl _
        · have := h2.2 x hx; omega⟩
    refine ⟨h1, fun l => ?_⟩
    induction l with
    | nil => intro _ _; simp [flTs, flatDs]
    | cons x r ihr =>
      intro d h
      rw [szs] at h
      have a1 := h1 x d (by omega)
      have a2 := ihr d (by omega)
      rw [flTs, flatDs, List.map_append, a1.1, a2.1]
      exact ⟨rfl, fun y hy => (List.mem_append.1 hy).elim (a1.2 y) (a2.2 y)⟩
theorem flatD_snd (t : VT) (d : Nat) : (flatD t d).map Prod.snd = flT t := ((flatD_n t.sz).1 t d (Nat.le_refl _)).1
theorem chkR_pos : ∀ (l : List (Nat × VT)) (seen : List St) (i : Nat), (∀ x ∈ l, 1 ≤ x.1) → chkR seen l = chk2 seen (i + 1) (l.map Prod.snd)
  | [], _, _, _ => rfl
  | x :: r, seen, i, h => by
    have hx := h x (List.mem_cons_self)
    have hk : keyB x.1 x.2.k = keyB (i + 1) x.2.k := (by unfold keyB; rw [if_neg (by omega), if_neg (by omega)])
    rw [chkR, List.map_cons, chk2, hk, chkR_pos r _ (i + 1) (fun y hy => h y (List.mem_cons_of_mem _ hy))]
theorem chkR_flat (t : VT) : chkR [] (flatD t 0) = chk2 [] 0 (flT t) := by
  have h2 := (flatD_n (szs t.ks)).2 t.ks 1 (Nat.le_refl _)
  rw [flatD_eq, flT_eq, chkR, chk2, chkR_pos _ _ 0 h2.2, h2.1]
theorem BnA.flat {t : VT} (h : BnA t) : ∀ x ∈ flT t, BnT x := fun x hx => by
  rw [← flatD_snd t 0] at hx
  obtain ⟨y, hy, rfl⟩ := List.mem_map.1 hx
  exact h y hy
def kO (x : VT × Value × Value) : St := x.1.k
theorem infoSk : (Try.prog.info? 23).map (fun i => (i.zero, i.size, i.bytes)) = some (some (.agg #[.int .i64 0, .int .i64 0]), 2, 16) := by kernel_rfl
/-- What stands in Check's loop. -/
structure CkS (w1 : World) (t : VT) (L : List (VT × Value × Value)) (W : World) (v : Value) (i : Nat) : Prop where
  row : OwnSt w1.heap.size W v ((L.take i).map kO)
  bel : Below w1.heap.size w1 W
  eq : chk2 [] 0 (flT t) = chk2 ((L.take i).map kO) i ((flT t).drop i)
  nn : ∃ g c, v = .slice (some ⟨g, 0, none⟩) i c
theorem CkS.next {w1 : World} {t : VT} {L : List (VT × Value × Value)} {W W' : World} {v : Value} {i : Nat} (h : CkS w1 t L W v i) (hb : Below W.heap.size W W') : CkS w1 t L W' v i := ⟨h.row.below hb, h.bel.trans (hb.mono h.bel.size), h.eq, h.nn⟩
theorem CkS.at {w1 : World} {t : VT} {L : List (VT × Value × Value)} {W : World} {v : Value} {i : Nat} (h : CkS w1 t L W v i) (hL : L.map Prod.fst = flT t) (hi : i < L.length) : chk2 [] 0 (flT t) = if keyB i L[i].1.k = false then 2 else if hasS ((L.take i).map kO) L[i].1.k = true then 5 else if chkN L[i].1 ≠ 0 then chkN L[i].1 else chk2 ((L.take (i + 1)).map kO) (i + 1) ((flT t).drop (i + 1)) := by
  have h1 := h.eq
  have hj : i < (flT t).length := (by rw [← hL, List.length_map]; exact hi)
  have he : (flT t)[i] = L[i].1 := (by simp only [← hL, List.getElem_map])
  rw [List.drop_eq_getElem_cons hj, chk2, he] at h1
  rw [List.take_succ_eq_append_getElem hi, List.map_append]
  exact h1

theorem ckCells {w1 W : World} {g i : Nat} {a b : Value} {P : Prop} (hb : Below w1.heap.size w1 W) (h : g < w1.heap.size ∧ w1.cell? ⟨g, i * 6, none⟩ = some a ∧ w1.cell? ⟨g, i * 6 + 1, none⟩ = some b ∧ P) : W.cell? ⟨g, i * 6, none⟩ = some a ∧ W.cell? ⟨g, i * 6 + 1, none⟩ = some b := ⟨(hb.cell (p := ⟨g, i * 6, none⟩) h.1).trans h.2.1, (hb.cell (p := ⟨g, i * 6 + 1, none⟩) h.1).trans h.2.2.1⟩
theorem ckCells6 {w1 W : World} {g i : Nat} {a b c d e f : Value} (hb : Below w1.heap.size w1 W) (h : g < w1.heap.size ∧ w1.cell? ⟨g, i * 6, none⟩ = some a ∧ w1.cell? ⟨g, i * 6 + 1, none⟩ = some b ∧ w1.cell? ⟨g, i * 6 + 2, none⟩ = some c ∧ w1.cell? ⟨g, i * 6 + 3, none⟩ = some d ∧ w1.cell? ⟨g, i * 6 + 4, none⟩ = some e ∧ w1.cell? ⟨g, i * 6 + 5, none⟩ = some f) : W.cell? ⟨g, i * 6, none⟩ = some a ∧ W.cell? ⟨g, i * 6 + 1, none⟩ = some b ∧ W.cell? ⟨g, i * 6 + 2, none⟩ = some c ∧ W.cell? ⟨g, i * 6 + 3, none⟩ = some d ∧ W.cell? ⟨g, i * 6 + 4, none⟩ = some e ∧ W.cell? ⟨g, i * 6 + 5, none⟩ = some f :=
  ⟨(hb.cell (p := ⟨g, i * 6, none⟩) h.1).trans h.2.1, (hb.cell (p := ⟨g, i * 6 + 1, none⟩) h.1).trans h.2.2.1, (hb.cell (p := ⟨g, i * 6 + 2, none⟩) h.1).trans h.2.2.2.1, (hb.cell (p := ⟨g, i * 6 + 3, none⟩) h.1).trans h.2.2.2.2.1, (hb.cell (p := ⟨g, i * 6 + 4, none⟩) h.1).trans h.2.2.2.2.2.1, (hb.cell (p := ⟨g, i * 6 + 5, none⟩) h.1).trans h.2.2.2.2.2.2⟩

theorem ckCells0 {w1 W : World} {g : Nat} {a b : Value} {P : Prop} (hb : Below w1.heap.size w1 W) (h : g < w1.heap.size ∧ w1.cell? ⟨g, 0, none⟩ = some a ∧ w1.cell? ⟨g, 1, none⟩ = some b ∧ P) : W.cell? ⟨g, 0, none⟩ = some a ∧ W.cell? ⟨g, 1, none⟩ = some b := ⟨(hb.cell (p := ⟨g, 0, none⟩) h.1).trans h.2.1, (hb.cell (p := ⟨g, 1, none⟩) h.1).trans h.2.2.1⟩
theorem ckCells60 {w1 W : World} {g : Nat} {a b c d e f : Value} (hb : Below w1.heap.size w1 W) (h : g < w1.heap.size ∧ w1.cell? ⟨g, 0, none⟩ = some a ∧ w1.cell? ⟨g, 1, none⟩ = some b ∧ w1.cell? ⟨g, 2, none⟩ = some c ∧ w1.cell? ⟨g, 3, none⟩ = some d ∧ w1.cell? ⟨g, 4, none⟩ = some e ∧ w1.cell? ⟨g, 5, none⟩ = some f) : W.cell? ⟨g, 0, none⟩ = some a ∧ W.cell? ⟨g, 1, none⟩ = some b ∧ W.cell? ⟨g, 2, none⟩ = some c ∧ W.cell? ⟨g, 3, none⟩ = some d ∧ W.cell? ⟨g, 4, none⟩ = some e ∧ W.cell? ⟨g, 5, none⟩ = some f :=
  ⟨(hb.cell (p := ⟨g, 0, none⟩) h.1).trans h.2.1, (hb.cell (p := ⟨g, 1, none⟩) h.1).trans h.2.2.1, (hb.cell (p := ⟨g, 2, none⟩) h.1).trans h.2.2.2.1, (hb.cell (p := ⟨g, 3, none⟩) h.1).trans h.2.2.2.2.1, (hb.cell (p := ⟨g, 4, none⟩) h.1).trans h.2.2.2.2.2.1, (hb.cell (p := ⟨g, 5, none⟩) h.1).trans h.2.2.2.2.2.2⟩

end Go.Proofs.Ytngglnlphlembaa
