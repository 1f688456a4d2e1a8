/- Rows of what was sent, of the call's own; appends of them. -/
import Derived.Test.YtlcnfoljkcfplaaDsD
import Derived.Deep.AppendLies
import Derived.Maps.AppendAt
namespace Go.Proofs.Ytlcnfoljkcfplaa
open Go.RowKit
set_option linter.unusedVariables false
set_option linter.unusedSimpArgs false

def flatS (D : List (Sn × Value)) : List Value := D.flatMap fun x => snCells x.1 x.2
theorem flatS_snoc (D : List (Sn × Value)) (x : Sn × Value) : flatS (D ++ [x]) = flatS D ++ snCells x.1 x.2 := by simp [flatS]
theorem flatS_length (D : List (Sn × Value)) : (flatS D).length = D.length * 4 := by
  induction D with
  | nil => rfl
  | cons x y ih =>
    have e : flatS (x :: y) = snCells x.1 x.2 ++ flatS y := rfl
    rw [e, List.length_append, ih]
    simp [snCells]
    omega
theorem flatS_get (D : List (Sn × Value)) : ∀ i (h : i < D.length) j u, (snCells D[i].1 D[i].2)[j]? = some u → (flatS D)[i * 4 + j]? = some u := by
  induction D with
  | nil => intro i h; simp at h
  | cons x y ih =>
    intro i h j u hj
    have e : flatS (x :: y) = snCells x.1 x.2 ++ flatS y := rfl
    have hx : (snCells x.1 x.2).length = 4 := rfl
    rw [e]
    match i with
    | 0 =>
      have hj' : (snCells x.1 x.2)[j]? = some u := hj
      rw [List.getElem?_append_left (by rw [Nat.zero_mul, Nat.zero_add]; exact (List.getElem?_eq_some_iff.1 hj').1), Nat.zero_mul, Nat.zero_add]
      exact hj'
    | i + 1 =>
      have := ih i (by simpa using h) j u hj
      rw [List.getElem?_append_right (by omega), hx, show (i + 1) * 4 + j - 4 = i * 4 + j by omega]
      exact this
/-- The call's own row of these changes, in a block from B on; their clocks lie, too. -/
def OwnS (B : Nat) (w : World) (v : Value) (D : List (Sn × Value)) : Prop := w.ownsRow B 76 4 v D.length (flatS D)
theorem OwnS.below {B : Nat} {w w' : World} {v : Value} {D : List (Sn × Value)} (h : OwnS B w v D) (hb : Below w.heap.size w w') : OwnS B w' v D := by
  refine ⟨h.1, ?_⟩
  rcases h.2 with hn | ⟨g, cap, cur, hv, hg, hc, rest⟩
  · exact .inl hn
  · refine .inr ⟨g, cap, cur, hv, hg, ?_, rest⟩
    have hlt : g < w.heap.size := (Array.getElem?_eq_some_iff.1 hc).1
    rw [hb.block g hlt]
    exact hc
theorem OwnS.nil0 (w : World) (B : Nat) : OwnS B w (.slice none 0 0) [] := World.ownsRow_nil _ _ _ _
theorem OwnS.form {B : Nat} {w : World} {v : Value} {D : List (Sn × Value)} (h : OwnS B w v D) : ∃ a cap, v = .slice a D.length cap := by
  rcases h.2 with ⟨rfl, hn⟩ | ⟨g, cap, cur, rfl, _⟩
  · exact ⟨none, 0, by rw [hn]⟩
  · exact ⟨_, cap, rfl⟩
theorem OwnS.snoc {B : Nat} {w : World} {v : Value} {D : List (Sn × Value)} {c : Sn} {dv : Value} (h : w.ownsRow B 76 4 v (D.length + 1) (flatS D ++ snCells c dv)) : OwnS B w v (D ++ [(c, dv)]) := by
  unfold OwnS
  rw [flatS_snoc]
  simpa using h
theorem infoSn : (Try.prog.info? 76).map (fun i => (i.zero, i.size, i.bytes)) = some (some (.agg #[.int .i64 0, .int .i64 0, .slice none 0 0, .bool false]), 4, 48) := by kernel_rfl

theorem wpList_appS {w : World} {ops : Array Oper} {rest : List Oper} {o : Oper} {a : Act} {Q : Exit → Act → World → Prop} (hgd : o.guard = none) (s x : Operand)
    (ho : o.op = .call { callee := .builtin .append, args := #[s, x], argTypes := #[28, 28] })
    (B : Nat) (ov : Value) (E : List (Sn × Value)) (hs : a.eval s = ov) (hown : OwnS B w ov E) (g0 : Nat) (c : Sn) (a0 : Option Addr) (n0 c0 : Nat) (hx : a.eval x = .slice (some ⟨g0, 0, none⟩) 1 1) (hc : w.heap[g0]? = some (.cells (snCells c (.slice a0 n0 c0)).toArray 76))
    (hl : E.length ≤ 4096) (hB : B ≤ w.heap.size)
    (h : ∀ g cap w', OwnS B w' (.slice (some ⟨g, 0, none⟩) (E.length + 1) cap) (E ++ [(c, .slice a0 n0 c0)]) → w.grownBy w' ov.ownBlock → (ov.ownBlock = some g ∨ g = w.heap.size) → g < w'.heap.size → wpList Try.prog ops Q rest (a.put o.dst (.slice (some ⟨g, 0, none⟩) (E.length + 1) cap)) w') :
    wpList Try.prog ops Q (o :: rest) a w := by
  obtain ⟨i0, hi, hz0, hz1, hz2⟩ := info_parts infoSn
  refine wpList_append_lies _ hgd s x 28 ho B 76 i0 (.agg #[.int .i64 0, .int .i64 0, .slice none 0 0, .bool false]) 4 48 Try.underlying28 hi hz0 hz1 hz2 rfl (by decide) ov E.length (flatS E) hs hown ⟨g0, 0, none⟩ 1 1 (snCells c (.slice a0 n0 c0)) hx rfl ?_ ?_ (by decide) (by unfold maxLen; omega) (by omega) hB _ rfl ?_
  · intro j u hj
    rw [Addr.add_lit, cell_of_row _ g0 _ _ _ _ hc]
    simpa using hj
  · intro u hu
    simp [snCells] at hu
    rcases hu with rfl | rfl | rfl | rfl <;> rfl
  · intro g cap w' h1 h2 h3 h4
    exact h g cap w' (OwnS.snoc h1) h2 h3 h4

theorem flatS_app (A B : List (Sn × Value)) : flatS (A ++ B) = flatS A ++ flatS B := by simp [flatS]
theorem wpList_appSs {w : World} {ops : Array Oper} {rest : List Oper} {o : Oper} {a : Act} {Q : Exit → Act → World → Prop} (hgd : o.guard = none) (s x : Operand)
    (ho : o.op = .call { callee := .builtin .append, args := #[s, x], argTypes := #[28, 28] })
    (B : Nat) (ov : Value) (E : List (Sn × Value)) (hs : a.eval s = ov) (hown : OwnS B w ov E) (b o0 : Nat) (m c : Nat) (E2 : List (Sn × Value)) (hx : a.eval x = .slice (some ⟨b, o0, none⟩) m c) (hm : E2.length = m)
    (hc : ∀ j u, (flatS E2)[j]? = some u → w.cell? ⟨b, o0 + j, none⟩ = some u) (hv : ∀ x ∈ E2, ∃ a n c, x.2 = .slice a n c) (hl : E.length + E2.length ≤ 8192) (hB : B ≤ w.heap.size)
    (h : ∀ v' w', OwnS B w' v' (E ++ E2) → w.grownBy w' ov.ownBlock → wpList Try.prog ops Q rest (a.put o.dst v') w') :
    wpList Try.prog ops Q (o :: rest) a w := by
  obtain ⟨i0, hi, hz0, hz1, hz2⟩ := info_parts infoSn
  subst hm
  refine wpList_append_own_at _ hgd s x 28 ho B 76 i0 (.agg #[.int .i64 0, .int .i64 0, .slice none 0 0, .bool false]) 4 48 Try.underlying28 hi hz0 hz1 hz2 rfl (by decide) ov E.length (flatS E) hs hown ⟨b, o0, none⟩ E2.length c (flatS E2) hx (flatS_length E2) ?_ ?_ (by unfold maxLen; omega) (by omega) hB ?_
  · intro j u hj
    rw [Addr.add_lit]
    exact hc j u hj
  · intro u hu
    obtain ⟨y, hy, hu⟩ := List.mem_flatMap.1 hu
    obtain ⟨a1, n1, c1, e1⟩ := hv y hy
    rw [e1] at hu
    simp [snCells] at hu
    rcases hu with rfl | rfl | rfl | rfl <;> rfl
  · intro v' w' h1 h2 _ _
    refine h v' w' ?_ h2
    unfold OwnS
    rw [flatS_app, List.length_append]
    exact h1

theorem SFirm.ofOwn {G G2 : Nat → Prop} {B : Nat} {U : World} {v : Value} {E : List (Sn × Value)} (h : OwnS B U v E) (hl : E.length ≤ 281474976710656) (hd : ∀ x ∈ E, IsBG G2 U x.2 x.1.p) (h2 : ∀ k, G2 k → G k) (hB : ∀ k, B ≤ k → k < U.heap.size → G k) (hG : ∀ k, G k → k < U.heap.size) : SFirm G U v (E.map Prod.fst) := by
  have h0 := h
  refine ⟨hG, ?_⟩
  rcases h.2 with ⟨rfl, hn⟩ | ⟨g, cap, cur, rfl, hg, hc, hcap, rest⟩
  · have e : E = [] := List.eq_nil_of_length_eq_zero hn
    subst e
    exact ⟨none, 0, rfl, Nat.le_refl _, by simp, .inl rfl⟩
  · refine ⟨_, cap, by simp, by simpa using hcap, by simpa using hl, .inr ⟨g, 0, rfl, hB g hg (Array.getElem?_eq_some_iff.1 hc).1, fun i hi => ?_⟩⟩
    have hi' : i < E.length := by simpa using hi
    rw [show (E.map Prod.fst)[i] = E[i].1 by simp]
    refine ⟨E[i].2, fun j u hj => ?_, (hd _ (List.getElem_mem hi')).mono h2⟩
    have hj2 : j < 4 := (List.getElem?_eq_some_iff.1 hj).1
    rw [show 0 + i * 4 + j = i * 4 + j by omega]
    exact (World.ownsRow.cellAt h0 (i * 4 + j) (by omega)).trans (flatS_get E i hi' j u hj)
/-- What lies at a list of G, as one row. -/
theorem SFirm.row {G : Nat → Prop} {w : World} {v : Value} {L : List Sn} (h : SFirm G w v L) (hL : L ≠ []) : ∃ (b o cap : Nat) (E : List (Sn × Value)), v = .slice (some ⟨b, o, none⟩) L.length cap ∧ L.length ≤ cap ∧ G b ∧ E.map Prod.fst = L ∧ (∀ x ∈ E, (∃ a n c, x.2 = .slice a n c) ∧ IsBG G w x.2 x.1.p) ∧ ∀ i u, (flatS E)[i]? = some u → w.cell? ⟨b, o + i, none⟩ = some u := by
  obtain ⟨h0, a, cap, e, h1, h2, h3⟩ := h
  obtain ⟨b, o, rfl, hb, hr⟩ := h3.resolve_left hL
  refine ⟨b, o, cap, ?_⟩
  have key : ∀ n, n ≤ L.length → ∃ E : List (Sn × Value), E.map Prod.fst = L.take n ∧ (∀ x ∈ E, (∃ a n c, x.2 = .slice a n c) ∧ IsBG G w x.2 x.1.p) ∧ ∀ i u, (flatS E)[i]? = some u → w.cell? ⟨b, o + i, none⟩ = some u := by
    intro n
    induction n with
    | zero => exact fun _ => ⟨[], by simp, fun x hx => by simp at hx, fun i u hu => by simp [flatS] at hu⟩
    | succ n ih =>
      intro hn
      obtain ⟨E, q1, q2, q3⟩ := ih (by omega)
      obtain ⟨dv, h4, h5⟩ := hr n (by omega)
      have hEl : E.length = n := by have := congrArg List.length q1; simp at this; omega
      refine ⟨E ++ [(L[n], dv)], ?_, fun x hx => ?_, fun i u hu => ?_⟩
      · rw [List.map_append, q1, List.take_succ_eq_append_getElem (by omega)]; rfl
      · rcases List.mem_append.1 hx with hx | hx
        · exact q2 x hx
        · rw [List.mem_singleton] at hx
          subst hx
          have h5' := h5
          obtain ⟨a3, c3, e3, _⟩ := h5
          exact ⟨⟨a3, _, c3, e3⟩, h5'⟩
      · rw [flatS_snoc] at hu
        by_cases hi : i < n * 4
        · rw [List.getElem?_append_left (by rw [flatS_length, hEl]; exact hi)] at hu
          exact q3 i u hu
        · rw [List.getElem?_append_right (by rw [flatS_length, hEl]; omega), flatS_length, hEl] at hu
          have := h4 (i - n * 4) u hu
          rwa [show o + n * 4 + (i - n * 4) = o + i by omega] at this
  obtain ⟨E, q1, q2, q3⟩ := key L.length (Nat.le_refl _)
  rw [List.take_length] at q1
  exact ⟨E, e, h1, hb, q1, q2, q3⟩
theorem IsBG.own {G : Nat → Prop} {B : Nat} {w : World} {v : Value} {p : List UInt8} (h : OwnB B w v p) (hl : p.length ≤ 281474976710656) (hG : ∀ k, B ≤ k → k < w.heap.size → G k) : IsBG G w v p := by
  have h0 := h
  rcases h.2 with ⟨rfl, hn⟩ | ⟨g, cap, cur, rfl, hg, hc, hcap, rest⟩
  · have e : p = [] := List.eq_nil_of_length_eq_zero hn
    subst e
    exact ⟨none, 0, rfl, Nat.le_refl _, by simp, .inl rfl⟩
  · refine ⟨_, cap, rfl, hcap, hl, .inr ⟨g, 0, rfl, hG g hg (Array.getElem?_eq_some_iff.1 hc).1, fun i hi => ?_⟩⟩
    have := World.ownsRow.cellAt h0 i (by omega)
    rw [show 0 + i = i by omega, this]
    simp [cellsB, hi]

end Go.Proofs.Ytlcnfoljkcfplaa
