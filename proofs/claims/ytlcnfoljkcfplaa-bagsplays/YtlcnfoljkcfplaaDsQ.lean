/- What stands while calls are played. -/
import Derived.Test.YtlcnfoljkcfplaaDsP
namespace Go.Proofs.Ytlcnfoljkcfplaa
open Go.RowKit Go.Shelf
set_option linter.unusedVariables false
set_option linter.unusedSimpArgs false

theorem isBG_of {w W : World} {F : Nat → Prop} {v : Value} {p : List UInt8} (h : IsB w v p) (hb : Below w.heap.size w W) (hF : ∀ k, F k → w.heap.size ≤ k) : IsBG (fun k => k < W.heap.size ∧ ¬ F k) W v p := by
  obtain ⟨a, cap, e, h1, h2, h3⟩ := h
  refine ⟨a, cap, e, h1, h2, ?_⟩
  by_cases hp : p = []
  · exact .inl hp
  · obtain ⟨b, o, e2, hB⟩ := h3.resolve_left hp
    have h0 : 0 < p.length := by cases p with | nil => exact absurd rfl hp | cons x l => simp
    have hlt : b < w.heap.size := cellB_lt (hB 0 h0)
    exact .inr ⟨b, o, e2, ⟨Nat.lt_of_lt_of_le hlt hb.size, fun q => by have := hF b q; omega⟩, fun i hi => (hb.cell (p := ⟨b, o + i, none⟩) hlt).trans (hB i hi)⟩
/-- The net, the document's list, the box of what the document has. -/
structure PyS (w : World) (yb nb n : Nat) (F G : Nat → Prop) (B : Nat → List Pc) (v yv : Value) (L : List Sn) (W : World) : Prop where
  net : NetOk F W nb n B
  fhi : ∀ k, F k → w.heap.size ≤ k
  nfy : ¬ F yb
  doc : SFirm G W v L
  ap : ∀ k, F k → ¬ G k
  gy : ¬ G yb
  rel : Rel n B L
  ybx : W.heap[yb]? = some (.cells #[.int .i64 (n : Int), yv] 30)
  yhi : w.heap.size ≤ yb
  bel : Below w.heap.size w W
section
variable {w W W' : World} {yb nb n : Nat} {F G : Nat → Prop} {B : Nat → List Pc} {v yv : Value} {L : List Sn} {fr to : Int} {e : Ending}
theorem PyS.below (h : PyS w yb nb n F G B v yv L W) (hb : Below W.heap.size W W') : PyS w yb nb n F G B v yv L W' := ⟨h.net.below hb, h.fhi, h.nfy, h.doc.below hb, h.ap, h.gy, h.rel, (hb.block _ (row_lt h.ybx)).trans h.ybx, h.yhi, h.bel.trans (hb.mono h.bel.size)⟩
theorem PyS.set2 (h : PyS w yb nb n F G B v yv L W) {zb : Nat} {v0 v1 : Value} (h1 : ¬ F zb) (h2 : ¬ G zb) (h3 : yb ≠ zb) (h4 : w.heap.size ≤ zb) : PyS w yb nb n F G B v yv L ((W.setCell ⟨zb, 0, none⟩ v0).setCell ⟨zb, 1, none⟩ v1) := by
  have hk : ∀ q, q ≠ zb → ((W.setCell ⟨zb, 0, none⟩ v0).setCell ⟨zb, 1, none⟩ v1).heap[q]? = W.heap[q]? := fun q hq => (RowKit.Below.heap_setCell _ _ _ _ hq).trans (RowKit.Below.heap_setCell _ _ _ _ hq)
  exact ⟨h.net.keep ⟨by simp [World.setCell], fun q hq => hk q (fun e => h1 (e ▸ hq))⟩, h.fhi, h.nfy, h.doc.set2 h2, h.ap, h.gy, h.rel, (hk yb h3).trans h.ybx, h.yhi, (h.bel.setCell (p := ⟨zb, 0, none⟩) h4 _).setCell (p := ⟨zb, 1, none⟩) h4 _⟩
theorem PyS.setY (h : PyS w yb nb n F G B v yv L W) : PyS w yb nb n F G B v v L ((W.setCell ⟨yb, 0, none⟩ (.int .i64 (n : Int))).setCell ⟨yb, 1, none⟩ v) := by
  have hk : ∀ q, q ≠ yb → ((W.setCell ⟨yb, 0, none⟩ (.int .i64 (n : Int))).setCell ⟨yb, 1, none⟩ v).heap[q]? = W.heap[q]? := fun q hq => (RowKit.Below.heap_setCell _ _ _ _ hq).trans (RowKit.Below.heap_setCell _ _ _ _ hq)
  exact ⟨h.net.keep ⟨by simp [World.setCell], fun q hq => hk q (fun e => h.nfy (e ▸ hq))⟩, h.fhi, h.nfy, h.doc.set2 h.gy, h.ap, h.gy, h.rel, row_set2 h.ybx, h.yhi, (h.bel.setCell (p := ⟨yb, 0, none⟩) h.yhi _).setCell (p := ⟨yb, 1, none⟩) h.yhi _⟩
/-- What a played call leaves. -/
def Plyd (w : World) (yb nb n : Nat) (F G : Nat → Prop) (v yv : Value) (L : List Sn) (fr to : Int) (W : World) (e : Ending) (W' : World) : Prop := ∃ v' B' F' L' G', e = .returned (.tuple #[.agg #[.int .i64 (n : Int), v'], .bool true]) ∧ PyS w yb nb n F' G' B' v' yv L' W' ∧ L'.length ≤ L.length + 1 ∧ Touch F W W' ∧ Else fr to L L' ∧ SFirm G W' v L ∧ (∀ b, b < W.heap.size → ¬ F b → ¬ F' b) ∧ (∀ b, b < W.heap.size → ¬ G b → ¬ G' b)
theorem PyS.played (h : PyS w yb nb n F G B v yv L W) (hp : PlayP F G nb n L fr to W e W') : Plyd w yb nb n F G v yv L fr to W e W' := by
  obtain ⟨v', B', F', L', G', he, h1, h2, h3, h4, h5, h6, h7, h8, h9⟩ := hp
  have hy := row_lt h.ybx
  have hN : ∀ k, F' k → w.heap.size ≤ k := fun k q => (h2 k q).elim (h.fhi k) (fun q => Nat.le_trans h.bel.size q)
  refine ⟨v', B', F', L', G', he, ⟨h1, hN, fun q => (h2 _ q).elim h.nfy (fun q => by omega), h4, h6, fun q => (h5 _ q).elim h.gy (fun q => by omega), h7, row_touch h.ybx h3 h.nfy, h.yhi, h.bel.trans (h3.below h.fhi h.bel.size)⟩, h8, h3, h9, h.doc.keep h3.size (fun k q => h3.block k (h.doc.1 k q) (fun q2 => h.ap k q2 q)), fun b hb q q2 => (h2 b q2).elim q (fun q => by omega), fun b hb q q2 => (h5 b q2).elim q (fun q => by omega)⟩
theorem PyS.play (h : PyS w yb nb n F G B v yv L W) (hl : L.length ≤ 4000) (a : Ac) (pv : Value) (hp : IsB w pv a.p) (ha : AcOk a) :
    Calls Try.prog 9 #[.pointer (some ⟨nb, 0, none⟩), .agg #[.int .i64 (n : Int), v], .agg #[.int .i64 a.kind, .int .i64 a.fr, .int .i64 a.to, .int .i64 a.i, .int .i64 a.at_, .int .i64 a.mask, pv]] W fun e W' => Plyd w yb nb n F G v yv L a.fr a.to W e W' :=
  (play_any F G nb n B v L a.kind a.fr a.to a.i a.at_ a.mask pv a.p W h.net h.doc h.ap h.rel hl (isBG_of hp h.bel h.fhi) ha.1 ha.2).mono fun e W' q => h.played q
theorem PyS.start (hN : NetOk F W nb n noB) (hF : ∀ j, F j → w.heap.size ≤ j) (hb : Below w.heap.size w W) : PyS w W.heap.size nb n F (fun _ => False) noB (.slice none 0 0) (.slice none 0 0) [] (W.alloc (.cells #[.int .i64 (n : Int), .slice none 0 0] 30)) := by
  have h1 : Below W.heap.size W (W.alloc (.cells #[.int .i64 (n : Int), .slice none 0 0] 30)) := (Below.refl _ _).alloc (Nat.le_refl _) _
  exact ⟨hN.below h1, hF, fun q => Nat.lt_irrefl _ (hN.lt _ q), SFirm.empty (fun k q => q.elim), fun _ _ q => q, fun q => q, Rel.none n, heap_alloc_new _ _, hb.size, hb.trans (h1.mono hb.size)⟩
end
/-- The frames of a link that was left alone. -/
theorem link_pc {n : Nat} {B' : Nat → List Pc} {L L' : List Sn} {f t : Int} {k : Nat} (h : Rel n B' L') (he : linkL L' f t = linkL L f t) (hl : linkE n f t = 0) (hk : k < waitL L f t) :
    withE n B' f t (k : Int) = 0 ∧ peekE n L f t (k : Int) = 0 ∧ ∀ (j : Nat) (hj : j < L.length), placeL L f t (k : Int) = (j : Int) → (pcAt n B' f t (k : Int)).1 = L[j].p := by
  have hB : B' (plc n f t) = (linkL L f t).map pcOf := by rw [h.eq f t hl, he]
  have hw : withE n B' f t (k : Int) = 0 := by
    unfold withE
    rw [if_pos hl, if_pos ⟨by omega, by rw [hB, List.length_map, link_len]; omega⟩]
  rcases placeL_or L f t (k : Int) with ⟨_, h2⟩ | ⟨j, hj, h1, h2, h3, h4, h5⟩
  · omega
  · refine ⟨hw, ?_, fun j2 hj2 e => ?_⟩
    · unfold peekE
      rw [if_neg (by rw [hl]; simp), if_neg (by omega)]
    · have e2 : j2 = j := by rw [h1] at e; omega
      subst e2
      have hg := link_get f t L j2 hj2 h2
      rw [h4] at hg
      unfold pcAt
      rw [if_pos hw, hB]
      simp only [List.getD_eq_getElem?_getD, List.getElem?_map, hg]
      rfl
theorem link_wait {n : Nat} {B' : Nat → List Pc} {L L' : List Sn} {f t : Int} (h : Rel n B' L') (he : linkL L' f t = linkL L f t) (hl : linkE n f t = 0) : (if linkE n f t = 0 then ((B' (plc n f t)).length : Int) else 0) = (waitL L f t : Int) := by
  rw [if_pos hl, h.eq f t hl, he, List.length_map]
  rfl

end Go.Proofs.Ytlcnfoljkcfplaa
