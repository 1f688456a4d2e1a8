/- The document's list of what was sent, in blocks of a set; Peek. -/
import Derived.Test.YtlcnfoljkcfplaaDsC
namespace Go.Proofs.Ytlcnfoljkcfplaa
open Go.RowKit
set_option linter.unusedVariables false
set_option linter.unusedSimpArgs false

/-- Bytes that lie in a block of G. -/
def IsBG (G : Nat → Prop) (w : World) (v : Value) (p : List UInt8) : Prop := ∃ (a : Option Addr) (cap : Nat), v = .slice a p.length cap ∧ p.length ≤ cap ∧ p.length ≤ 281474976710656 ∧ (p = [] ∨ ∃ b o, a = some ⟨b, o, none⟩ ∧ G b ∧ BytesAt w b o p)
theorem IsBG.isB {G : Nat → Prop} {w : World} {v : Value} {p : List UInt8} (h : IsBG G w v p) : IsB w v p := by
  obtain ⟨a, cap, e, h1, h2, h3⟩ := h
  exact ⟨a, cap, e, h1, h2, h3.imp id fun ⟨b, o, e2, _, h4⟩ => ⟨b, o, e2, h4⟩⟩
theorem IsBG.keep {G : Nat → Prop} {w w' : World} {v : Value} {p : List UInt8} (h : IsBG G w v p) (hk : ∀ k, G k → w'.heap[k]? = w.heap[k]?) : IsBG G w' v p := by
  obtain ⟨a, cap, e, h1, h2, h3⟩ := h
  exact ⟨a, cap, e, h1, h2, h3.imp id fun ⟨b, o, e2, hG, h4⟩ => ⟨b, o, e2, hG, fun i hi => (World.cell?_of_block (hk b hG)).trans (h4 i hi)⟩⟩
theorem IsBG.mono {G G' : Nat → Prop} {w : World} {v : Value} {p : List UInt8} (h : IsBG G w v p) (hG : ∀ k, G k → G' k) : IsBG G' w v p := by
  obtain ⟨a, cap, e, h1, h2, h3⟩ := h
  exact ⟨a, cap, e, h1, h2, h3.imp id fun ⟨b, o, e2, hg, h4⟩ => ⟨b, o, e2, hG b hg, h4⟩⟩
/-- What was sent, in blocks of G. -/
def SFirm (G : Nat → Prop) (w : World) (v : Value) (L : List Sn) : Prop :=
  (∀ k, G k → k < w.heap.size) ∧ ∃ (a : Option Addr) (cap : Nat), v = .slice a L.length cap ∧ L.length ≤ cap ∧ L.length ≤ 281474976710656 ∧
    (L = [] ∨ ∃ b o, a = some ⟨b, o, none⟩ ∧ G b ∧ ∀ i (h : i < L.length), ∃ pv, (∀ j u, (snCells L[i] pv)[j]? = some u → w.cell? ⟨b, o + i * 4 + j, none⟩ = some u) ∧ IsBG G w pv L[i].p)
theorem SFirm.isS {G : Nat → Prop} {w : World} {v : Value} {L : List Sn} (h : SFirm G w v L) : IsS w v L := by
  obtain ⟨_, a, cap, e, h1, h2, h3⟩ := h
  refine ⟨a, cap, e, h1, h2, h3.imp id fun ⟨b, o, e2, _, h4⟩ => ⟨b, o, e2, fun i hi => ?_⟩⟩
  obtain ⟨pv, h5, h6⟩ := h4 i hi
  exact ⟨pv, h5, h6.isB⟩
theorem SFirm.keep {G : Nat → Prop} {w w' : World} {v : Value} {L : List Sn} (h : SFirm G w v L) (hs : w.heap.size ≤ w'.heap.size) (hk : ∀ k, G k → w'.heap[k]? = w.heap[k]?) : SFirm G w' v L := by
  obtain ⟨h0, a, cap, e, h1, h2, h3⟩ := h
  refine ⟨fun k q => Nat.lt_of_lt_of_le (h0 k q) hs, a, cap, e, h1, h2, h3.imp id fun ⟨b, o, e2, hG, h4⟩ => ⟨b, o, e2, hG, fun i hi => ?_⟩⟩
  obtain ⟨pv, h5, h6⟩ := h4 i hi
  exact ⟨pv, fun j u hj => (World.cell?_of_block (hk b hG)).trans (h5 j u hj), h6.keep hk⟩
theorem SFirm.below {G : Nat → Prop} {w w' : World} {v : Value} {L : List Sn} (h : SFirm G w v L) (hb : Below w.heap.size w w') : SFirm G w' v L := h.keep hb.size fun k q => hb.block k (h.1 k q)
theorem SFirm.mono {G G' : Nat → Prop} {w : World} {v : Value} {L : List Sn} (h : SFirm G w v L) (hG : ∀ k, G k → G' k) (hl : ∀ k, G' k → k < w.heap.size) : SFirm G' w v L := by
  obtain ⟨h0, a, cap, e, h1, h2, h3⟩ := h
  refine ⟨hl, a, cap, e, h1, h2, h3.imp id fun ⟨b, o, e2, hg, h4⟩ => ⟨b, o, e2, hG b hg, fun i hi => ?_⟩⟩
  obtain ⟨pv, h5, h6⟩ := h4 i hi
  exact ⟨pv, h5, h6.mono hG⟩
theorem SFirm.empty {G : Nat → Prop} {w : World} (h : ∀ k, G k → k < w.heap.size) : SFirm G w (.slice none 0 0) [] := ⟨h, none, 0, rfl, Nat.le_refl _, by simp, .inl rfl⟩
/-- Why a link has no frame number i. -/
def peekE (n : Nat) (L : List Sn) (f t i : Int) : Int := if linkE n f t ≠ 0 then linkE n f t else if placeL L f t i < 0 then 4 else 0
/-- What Peek leaves. -/
def PeekP (G : Nat → Prop) (n : Nat) (L : List Sn) (f t i : Int) (w' : World) (v' : Value) : Prop := (peekE n L f t i ≠ 0 → v' = .slice none 0 0) ∧ ∀ (j : Nat) (hj : j < L.length), peekE n L f t i = 0 → placeL L f t i = (j : Int) → IsBG G w' v' L[j].p

set_option maxRecDepth 100000 in
set_option maxHeartbeats 2000000 in
theorem refPeek_any (G : Nat → Prop) (n : Nat) (v : Value) (L : List Sn) (f t i : Int) (w : World) (h : SFirm G w v L) :
    Calls Try.prog 24 #[.agg #[.int .i64 (n : Int), v], .int .i64 f, .int .i64 t, .int .i64 i] w fun e w' => ∃ v', e = .returned (.tuple #[v', .int .i64 (peekE n L f t i)]) ∧ PeekP G n L f t i w' v' ∧ Below w.heap.size w w' := by
  obtain ⟨a1, c1, e1⟩ := h.isS.form
  subst e1
  obtain ⟨W0, eW⟩ : ∃ X, X = w.alloc (.cells #[.int .i64 (n : Int), .slice a1 L.length c1] 30) := ⟨_, rfl⟩
  have hb : Below w.heap.size w W0 := by rw [eW]; exact (Below.refl _ _).alloc (Nat.le_refl _) _
  have HB : Hid (Below w.heap.size w W0) := hb
  have HS : Hid (SFirm G W0 (.slice a1 L.length c1) L) := h.below hb
  have HX : Hid (W0.heap[w.heap.size]? = some (.cells #[.int .i64 (n : Int), .slice a1 L.length c1] 30)) := by rw [eW]; exact heap_alloc_new _ _
  have hcell : ∀ W, Below W0.heap.size W0 W → W.cell? ⟨w.heap.size, 0, none⟩ = some (.int .i64 (n : Int)) ∧ W.cell? ⟨w.heap.size, 1, none⟩ = some (.slice a1 L.length c1) := fun W hb => by
    have h2 : W.heap[w.heap.size]? = some (.cells #[.int .i64 (n : Int), .slice a1 L.length c1] 30) := (hb.block _ (row_lt HX.out)).trans HX.out
    exact ⟨by rw [cell_of_row _ _ _ _ _ _ h2]; rfl, by rw [cell_of_row _ _ _ _ _ _ h2]; rfl⟩
  have HC : Hid (∀ W, Below W0.heap.size W0 W → W.cell? ⟨w.heap.size, 0, none⟩ = some (.int .i64 (n : Int)) ∧ W.cell? ⟨w.heap.size, 1, none⟩ = some (.slice a1 L.length c1)) := hcell
  obtain ⟨x_0, x_1⟩ := hcell W0 (Below.refl _ _)
  clear h hb hcell
  go_enter Try.func24, Try.ntmps24
  rw [eW] at x_0 x_1
  go_wp2_with fail
  rw [← eW]
  clear eW x_0 x_1
  refine (refLink_any n _ f t _ ⟨_, _, _, rfl⟩).mono ?_
  rintro e w1 ⟨rfl, hb1⟩
  have HB1 : Hid (Below W0.heap.size W0 w1) := hb1
  obtain ⟨x_0, x_1⟩ := HC.out w1 hb1
  clear hb1
  by_cases hl : linkE n f t = 0
  · have hl2 := hl
    rw [hl2]
    clear hl2
    go_wp2_with fail
    refine (refPlace_any (n : Int) _ L f t i _ (HS.out.below HB1.out).isS).mono ?_
    rintro e w2 ⟨rfl, hb2⟩
    have hb02 : Below W0.heap.size W0 w2 := HB1.out.trans (hb2.mono HB1.out.size)
    have HB2 : Hid (Below W0.heap.size W0 w2) := hb02
    have HF2 : Hid (Below w.heap.size w w2) := HB.out.trans (hb02.mono HB.out.size)
    clear x_0 x_1
    obtain ⟨x_0, x_1⟩ := HC.out w2 hb02
    have HLk : Hid (linkE n f t = 0) := hl
    clear hb2 hb02 hl
    rcases placeL_or L f t i with ⟨h1, h2⟩ | ⟨j, hj, h1, h2, h3, h4, h5⟩
    · have HE : Hid (peekE n L f t i = 4) := by show _ = _; unfold peekE; rw [if_neg (by rw [HLk.out]; simp), if_pos (by omega)]
      have HE2 : Hid (PeekP G n L f t i w2 (.slice none 0 0)) := ⟨fun _ => rfl, fun j hj q => by rw [HE.out] at q; cases q⟩
      rw [h1]
      clear h1 h2
      go_wp2
      go_ret2
      exact ⟨_, by rw [HE.out]; rfl, HE2.out, HF2.out⟩
    · have HE : Hid (peekE n L f t i = 0) := by show _ = _; unfold peekE; rw [if_neg (by rw [HLk.out]; simp), if_neg (by omega)]
      have HP1 : Hid (placeL L f t i = (j : Int)) := h1
      obtain ⟨_, _, _, e, _, _, hrow⟩ := HS.out.below HB2.out
      simp only [Value.slice.injEq] at e
      obtain ⟨e1, _, e3⟩ := e
      subst e1 e3
      obtain ⟨b, o, eb, hG, hr⟩ := hrow.resolve_left (by intro e; rw [e] at hj; simp at hj)
      subst eb
      obtain ⟨pv, hc, hp⟩ := hr j hj
      have q2 := hc 2 _ rfl
      obtain ⟨a3, c3, e3, _⟩ := id hp
      subst e3
      have HE2 : Hid (PeekP G n L f t i w2 (.slice a3 L[j].p.length c3)) := ⟨fun q => absurd HE.out q, fun j2 hj2 _ q => by
        have e : j2 = j := by have := HP1.out; rw [q] at this; omega
        subst e
        exact hp⟩
      have j1 : (j : Int) < (L.length : Int) := by omega
      have j0 : ¬ (j : Int) < 0 := by omega
      have j2 : (0 : Int) ≤ (j : Int) := by omega
      have j3 : decide ((j : Int) < 0) = false := by simp
      rw [h1]
      clear h1 h2 h3 h4 h5 hrow hr hc hp
      go_wp2
      go_ret2
      exact ⟨_, by rw [HE.out]; rfl, HE2.out, HF2.out⟩
  · have g1 : (linkE n f t == 0) = false := by simp [hl]
    have HE : Hid (peekE n L f t i = linkE n f t) := by show _ = _; unfold peekE; rw [if_pos hl]
    have HNe : Hid (linkE n f t ≠ 0) := hl
    clear hl
    obtain ⟨le, ele⟩ : ∃ x, x = linkE n f t := ⟨_, rfl⟩
    rw [← ele] at g1 HE HNe ⊢
    have HLe : Hid (le = linkE n f t) := ele
    clear ele
    go_wp2_with fail
    refine (refLink_any n _ f t _ ⟨_, _, _, rfl⟩).mono ?_
    rintro e w2 ⟨rfl, hb2⟩
    have HF2 : Hid (Below w.heap.size w w2) := HB.out.trans ((HB1.out.trans (hb2.mono HB1.out.size)).mono HB.out.size)
    rw [← HLe.out]
    have HE2 : Hid (PeekP G n L f t i w2 (.slice none 0 0)) := ⟨fun _ => rfl, fun j hj q => by rw [HE.out] at q; exact absurd q HNe.out⟩
    clear hb2
    go_wp2
    go_ret2
    exact ⟨_, by rw [HE.out]; rfl, HE2.out, HF2.out⟩

end Go.Proofs.Ytlcnfoljkcfplaa
