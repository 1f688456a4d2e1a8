/- Lists of changes that lie in blocks of a set: they stay where those blocks stay. -/
import Derived.Test.YthndgmnckpimmaaCaN
namespace Go.Proofs.Ythndgmnckpimmaa
open Go.RowKit
set_option linter.unusedVariables false
set_option linter.unusedSimpArgs false

def RowIn (S : Nat → Prop) (W : World) (a : Option Addr) (d : List Int) : Prop := d = [] ∨ ∃ b o, a = some ⟨b, o, none⟩ ∧ S b ∧ IntsAt W b o d
theorem RowIn.kept {S : Nat → Prop} {A B : World} {a : Option Addr} {d : List Int} (h : RowIn S A a d) (hb : KeepsS S A B) : RowIn S B a d :=
  h.imp id fun ⟨b, o, e, hs, hr⟩ => ⟨b, o, e, hs, fun i hi => (hb.cell (p := ⟨b, o + i, none⟩) hs).trans (hr i hi)⟩
theorem RowIn.isI {S : Nat → Prop} {W : World} {a : Option Addr} {d : List Int} {c : Nat} (h : RowIn S W a d) (hc : d.length ≤ c) (hl : d.length ≤ 17592186044416) : IsI W (.slice a d.length c) d :=
  ⟨a, c, rfl, hc, hl, h.imp id fun ⟨b, o, e, _, hr⟩ => ⟨b, o, e, hr⟩⟩
/-- A clock's value, whose row lies in a block of G. -/
def IsG (G : Nat → Prop) (w : World) (dv : Value) (ds : List Int) : Prop := ∃ (a : Option Addr) (cap : Nat), dv = .slice a ds.length cap ∧ ds.length ≤ cap ∧ ds.length ≤ 17592186044416 ∧ RowIn G w a ds
theorem IsG.isI {G : Nat → Prop} {w : World} {dv : Value} {ds : List Int} (h : IsG G w dv ds) : IsI w dv ds := by
  obtain ⟨a, cap, rfl, h1, h2, h3⟩ := h
  exact h3.isI h1 h2
theorem IsG.keep {G : Nat → Prop} {w w' : World} {dv : Value} {ds : List Int} (h : IsG G w dv ds) (hk : KeepsS G w w') : IsG G w' dv ds := by
  obtain ⟨a, cap, e, h1, h2, h3⟩ := h
  exact ⟨a, cap, e, h1, h2, h3.kept hk⟩
theorem IsG.mono {G G' : Nat → Prop} {w : World} {dv : Value} {ds : List Int} (h : IsG G w dv ds) (hG : ∀ k, G k → G' k) : IsG G' w dv ds := by
  obtain ⟨a, cap, e, h1, h2, h3⟩ := h
  exact ⟨a, cap, e, h1, h2, h3.imp id fun ⟨b, o, e, hs, hr⟩ => ⟨b, o, e, hG b hs, hr⟩⟩
theorem IsG.own {G : Nat → Prop} {B : Nat} {w : World} {dv : Value} {ds : List Int} (h : OwnI B w dv ds) (hl : ds.length ≤ 17592186044416) (hG : ∀ k, B ≤ k → k < w.heap.size → G k) : IsG G w dv ds := by
  have h0 := h
  rcases h.2 with ⟨rfl, hn⟩ | ⟨g, cap, cur, rfl, hg, hc, hcap, rest⟩
  · have e : ds = [] := List.eq_nil_of_length_eq_zero hn
    subst e
    exact ⟨none, 0, rfl, Nat.le_refl _, by simp, .inl rfl⟩
  · refine ⟨_, cap, rfl, hcap, hl, .inr ⟨g, 0, rfl, hG g hg (Array.getElem?_eq_some_iff.1 hc).1, fun i hi => ?_⟩⟩
    have := World.ownsRow.cellAt h0 i (by omega)
    rw [show 0 + i = i by omega, this]
    simp [cellsI, hi]
/-- Changes that lie in blocks of G. -/
def HFirm (G : Nat → Prop) (w : World) (v : Value) (L : List Ch) : Prop :=
  (∀ k, G k → k < w.heap.size) ∧ ∃ (a : Option Addr) (cap : Nat), v = .slice a L.length cap ∧ L.length ≤ cap ∧ L.length ≤ 281474976710656 ∧
    (L = [] ∨ ∃ b o, a = some ⟨b, o, none⟩ ∧ G b ∧ ∀ i (h : i < L.length), ∃ dv, (∀ j u, (chCells L[i] dv)[j]? = some u → w.cell? ⟨b, o + i * 13 + j, none⟩ = some u) ∧ IsG G w dv L[i].deps ∧ Sized L[i])
section
variable {G G' : Nat → Prop} {w w' : World} {v : Value} {L : List Ch}
theorem HFirm.isH (h : HFirm G w v L) : IsH w v L := by
  obtain ⟨_, a, cap, e, h1, h2, h3⟩ := h
  refine ⟨a, cap, e, h1, h2, h3.imp id fun ⟨b, o, e2, _, hr⟩ => ⟨b, o, e2, fun i hi => ?_⟩⟩
  obtain ⟨dv, h4, h5, h6⟩ := hr i hi
  exact ⟨dv, h4, h5.isI, h6⟩
theorem HFirm.keep (h : HFirm G w v L) (hk : KeepsS G w w') : HFirm G w' v L := by
  obtain ⟨h0, a, cap, e, h1, h2, h3⟩ := h
  refine ⟨fun k hG => Nat.lt_of_lt_of_le (h0 k hG) hk.1, a, cap, e, h1, h2, h3.imp id fun ⟨b, o, e2, hb, hr⟩ => ⟨b, o, e2, hb, fun i hi => ?_⟩⟩
  obtain ⟨dv, h4, h5, h6⟩ := hr i hi
  exact ⟨dv, fun j u hj => (hk.cell (p := ⟨b, o + i * 13 + j, none⟩) hb).trans (h4 j u hj), h5.keep hk, h6⟩
theorem HFirm.below (h : HFirm G w v L) (hb : Below w.heap.size w w') : HFirm G w' v L := h.keep (KeepsS.of_below hb h.1)
theorem HFirm.mono (h : HFirm G w v L) (hG : ∀ k, G k → G' k) (hl : ∀ k, G' k → k < w.heap.size) : HFirm G' w v L := by
  obtain ⟨h0, a, cap, e, h1, h2, h3⟩ := h
  refine ⟨hl, a, cap, e, h1, h2, h3.imp id fun ⟨b, o, e2, hb, hr⟩ => ⟨b, o, e2, hG b hb, fun i hi => ?_⟩⟩
  obtain ⟨dv, h4, h5, h6⟩ := hr i hi
  exact ⟨dv, h4, h5.mono hG, h6⟩
theorem HFirm.nil (w : World) : HFirm (fun _ => False) w (.slice none 0 0) [] := ⟨fun _ h => h.elim, none, 0, rfl, Nat.le_refl _, by simp, .inl rfl⟩
/-- One of them. -/
theorem HFirm.one (h : HFirm G w v L) : ∃ (a : Option Addr) (cap : Nat), v = .slice a L.length cap ∧ L.length ≤ cap ∧ ∀ i (hi : i < L.length), ∃ b o a2 e2, a = some ⟨b, o, none⟩ ∧ IsG G w (.slice a2 L[i].deps.length e2) L[i].deps ∧ Sized L[i] ∧ ∀ W', KeepsS G w W' → ∀ j u, (chCells L[i] (.slice a2 L[i].deps.length e2))[j]? = some u → W'.cell? ⟨b, o + i * 13 + j, none⟩ = some u := by
  obtain ⟨h0, a, cap, e, h1, h2, h3⟩ := h
  refine ⟨a, cap, e, h1, fun i hi => ?_⟩
  obtain ⟨b, o, rfl, hb, hr⟩ := h3.resolve_left (by intro e; subst e; simp at hi)
  obtain ⟨dv, h4, h5, h6⟩ := hr i hi
  obtain ⟨a2, e2, rfl, q⟩ := h5
  exact ⟨b, o, a2, e2, rfl, ⟨a2, e2, rfl, q⟩, h6, fun W' hk j u hj => (hk.cell (p := ⟨b, o + i * 13 + j, none⟩) hb).trans (h4 j u hj)⟩
end
/-- A row of changes that the call made behind its box, whose clocks are old ones of G, or own copies. -/
structure PutB (G : Nat → Prop) (w : World) (v : Value) (E : List (Ch × Value)) (U : World) : Prop where
  own : OwnH (w.heap.size + 1) U v E
  dep : ∀ x ∈ E, (IsG G U x.2 x.1.deps ∨ OwnI (w.heap.size + 1) U x.2 x.1.deps) ∧ Sized x.1 ∧ x.1.deps.length ≤ 17592186044416
  bel : Below w.heap.size w U
  gl : ∀ k, G k → k < w.heap.size
section
variable {G : Nat → Prop} {w : World} {v ov : Value} {E : List (Ch × Value)} {U U' : World}
theorem PutB.below (h : PutB G w v E U) (hb : Below U.heap.size U U') : PutB G w v E U' :=
  ⟨h.own.below hb, fun x hx => ⟨(h.dep x hx).1.imp (fun q => q.keep (KeepsS.of_below hb (fun k hk => Nat.lt_of_lt_of_le (h.gl k hk) h.bel.size))) (fun q => q.below hb), (h.dep x hx).2⟩, h.bel.trans (hb.mono h.bel.size), h.gl⟩
theorem PutB.push (h : PutB G w ov E U) {c : Ch} {dv v : Value} (hown : U'.ownsRow (w.heap.size + 1) 35 13 v (E.length + 1) (flatH E ++ chCells c dv)) (hg : U.grownBy U' ov.ownBlock) (hd : IsG G U dv c.deps ∨ OwnI (w.heap.size + 1) U dv c.deps) (hs : Sized c ∧ c.deps.length ≤ 17592186044416) :
    PutB G w v (E ++ [(c, dv)]) U' := by
  have hrow : ∀ j, ov.ownBlock = some j → w.heap.size + 1 ≤ j := fun j e => (World.ownsRow.lt h.own j e).1
  have dkeep : ∀ (d : Value) (l : List Int), (IsG G U d l ∨ OwnI (w.heap.size + 1) U d l) → (IsG G U' d l ∨ OwnI (w.heap.size + 1) U' d l) := fun d l hq => hq.imp
    (fun q => q.keep (KeepsS.of_grown hg (fun k hk => Nat.lt_of_lt_of_le (h.gl k hk) h.bel.size) (fun r e hS => by have := hrow r e; have := h.gl r hS; omega)))
    (fun q => OwnI.keepF q fun k e => hg.block k (World.ownsRow.lt q k e).2 (fun e2 => ownsRow_apart q h.own (by decide) k e e2.symm))
  refine ⟨OwnH.snoc hown, fun x hx => ?_, h.bel.grown hg h.bel.size (fun j e => by have := hrow j e; omega), h.gl⟩
  rcases List.mem_append.1 hx with hx | hx
  · exact ⟨dkeep _ _ (h.dep x hx).1, (h.dep x hx).2⟩
  · rw [List.mem_singleton] at hx
    subst hx
    exact ⟨dkeep _ _ hd, hs⟩
theorem PutB.firm (h : PutB G w v E U) (hl : E.length ≤ 281474976710656) : HFirm (fun k => G k ∨ (w.heap.size ≤ k ∧ k < U.heap.size)) U v (E.map Prod.fst) := by
  have h0 := h.own
  refine ⟨fun k hk => hk.elim (fun q => Nat.lt_of_lt_of_le (h.gl k q) h.bel.size) (fun q => q.2), ?_⟩
  rcases h.own.2 with ⟨rfl, hn⟩ | ⟨g, cap, cur, rfl, hg, hc, hcap, rest⟩
  · have e : E = [] := List.eq_nil_of_length_eq_zero hn
    subst e
    exact ⟨none, 0, rfl, Nat.le_refl _, by simp, .inl rfl⟩
  · refine ⟨_, cap, by simp, by simpa using hcap, by simpa using hl, .inr ⟨g, 0, rfl, .inr ⟨by omega, (Array.getElem?_eq_some_iff.1 hc).1⟩, fun i hi => ?_⟩⟩
    have hi' : i < E.length := by simpa using hi
    rw [show (E.map Prod.fst)[i] = E[i].1 by simp]
    have hd := h.dep _ (List.getElem_mem hi')
    refine ⟨E[i].2, fun j u hj => ?_, ?_, hd.2.1⟩
    · have hj2 : j < 13 := (List.getElem?_eq_some_iff.1 hj).1
      rw [show 0 + i * 13 + j = i * 13 + j by omega]
      exact (World.ownsRow.cellAt h0 (i * 13 + j) (by omega)).trans (flatH_get E i hi' j u hj)
    · rcases hd.1 with q | q
      · exact q.mono fun k hk => .inl hk
      · exact IsG.own q hd.2.2 fun k h1 h2 => .inr ⟨by omega, h2⟩
end
theorem KeptC.grownP {w W W' : World} {cs : List Value} {row : Option Nat} (h : KeptC w w.heap.size cs W) (hg : W.grownBy W' row) (hr : ∀ k, row = some k → w.heap.size + 1 ≤ k) : KeptC w w.heap.size cs W' := by
  have hb : W'.heap[w.heap.size]? = W.heap[w.heap.size]? := hg.block _ h.2.1 (fun e => by have := hr _ e.symm; omega)
  refine ⟨fun i u hu => ?_, Nat.lt_of_lt_of_le h.2.1 hg.size, h.2.2.grown hg h.2.2.size (fun j e => by have := hr j e; omega)⟩
  rw [← h.1 i u hu]
  exact World.cell?_of_block hb
/-- A row of changes that the call made itself, whose clocks are old ones of G, or own copies. -/
structure PutA (G : Nat → Prop) (w : World) (v : Value) (E : List (Ch × Value)) (U : World) : Prop where
  own : OwnH w.heap.size U v E
  dep : ∀ x ∈ E, (IsG G U x.2 x.1.deps ∨ OwnI w.heap.size U x.2 x.1.deps) ∧ Sized x.1 ∧ x.1.deps.length ≤ 17592186044416
  bel : Below w.heap.size w U
  gl : ∀ k, G k → k < w.heap.size
section
variable {G : Nat → Prop} {w : World} {v ov : Value} {E : List (Ch × Value)} {U U' : World}
theorem PutA.below (h : PutA G w v E U) (hb : Below U.heap.size U U') : PutA G w v E U' :=
  ⟨h.own.below hb, fun x hx => ⟨(h.dep x hx).1.imp (fun q => q.keep (KeepsS.of_below hb (fun k hk => Nat.lt_of_lt_of_le (h.gl k hk) h.bel.size))) (fun q => q.below hb), (h.dep x hx).2⟩, h.bel.trans (hb.mono h.bel.size), h.gl⟩
theorem PutA.push (h : PutA G w ov E U) {c : Ch} {dv v : Value} (hown : U'.ownsRow w.heap.size 35 13 v (E.length + 1) (flatH E ++ chCells c dv)) (hg : U.grownBy U' ov.ownBlock) (hd : IsG G U dv c.deps ∨ OwnI w.heap.size U dv c.deps) (hs : Sized c ∧ c.deps.length ≤ 17592186044416) :
    PutA G w v (E ++ [(c, dv)]) U' := by
  have hrow : ∀ j, ov.ownBlock = some j → w.heap.size ≤ j := fun j e => (World.ownsRow.lt h.own j e).1
  have dkeep : ∀ (d : Value) (l : List Int), (IsG G U d l ∨ OwnI w.heap.size U d l) → (IsG G U' d l ∨ OwnI w.heap.size U' d l) := fun d l hq => hq.imp
    (fun q => q.keep (KeepsS.of_grown hg (fun k hk => Nat.lt_of_lt_of_le (h.gl k hk) h.bel.size) (fun r e hS => by have := hrow r e; have := h.gl r hS; omega)))
    (fun q => OwnI.keepF q fun k e => hg.block k (World.ownsRow.lt q k e).2 (fun e2 => ownsRow_apart q h.own (by decide) k e e2.symm))
  refine ⟨OwnH.snoc hown, fun x hx => ?_, h.bel.grown hg h.bel.size (fun j e => by have := hrow j e; omega), h.gl⟩
  rcases List.mem_append.1 hx with hx | hx
  · exact ⟨dkeep _ _ (h.dep x hx).1, (h.dep x hx).2⟩
  · rw [List.mem_singleton] at hx
    subst hx
    exact ⟨dkeep _ _ hd, hs⟩
theorem PutA.firm (h : PutA G w v E U) (hl : E.length ≤ 281474976710656) : HFirm (fun k => G k ∨ (w.heap.size ≤ k ∧ k < U.heap.size)) U v (E.map Prod.fst) := by
  have h0 := h.own
  refine ⟨fun k hk => hk.elim (fun q => Nat.lt_of_lt_of_le (h.gl k q) h.bel.size) (fun q => q.2), ?_⟩
  rcases h.own.2 with ⟨rfl, hn⟩ | ⟨g, cap, cur, rfl, hg, hc, hcap, rest⟩
  · have e : E = [] := List.eq_nil_of_length_eq_zero hn
    subst e
    exact ⟨none, 0, rfl, Nat.le_refl _, by simp, .inl rfl⟩
  · refine ⟨_, cap, by simp, by simpa using hcap, by simpa using hl, .inr ⟨g, 0, rfl, .inr ⟨by omega, (Array.getElem?_eq_some_iff.1 hc).1⟩, fun i hi => ?_⟩⟩
    have hi' : i < E.length := by simpa using hi
    rw [show (E.map Prod.fst)[i] = E[i].1 by simp]
    have hd := h.dep _ (List.getElem_mem hi')
    refine ⟨E[i].2, fun j u hj => ?_, ?_, hd.2.1⟩
    · have hj2 : j < 13 := (List.getElem?_eq_some_iff.1 hj).1
      rw [show 0 + i * 13 + j = i * 13 + j by omega]
      exact (World.ownsRow.cellAt h0 (i * 13 + j) (by omega)).trans (flatH_get E i hi' j u hj)
    · rcases hd.1 with q | q
      · exact q.mono fun k hk => .inl hk
      · exact IsG.own q hd.2.2 fun k h1 h2 => .inr ⟨by omega, h2⟩
end

end Go.Proofs.Ythndgmnckpimmaa
