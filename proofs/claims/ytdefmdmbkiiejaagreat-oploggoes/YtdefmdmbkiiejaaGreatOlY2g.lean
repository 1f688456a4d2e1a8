/- What All does. -/
import Derived.Test.YtdefmdmbkiiejaaGreatOlY
namespace Go.Proofs.YtdefmdmbkiiejaaGreat
open Go.RowKit Go.Shelf
set_option linter.unusedVariables false
set_option linter.unusedSimpArgs false

attribute [local go_sem] Oper.semAt_some

def KeepsG (S : Nat → Prop) (A C : World) : Prop := KeepsS S A C ∧ ∀ k, S k → k < A.heap.size
theorem KeepsG.below {S : Nat → Prop} {A C C' : World} (h : KeepsG S A C) (hb : Below C.heap.size C C') : KeepsG S A C' := ⟨h.1.trans (KeepsS.of_below hb (fun k hk => Nat.lt_of_lt_of_le (h.2 k hk) h.1.1)), h.2⟩
theorem KeepsG.row {S : Nat → Prop} {A C C' : World} {N : Nat} {e : TypeId} {size : Nat} {v : Value} {n : Nat} {xs : List Value} (h : KeepsG S A C) (ho : C.ownsRow N e size v n xs) (hg : C.grownBy C' v.ownBlock) (hN : ∀ k, S k → k < N) : KeepsG S A C' :=
  ⟨h.1.trans (KeepsS.of_grown hg (fun k hk => Nat.lt_of_lt_of_le (h.2 k hk) h.1.1) (fun r er hS => by have := (World.ownsRow.lt ho r er).1; have := hN r hS; omega)), h.2⟩
theorem KeepsG.set {S : Nat → Prop} {A C : World} {b i : Nat} {v : Value} (h : KeepsG S A C) (hb : ¬ S b) : KeepsG S A (C.setCell ⟨b, i, none⟩ v) :=
  ⟨h.1.trans ⟨by simp [World.setCell], fun k hk => RowKit.Below.heap_setCell _ _ _ _ (fun (e : k = b) => hb (e ▸ hk))⟩, h.2⟩
theorem keepsG_t {S : Nat → Prop} {A B C : World} (h : KeepsG S A B) (k : KeepsG S B C) : KeepsG S A C := ⟨h.1.trans k.1, h.2⟩
/-- A row's cells, in a block. -/
def RowHas (W : World) (b : Nat) (cs : List Value) : Prop := b < W.heap.size ∧ ∀ j u, cs[j]? = some u → W.cell? ((⟨b, 0, none⟩ : Addr).add j) = some u
theorem RowHas.below {W W' : World} {b : Nat} {cs : List Value} (h : RowHas W b cs) (hb : Below W.heap.size W W') : RowHas W' b cs := ⟨Nat.lt_of_lt_of_le h.1 hb.size, fun j u hj => by
  have := h.2 j u hj
  rw [Addr.add_lit] at this ⊢
  exact (hb.cell (p := ⟨b, 0 + j, none⟩) h.1).trans this⟩
theorem RowHas.new (W : World) (cs : List Value) (t : TypeId) : RowHas (W.alloc (.cells cs.toArray t)) W.heap.size cs := ⟨by simp, fun j u hj => by
  rw [Addr.add_lit, cell_of_row _ _ _ _ _ _ (heap_alloc_new W (.cells cs.toArray t))]
  simpa using hj⟩
theorem lackE_get {F : Nat → Prop} {w : World} {lb : Nat} {room : Int} {L : List Ch} {mb : Nat} {ord : Value} {own : List Value} {D : List (Ch × Value)} (h : LogIs F w lb room L mb ord own D) (hs : Srt L) {kn : List Int} {k : Nat} (hk : k < (lackE D L kn).length) :
    ∃ (c : Ch) (a0 : Option Addr) (c0 : Nat), (lackE D L kn)[k] = (c, .slice a0 c.deps.length c0) ∧ OwnI 0 w (.slice a0 c.deps.length c0) c.deps ∧ Sized c ∧ c.deps.length ≤ 17592186044416 ∧ (∀ j, (Value.slice a0 c.deps.length c0).ownBlock = some j → F j) ∧ (lackL L kn).take (k + 1) = (lackL L kn).take k ++ [c] ∧ c ∈ L := by
  have hkl : k < (lackL L kn).length := by rw [← lackE_length D]; exact hk
  have hc : (lackL L kn)[k] ∈ L := (List.mem_filter.1 (List.getElem_mem hkl)).1
  have hm := List.mem_of_find?_eq_some (getD_of h hs hc)
  obtain ⟨h1, h2, h3⟩ := h.hdep _ hm
  have h4 := h.fd _ hm
  obtain ⟨a0, c0, e⟩ := h1.form
  simp only at e h1 h4
  rw [e] at h1 h4
  refine ⟨(lackL L kn)[k], a0, c0, ?_, h1, h2, h3, h4, List.take_succ_eq_append_getElem hkl, hc⟩
  rw [← e]
  simp [lackE]

end Go.Proofs.YtdefmdmbkiiejaaGreat
