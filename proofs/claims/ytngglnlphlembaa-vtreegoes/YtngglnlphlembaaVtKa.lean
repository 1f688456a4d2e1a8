/- The program's Keys. -/
import Derived.Test.YtngglnlphlembaaVtV
import Derived.Deep.AppendLies
namespace Go.Proofs.Ytngglnlphlembaa
open Go.RowKit Go.Shelf
set_option linter.unusedVariables false
set_option linter.unusedSimpArgs false

attribute [local go_sem] Oper.semAt_some

theorem infoSk9 : (Try.prog.info? 23).map (fun i => (i.zero, i.size, i.bytes)) = some (some (.agg #[.int .i64 0, .int .i64 0]), 2, 16) := by kernel_rfl
theorem own_cells {B : Nat} {W : World} {v : Value} {D : List St} (h : OwnSt B W v D) {k : Nat} (hk : v.ownBlock = some k) : ∃ c, W.heap[k]? = some (.cells c 23) := by
  rcases h.2 with ⟨rfl, _⟩ | ⟨g, cap, cur, rfl, _, hc, _⟩
  · cases hk
  · injection hk with hk
    subst hk
    exact ⟨cur, hc⟩
theorem keepsFrom_own {B N : Nat} {W W' : World} {v : Value} {D : List St} (h : OwnSt N W v D) (hg : W.grownBy W' v.ownBlock) : KeepsFrom B W W' := ⟨hg.size, fun k o _ hk ho => (hg.block k (Array.getElem?_eq_some_iff.1 hk).1 (fun e => by
  obtain ⟨c, hc⟩ := own_cells h e.symm
  rw [hk] at hc
  injection hc with hc
  subst hc
  cases ho)).trans hk⟩
theorem KpN.own {S : Nat → Prop} {N : Nat} {W W' : World} {v : Value} {D : List St} (h : OwnSt N W v D) (hS : ∀ k, S k → k < N) (hW : ∀ k, S k → k < W.heap.size) (hg : W.grownBy W' v.ownBlock) : KpN S N W W' := ⟨hg.size, fun k hk => by
  rcases hk with hk | ⟨hN, c, f, hc⟩
  · exact hg.block k (hW k hk) (fun e => by have := (OwnE.lt h k e.symm).1; have := hS k hk; omega)
  · refine hg.block k (Array.getElem?_eq_some_iff.1 hc).1 (fun e => ?_)
    obtain ⟨c2, h2⟩ := own_cells h e.symm
    rw [hc] at h2
    injection h2 with h2
    injection h2 with _ h3 _
    exact absurd h3 (by decide)⟩
theorem KpN.setB {S : Nat → Prop} {N : Nat} {A : World} {b i : Nat} {v : Value} (hb : ¬ S b) (hN : b < N) : KpN S N A (A.setCell ⟨b, i, none⟩ v) := KpN.set hb hN
/-- What stands in a round of Keys. -/
structure KyB (w W2 : World) (S : Nat → Prop) (ob : Nat) (v : Value) (D : List St) (W U : World) : Prop where
  rn : RnS w W2 S (B1 ob v 82) U
  ow : OwnSt W2.heap.size U v D
  kf : KeepsFrom W2.heap.size W U
  kn : KpN S W2.heap.size W U
section
variable {w W2 W U U' : World} {S : Nat → Prop} {ob : Nat} {v v' : Value} {D D' : List St}
theorem KyB.below (h : KyB w W2 S ob (v) (D) W U) (hb : Below U.heap.size U U') : KyB w W2 S ob (v) (D) W U' := ⟨h.rn.below hb, OwnE.below h.ow hb, h.kf.trans (keepsFrom_below hb), h.kn.trans (KpN.of_below hb fun k q => Nat.lt_of_lt_of_le (h.rn.sl k q) h.rn.kp.1)⟩
theorem RnS.own (h : RnS w W2 S (B1 ob v 82) U) (ho : OwnSt W2.heap.size U v D) (hg : U.grownBy U' v.ownBlock) : RnS w W2 S (B1 ob v 82) U' := by
  have hN : ∀ j, v.ownBlock = some j → W2.heap.size ≤ j := fun j e => (OwnE.lt ho j e).1
  refine ⟨fun b u t e => ?_, h.bel.grown hg h.bel.size (fun j e => by have := hN j e; have := h.le; omega), h.kp.trans ⟨hg.size, fun k q => hg.block k (Nat.lt_of_lt_of_le (h.sl k q) h.kp.1) (fun e => by have := hN k e.symm; have := h.sl k q; omega)⟩, h.sl, h.ns, h.le⟩
  have h1 := h.box b u t e
  exact (hg.block b (row_lt h1) (fun e2 => by have := hN b e2.symm; have := (h.ns b u t e).2.2; omega)).trans h1
theorem KyB.push (h : KyB w W2 S ob (v) (D) W U) (hg : U.grownBy U' v.ownBlock) (ho : OwnSt W2.heap.size U' v' D') : KyB w W2 S ob (v') (D') W (U'.setCell ⟨ob, 0, none⟩ v') := by
  have hns := h.rn.ns ob v 82 (B1.at _ _ _)
  have h9 := (h.rn.own h.ow hg).set (B1.at _ _ _) v'
  rw [B1.set] at h9
  refine ⟨h9, OwnE.keep ho fun k e => RowKit.Below.heap_setCell _ _ _ _ (by have := (OwnE.lt ho k e).1; show k ≠ ob; omega), (h.kf.trans (keepsFrom_own h.ow hg)).trans (keepsFrom_set _ _ _), (h.kn.trans (KpN.own h.ow h.rn.sl (fun k q => Nat.lt_of_lt_of_le (h.rn.sl k q) h.rn.kp.1) hg)).trans (KpN.set hns.1 hns.2.2)⟩
end

end Go.Proofs.Ytngglnlphlembaa
