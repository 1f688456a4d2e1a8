/- What stands in RgaRuns: the row, the document's slots, two runs of slots that are built, and that go off. -/
import Derived.Test.YtfgkdbidgbpobaaRnA
namespace Go.Proofs.Ytfgkdbidgbpobaa
open Go.RowKit
set_option linter.unusedVariables false
set_option linter.unusedSimpArgs false

theorem modU (x : Int) (m : Int) (h0 : 0 < m) (h1 : m ≤ 4096) : ∃ f : Nat, (f : Int) < m ∧ wrap64 ((IntKind.u64.wrap x).tmod m) = (f : Int) := by
  have hx : 0 ≤ IntKind.u64.wrap x := by show 0 ≤ x % 18446744073709551616; omega
  rw [Int.tmod_eq_emod_of_nonneg hx]
  have h2 : 0 ≤ IntKind.u64.wrap x % m := Int.emod_nonneg _ (by omega)
  have h3 : IntKind.u64.wrap x % m < m := Int.emod_lt_of_pos _ (by omega)
  refine ⟨(IntKind.u64.wrap x % m).toNat, by omega, ?_⟩
  rw [Int.toNat_of_nonneg h2]
  unfold wrap64
  omega
theorem hide9 {p : Prop} (h : p) : Hid p := h
def sliceN : Value → Nat
  | .slice _ n _ => n
  | _ => 0
/-- The row and the document's slots, the boxes of what came in and of the slot behind which both put theirs. -/
structure RnS (w : World) (b11 rb : Nat) (F : Nat → Prop) (dv : Value) (Lx L : List Sl) (tc : List Value) (fr : St) (U : World) : Prop where
  two : BxC w.heap.size tc 44 U
  frb : BxC b11 (stCells fr) 33 U
  row : RowOk F U rb Lx
  hi : ∀ j, F j → w.heap.size < j
  nf : ¬ F b11
  b1 : w.heap.size < b11
  doc : LsN (fun j => ¬ F j ∧ j ≠ b11) U dv L
  bel : Below w.heap.size w U
section
variable {w U U' : World} {b11 rb : Nat} {F : Nat → Prop} {dv : Value} {Lx L : List Sl} {tc : List Value} {fr : St} {m : Sl} {e : Ending}
theorem RnS.below (h : RnS w b11 rb F dv Lx L tc fr U) (hb : Below U.heap.size U U') : RnS w b11 rb F dv Lx L tc fr U' := ⟨h.two.below hb, h.frb.below hb, h.row.below hb, h.hi, h.nf, h.b1, h.doc.below hb, h.bel.trans (hb.mono h.bel.size)⟩
theorem RnS.setFr (h : RnS w b11 rb F dv Lx L tc fr U) (x : St) : RnS w b11 rb F dv Lx L tc x (U.setRow b11 (stCells x).toArray) := by
  have hg := grown_setRow U b11 (stCells x).toArray
  have hk : ∀ k, k < U.heap.size → k ≠ b11 → (U.setRow b11 (stCells x).toArray).heap[k]? = U.heap[k]? := fun k hk hne => hg.block k hk fun e => hne (Option.some.inj e)
  have hz : (U.setRow b11 (stCells x).toArray).heap.size = U.heap.size := by simp
  have hb1 := h.b1
  refine ⟨h.two.keep (hk _ h.two.lt (by omega)), setRow_same h.frb, h.row.keep ⟨by rw [hz]; exact Nat.le_refl _, fun k hF => hk k (h.row.lt k hF) fun e => h.nf (e ▸ hF)⟩, h.hi, h.nf, h.b1, ?_, h.bel.grown hg h.bel.size (fun k e => by have := Option.some.inj e; omega)⟩
  refine ⟨?_, h.doc.sm⟩
  obtain ⟨a, cap, e, h1, h2, h3⟩ := h.doc.ls
  refine ⟨a, cap, e, h1, h2, h3.imp id ?_⟩
  rintro ⟨b, o, ea, hG, hlt, hr⟩
  exact ⟨b, o, ea, hG, by rw [hz]; exact hlt, fun i hi j u hj => (World.cell?_of_block (w := U) (hk b hlt hG.2)).trans (hr i hi j u hj)⟩
end
/-- Two runs that are built, and the box of the slot behind which the next one is put. -/
structure RnB (Wb : World) (mv yv : Value) (DM DY : List Sl) (b17 : Nat) (af : St) (U : World) : Prop where
  bel : Below Wb.heap.size Wb U
  mo : OwnSl Wb.heap.size U mv DM
  yo : OwnSl Wb.heap.size U yv DY
  ms : ∃ g c, mv = .slice (some ⟨g, 0, none⟩) DM.length c
  ys : ∃ g c, yv = .slice (some ⟨g, 0, none⟩) DY.length c
  ne : ∀ k, mv.ownBlock = some k → yv.ownBlock ≠ some k
  ab : BxC b17 (stCells af) 33 U
  lo : Wb.heap.size ≤ b17
section
variable {Wb U U' : World} {mv yv : Value} {DM DY : List Sl} {b17 : Nat} {af : St} {x : Sl}
theorem RnB.below (h : RnB Wb mv yv DM DY b17 af U) (hb : Below U.heap.size U U') : RnB Wb mv yv DM DY b17 af U' := ⟨h.bel.trans (hb.mono h.bel.size), h.mo.below hb, h.yo.below hb, h.ms, h.ys, h.ne, h.ab.below hb, h.lo⟩
theorem RnB.swap (h : RnB Wb mv yv DM DY b17 af U) : RnB Wb yv mv DY DM b17 af U := ⟨h.bel, h.yo, h.mo, h.ys, h.ms, fun k e1 e2 => h.ne k e2 e1, h.ab, h.lo⟩
theorem RnB.apart (h : RnB Wb mv yv DM DY b17 af U) : ∀ k, mv.ownBlock = some k → k ≠ b17 := fun k e e2 => by
  obtain ⟨cur, hc⟩ := ownsRow_type h.mo k e
  have h2 := h.ab
  unfold BxC at h2
  rw [← e2, hc] at h2
  injection h2 with h3
  injection h3 with _ h4
  exact absurd h4 (by decide)
theorem RnB.push (h : RnB Wb mv yv DM DY b17 af U) {g c : Nat} (ho : U'.ownsRow Wb.heap.size 36 4 (.slice (some ⟨g, 0, none⟩) (DM.length + 1) c) (DM.length + 1) (flatE slCells DM ++ slCells x)) (hg : U.grownBy U' mv.ownBlock) (hat : (Value.slice (some ⟨g, 0, none⟩) (DM.length + 1) c).ownBlock = mv.ownBlock ∨ (Value.slice (some ⟨g, 0, none⟩) (DM.length + 1) c).ownBlock = some U.heap.size) :
    RnB Wb (.slice (some ⟨g, 0, none⟩) (DM.length + 1) c) yv (DM ++ [x]) DY b17 af U' := by
  refine ⟨h.bel.grown hg h.bel.size (fun k e => (h.mo.lt k e).1), OwnE.snoc rfl ho, h.yo.grown2 hg (fun k e e2 => h.ne k e2 e), ⟨g, c, by simp⟩, h.ys, fun k e e2 => ?_, h.ab.keep (hg.block _ h.ab.lt fun e => h.apart _ e.symm rfl), h.lo⟩
  rcases hat with h1 | h1
  · exact h.ne k (h1 ▸ e) e2
  · rw [e] at h1
    have := Option.some.inj h1
    have := (h.yo.lt k e2).2
    omega
theorem RnB.setAf (h : RnB Wb mv yv DM DY b17 af U) (y : St) : RnB Wb mv yv DM DY b17 y (U.setRow b17 (stCells y).toArray) := by
  have hg := grown_setRow U b17 (stCells y).toArray
  exact ⟨h.bel.grown hg h.bel.size (fun k e => by have := Option.some.inj e; have := h.lo; omega), h.mo.grown2 hg (fun k e e2 => h.apart k e (Option.some.inj e2).symm), h.yo.grown2 hg (fun k e e2 => h.swap.apart k e (Option.some.inj e2).symm), h.ms, h.ys, h.ne, setRow_same h.ab, h.lo⟩
end
theorem RnB.new (w : World) (fr : St) {rep c : Int} : RnB w (.slice (some ⟨w.heap.size, 0, none⟩) 0 0) (.slice (some ⟨w.heap.size + 1, 0, none⟩) 0 0) (chn rep c fr 0) [] (w.heap.size + 1 + 1) fr (((w.alloc (.cells #[] 36)).alloc (.cells #[] 36)).alloc (.cells (stCells fr).toArray 33)) := by
  obtain ⟨w1, e1⟩ : ∃ X, X = w.alloc (.cells #[] 36) := ⟨_, rfl⟩
  obtain ⟨w2, e2⟩ : ∃ X, X = w1.alloc (.cells #[] 36) := ⟨_, rfl⟩
  have z1 : w1.heap.size = w.heap.size + 1 := by rw [e1]; simp
  have z2 : w2.heap.size = w.heap.size + 1 + 1 := by rw [e2, ← z1]; simp
  rw [← e1, ← e2]
  have b1 : Below w.heap.size w w1 := by rw [e1]; exact (Below.refl _ _).alloc (Nat.le_refl _) _
  have b2 : Below w1.heap.size w1 w2 := by rw [e2]; exact (Below.refl _ _).alloc (Nat.le_refl _) _
  have b3 : Below w2.heap.size w2 (w2.alloc (.cells (stCells fr).toArray 33)) := (Below.refl _ _).alloc (Nat.le_refl _) _
  have o1 : OwnSl w.heap.size w1 (.slice (some ⟨w.heap.size, 0, none⟩) 0 0) [] := by rw [e1]; exact (BuR.new w).own
  have o2 : OwnSl w1.heap.size w2 (.slice (some ⟨w1.heap.size, 0, none⟩) 0 0) [] := by rw [e2]; exact (BuR.new w1).own
  rw [z1] at o2
  refine ⟨(b1.trans (b2.mono b1.size)).trans (b3.mono (by omega)), (o1.below b2).below b3, (o2.below b3).low (by omega), ⟨_, _, rfl⟩, ⟨_, _, rfl⟩, fun k h1 h2 => ?_, ?_, by omega⟩
  · have h3 := Option.some.inj h1
    have h4 := Option.some.inj h2
    simp only at h3 h4
    omega
  · rw [← z2]; exact BxC.new _ _ _
/-- Two runs that go off. -/
structure RnT (w : World) (b11 rb : Nat) (F : Nat → Prop) (dv : Value) (Lx L : List Sl) (tc : List Value) (fr : St) (mv yv : Value) (DM DY : List Sl) (U : World) : Prop where
  st : RnS w b11 rb F dv Lx L tc fr U
  m : LsN (fun j => ¬ F j) U mv DM
  y : LsN (fun j => ¬ F j) U yv DY
section
variable {w U U' : World} {b11 rb : Nat} {F : Nat → Prop} {dv mv yv mv' : Value} {Lx L DM DY DX : List Sl} {tc : List Value} {fr : St} {m : Sl} {e : Ending}
theorem RnT.below (h : RnT w b11 rb F dv Lx L tc fr mv yv DM DY U) (hb : Below U.heap.size U U') : RnT w b11 rb F dv Lx L tc fr mv yv DM DY U' := ⟨h.st.below hb, h.m.below hb, h.y.below hb⟩
theorem RnT.swap (h : RnT w b11 rb F dv Lx L tc fr mv yv DM DY U) : RnT w b11 rb F dv Lx L tc fr yv mv DY DM U := ⟨h.st, h.y, h.m⟩
theorem RnT.did (h : RnT w b11 rb F dv Lx L tc fr mv yv DM DY U) (hd : AddP F U rb Lx m e U') : ∃ F', RnT w b11 rb F' dv (addL Lx m) L tc fr mv yv DM DY U' := by
  obtain ⟨_, F', ht, hsub, hnew, hto⟩ := hd
  have hn : ∀ b, b < U.heap.size → ¬ F b → ¬ F' b := fun b hb h1 h2 => (hnew b h2).elim h1 (fun h3 => by omega)
  have hls : ∀ v D, LsN (fun j => ¬ F j) U v D → LsN (fun j => ¬ F' j) U' v D := fun v D hv => (hv.lo.touch hto (fun k hk => hk.1)).mono fun k hk => hn k hk.2 hk.1
  refine ⟨F', ⟨h.st.two.touch hto (fun hF => Nat.lt_irrefl _ (h.st.hi _ hF)), h.st.frb.touch hto h.st.nf, ht, fun j hj => ?_, hn _ h.st.frb.lt h.st.nf, h.st.b1, ?_, h.st.bel.trans (hto.below (fun j hj => Nat.le_of_lt (h.st.hi j hj)) h.st.bel.size)⟩, hls _ _ h.m, hls _ _ h.y⟩
  · rcases hnew j hj with h1 | h1
    · exact h.st.hi j h1
    · exact Nat.lt_of_lt_of_le h.st.two.lt h1
  · exact (h.st.doc.lo.touch hto (fun k hk => hk.1.1)).mono fun k hk => ⟨hn k hk.2 hk.1.1, hk.1.2⟩
theorem RnT.drop (h : RnT w b11 rb F dv Lx L tc fr mv yv DM DY U) (hm : LsN (fun j => ¬ F j) U mv' DX) : RnT w b11 rb F dv Lx L tc fr mv' yv DX DY U := ⟨h.st, hm, h.y⟩
end
/-- The rest of a list behind its first. -/
theorem LsN.tail {G : Nat → Prop} {U : World} {b o c : Nat} {x : Sl} {D : List Sl} (h : LsN G U (.slice (some ⟨b, o, none⟩) (D.length + 1) c) (x :: D)) : 1 ≤ c ∧ (∀ j u, (slCells x)[j]? = some u → U.cell? ⟨b, o + j, none⟩ = some u) ∧ ∃ b' o', (if c = 1 then some (⟨b, o, none⟩ : Addr) else some ⟨b, o + 4, none⟩) = some ⟨b', o', none⟩ ∧ LsN G U (.slice (some ⟨b', o', none⟩) D.length (c - 1)) D := by
  obtain ⟨a, cap, e, h1, h2, h3⟩ := h.ls
  injection e with e1 e2 e3
  subst e1
  subst e3
  rcases h3 with h3 | ⟨b2, o2, ea, hG, hlt, hr⟩
  · cases h3
  cases ea
  simp only [List.length_cons] at h1 h2 hr
  refine ⟨by omega, fun j u hj => by have := hr 0 (by simp) j u hj; simpa using this, ?_⟩
  by_cases hc : c = 1
  · rw [if_pos hc]
    have hD : D = [] := List.eq_nil_of_length_eq_zero (by omega)
    subst hD
    exact ⟨b, o, rfl, LsE.nil _ _ _, b, o, c - 1, rfl⟩
  · rw [if_neg hc]
    refine ⟨b, o + 4, rfl, ⟨_, _, rfl, by omega, by omega, ?_⟩, b, o + 4, c - 1, rfl⟩
    refine .inr ⟨b, o + 4, rfl, hG, hlt, fun i hi j u hj => ?_⟩
    have := hr (i + 1) (by simpa using hi) j u hj
    rw [show o + 4 + i * 4 + j = o + (i + 1) * 4 + j by omega]
    exact this

theorem LsE.at_blk {G : Nat → Prop} {U : World} {b o c n : Nat} {x : Sl} {D : List Sl} (h : LsE slCells 4 G U (.slice (some ⟨b, o, none⟩) n c) (x :: D)) : b < U.heap.size ∧ G b := by
  obtain ⟨a, cap, e, h1, h2, h3⟩ := h
  injection e with e1 e2 e3
  subst e1
  rcases h3 with h3 | ⟨b2, o2, ea, hG, hlt, hr⟩
  · cases h3
  cases ea
  exact ⟨hlt, hG⟩
theorem ord_bound {L : List Sl} (h : GoodL L) {x : St} (hx : x ∈ ordL L) : 0 ≤ x.1 ∧ x.1 ≤ 1099511627776 := by
  obtain ⟨s, hs, rfl⟩ := hasL_iff.1 ((mem_ord h).1 hx)
  have h1 := h.ok s hs
  unfold okS at h1
  simp only [Bool.and_eq_true, decide_eq_true_eq] at h1
  have := h1.1
  omega

end Go.Proofs.Ytfgkdbidgbpobaa
