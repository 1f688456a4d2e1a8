/- A list of changes that grows in a box, while other blocks stay. -/
import Derived.Test.YtckipepodohnpaaGreatOlX
import Derived.Test.YtckipepodohnpaaGreatCkA
namespace Go.Proofs.YtckipepodohnpaaGreat
open Go.RowKit Go.Shelf
set_option linter.unusedVariables false
set_option linter.unusedSimpArgs false

theorem cells_ne {W : World} {k : Nat} {cs : Array Value} {t : TypeId} {fr : Nat × Nat} (h : W.heap[k]? = some (.cells cs t fr)) {row : Option Nat} (hr : ∀ r, row = some r → ∃ o : Obj, W.heap[r]? = some o ∧ o.isCells = false) : row ≠ some k := fun e => by
  obtain ⟨o, h1, h2⟩ := hr k e
  rw [h] at h1
  cases h1
  cases h2
theorem ownsRow_own {W W' : World} {B : Nat} {e : TypeId} {size : Nat} {v : Value} {n : Nat} {xs : List Value} {row : Option Nat} (h : W.ownsRow B e size v n xs) (hg : W.grownBy W' row) (hr : ∀ r, row = some r → ∃ o : Obj, W.heap[r]? = some o ∧ o.isCells = false) : W'.ownsRow B e size v n xs :=
  ownsRow_keep h fun k ek => by
    obtain ⟨cur, hc⟩ := ownsRow_type h k ek
    exact hg.block k (Array.getElem?_eq_some_iff.1 hc).1 (fun e => cells_ne hc hr e.symm)
theorem row_own {W W' : World} {k : Nat} {cs : Array Value} {t : TypeId} {fr : Nat × Nat} {row : Option Nat} (h : W.heap[k]? = some (.cells cs t fr)) (hg : W.grownBy W' row) (hr : ∀ r, row = some r → ∃ o : Obj, W.heap[r]? = some o ∧ o.isCells = false) : W'.heap[k]? = some (.cells cs t fr) :=
  (hg.block k (Array.getElem?_eq_some_iff.1 h).1 (fun e => cells_ne h hr e.symm)).trans h

/-- The changes E lie in a row from block N on, their clocks, too; the row's value lies in the box b0; since W2 nothing of S has changed, since w nothing that lay there. -/
structure AllB (w W2 : World) (b0 : Nat) (S : Nat → Prop) (ov : Value) (E : List (Ch × Value)) (U : World) : Prop where
  box : Boxed U b0 22 ov
  own : OwnH W2.heap.size U ov E
  dep : ∀ x ∈ E, OwnI W2.heap.size U x.2 x.1.deps ∧ Sized x.1 ∧ x.1.deps.length ≤ 17592186044416
  bel : Below w.heap.size w U
  kp : KeepsH S W2 U
  b1 : w.heap.size ≤ b0
  b2 : b0 < W2.heap.size
  b3 : ¬ S b0
  b4 : w.heap.size ≤ W2.heap.size
section
variable {w W2 : World} {b0 : Nat} {S : Nat → Prop} {ov : Value} {E : List (Ch × Value)} {U U' : World}
theorem AllB.below (h : AllB w W2 b0 S ov E U) (hb : Below U.heap.size U U') : AllB w W2 b0 S ov E U' :=
  ⟨(hb.block b0 h.box.lt).trans h.box, h.own.below hb, fun x hx => ⟨(h.dep x hx).1.below hb, (h.dep x hx).2⟩, h.bel.trans (hb.mono h.bel.size), h.kp.below hb, h.b1, h.b2, h.b3, h.b4⟩
theorem AllB.size (h : AllB w W2 b0 S ov E U) : W2.heap.size ≤ U.heap.size := h.kp.1.1
theorem AllB.grown (h : AllB w W2 b0 S ov E U) {row : Option Nat} (hg : U.grownBy U' row) (hr : ∀ r, row = some r → W2.heap.size ≤ r ∧ ∃ o : Obj, U.heap[r]? = some o ∧ o.isCells = false) : AllB w W2 b0 S ov E U' := by
  have hr2 : ∀ r, row = some r → ∃ o : Obj, U.heap[r]? = some o ∧ o.isCells = false := fun r e => (hr r e).2
  refine ⟨row_own h.box hg hr2, ownsRow_own h.own hg hr2, fun x hx => ⟨ownsRow_own (h.dep x hx).1 hg hr2, (h.dep x hx).2⟩, h.bel.grown hg h.bel.size (fun j e => Nat.le_trans h.b4 (hr j e).1), ⟨h.kp.1.trans (KeepsS.of_grown hg (fun k hk => Nat.lt_of_lt_of_le (h.kp.2 k hk) h.size) (fun r e hS => by have := (hr r e).1; have := h.kp.2 r hS; omega)), h.kp.2⟩, h.b1, h.b2, h.b3, h.b4⟩
/-- Behind an append. -/
theorem AllB.push (h : AllB w W2 b0 S ov E U) {c : Ch} {dv v : Value} (hown : U'.ownsRow W2.heap.size 34 13 v (E.length + 1) (flatH E ++ chCells c dv)) (hg : U.grownBy U' ov.ownBlock) (ho : OwnI W2.heap.size U dv c.deps) (hs : Sized c ∧ c.deps.length ≤ 17592186044416) :
    AllB w W2 b0 S v (E ++ [(c, dv)]) (U'.setCell ⟨b0, 0, none⟩ v) := by
  have hrow : ∀ j, ov.ownBlock = some j → W2.heap.size ≤ j := fun j e => (World.ownsRow.lt h.own j e).1
  have hbx : Boxed U' b0 22 ov := h.box.kept hg (fun e => by have := hrow b0 e.symm; have := h.b2; omega)
  have hvb : ∀ j, v.ownBlock = some j → W2.heap.size ≤ j := fun j e => (World.ownsRow.lt hown j e).1
  have far : ∀ k, k ≠ b0 → (U'.setCell ⟨b0, 0, none⟩ v).heap[k]? = U'.heap[k]? := fun k hk => RowKit.Below.heap_setCell _ _ _ _ hk
  have dkeep : ∀ (d : Value) (l : List Int), OwnI W2.heap.size U d l → OwnI W2.heap.size (U'.setCell ⟨b0, 0, none⟩ v) d l := fun d l hd => OwnI.keepF hd fun k e => by
    have h1 := World.ownsRow.lt hd k e
    rw [far k (by have := h.b2; omega)]
    exact hg.block k h1.2 (fun e2 => ownsRow_apart hd h.own (by decide) k e e2.symm)
  refine ⟨hbx.set v, ?_, ?_, ?_, ⟨?_, h.kp.2⟩, h.b1, h.b2, h.b3, h.b4⟩
  · have h1 : OwnH W2.heap.size U' v (E ++ [(c, dv)]) := OwnH.snoc hown
    exact ownsRow_keep h1 fun k e => far k (by have := hvb k e; have := h.b2; omega)
  · intro x hx
    rcases List.mem_append.1 hx with hx | hx
    · exact ⟨dkeep _ _ (h.dep x hx).1, (h.dep x hx).2⟩
    · rw [List.mem_singleton] at hx
      subst hx
      exact ⟨dkeep _ _ ho, hs⟩
  · exact (h.bel.grown hg h.bel.size (fun j e => by have := hrow j e; have := h.b4; omega)).setCell (p := ⟨b0, 0, none⟩) h.b1 _
  · refine (h.kp.1.trans (KeepsS.of_grown hg (fun k hk => Nat.lt_of_lt_of_le (h.kp.2 k hk) h.size) (fun r e hS => by have := hrow r e; have := h.kp.2 r hS; omega))).trans ⟨by simp [World.setCell], fun k hk => far k (fun e => h.b3 (e ▸ hk))⟩
theorem AllB.isH (h : AllB w W2 b0 S ov E U) (hl : E.length ≤ 281474976710656) : IsH U ov (E.map Prod.fst) := OwnH.isH h.own hl (fun x hx => ⟨(h.dep x hx).1.isI (h.dep x hx).2.2, (h.dep x hx).2.1⟩)
/-- What is no cells and lies from N on stays where new memory is made, .. -/
theorem keepsFrom_below {B : Nat} {A C : World} (hb : Below A.heap.size A C) : KeepsFrom B A C := ⟨hb.size, fun k o _ hk _ => (hb.block k (Array.getElem?_eq_some_iff.1 hk).1).trans hk⟩
theorem keepsFrom_row {B : Nat} {A C : World} {e : TypeId} {size b : Nat} {v : Value} {n : Nat} {xs : List Value} (ho : A.ownsRow b e size v n xs) (hg : A.grownBy C v.ownBlock) : KeepsFrom B A C :=
  (KeepsOthers.of_grownBy hg (fun j o ej hj => by obtain ⟨cur, hc⟩ := ownsRow_type ho j ej; rw [hc] at hj; cases hj; rfl)).from B
theorem keepsFrom_set {B : Nat} (A : World) (p : Addr) (v : Value) : KeepsFrom B A (A.setCell p v) := (KeepsOthers.setCell A p v).from B
end
def KF (B : Nat) (A C : World) : Prop := KeepsFrom B A C
theorem KF.below {B : Nat} {A C C' : World} (h : KF B A C) (hb : Below C.heap.size C C') : KF B A C' := KeepsFrom.trans h (keepsFrom_below hb)
theorem wpListIn_store_new {F : Fence} {n : Nat} {P : Program} {ops : Array Oper} {rest : List Oper} {op : Oper} {a : Act} {w : World} {Q : Exit → Act → World → Prop} (hgd : op.guard = none) (ty : TypeId) (x y : Operand) (ho : op.op = .store ty x y)
    (c c' : Array Value) (hx : a.eval x = .pointer (some ⟨w.heap.size, 0, none⟩)) (hy : a.eval y = .agg c')
    (hi : (P.info? ty).map (·.size) = some c'.size) (hs : c.size = c'.size) (h1 : c'.all (·.oneCell') = true)
    (h : wpListIn F n P ops Q rest (a.put op.dst undef) (w.alloc (.cells c' ty))) : wpListIn F n P ops Q (op :: rest) a (w.alloc (.cells c ty)) := by
  refine wpListIn_plain hgd fun K hK => ?_
  unfold Oper.wpIn
  refine ⟨?_, ?_⟩
  · simp [Oper.about, ho]
  · rw [Oper.semAt_plain F _ _ (by rw [ho]; intro c hc'; cases hc')]
    unfold execOp
    simp only [ho, hx, hy, Sem.run_bind, run_storeAt_new w ty c c' hi hs h1, Result.andThen_ok, Sem.run_pure]
    exact hK _ _ h

end Go.Proofs.YtckipepodohnpaaGreat

namespace Go.Proofs.YtckipepodohnpaaGreat
open Go.RowKit Go.Shelf
set_option linter.unusedVariables false
set_option linter.unusedSimpArgs false

attribute [local go_sem] Oper.semAt_some

def KeepsG (S : Nat → Prop) (A C : World) : Prop := KeepsS S A C ∧ ∀ k, S k → k < A.heap.size
theorem KeepsG.below {S : Nat → Prop} {A C C' : World} (h : KeepsG S A C) (hb : Below C.heap.size C C') : KeepsG S A C' := ⟨h.1.trans (KeepsS.of_below hb (fun k hk => Nat.lt_of_lt_of_le (h.2 k hk) h.1.1)), h.2⟩
theorem KeepsG.row {S : Nat → Prop} {A C C' : World} {N : Nat} {e : TypeId} {size : Nat} {v : Value} {n : Nat} {xs : List Value} (h : KeepsG S A C) (ho : C.ownsRow N e size v n xs) (hg : C.grownBy C' v.ownBlock) (hN : ∀ k, S k → k < N) : KeepsG S A C' :=
  ⟨h.1.trans (KeepsS.of_grown hg (fun k hk => Nat.lt_of_lt_of_le (h.2 k hk) h.1.1) (fun r er hS => by have := (World.ownsRow.lt ho r er).1; have := hN r hS; omega)), h.2⟩
theorem KeepsG.set {S : Nat → Prop} {A C : World} {b i : Nat} {v : Value} (h : KeepsG S A C) (hb : ¬ S b) : KeepsG S A (C.setCell ⟨b, i, none⟩ v) :=
  ⟨h.1.trans ⟨by simp [World.setCell], fun k hk => RowKit.Below.heap_setCell _ _ _ _ (fun (e : k = b) => hb (e ▸ hk))⟩, h.2⟩
theorem keepsG_t {S : Nat → Prop} {A B C : World} (h : KeepsG S A B) (k : KeepsG S B C) : KeepsG S A C := ⟨h.1.trans k.1, h.2⟩
/-- A row's cells, in a block. -/
def RowHas (W : World) (b : Nat) (cs : List Value) : Prop := b < W.heap.size ∧ ∀ j u, cs[j]? = some u → W.cell? ((⟨b, 0, none⟩ : Addr).add j) = some u
theorem RowHas.below {W W' : World} {b : Nat} {cs : List Value} (h : RowHas W b cs) (hb : Below W.heap.size W W') : RowHas W' b cs := ⟨Nat.lt_of_lt_of_le h.1 hb.size, fun j u hj => by
  have := h.2 j u hj
  rw [Addr.add_lit] at this ⊢
  exact (hb.cell (p := ⟨b, 0 + j, none⟩) h.1).trans this⟩
theorem RowHas.new (W : World) (cs : List Value) (t : TypeId) : RowHas (W.alloc (.cells cs.toArray t)) W.heap.size cs := ⟨by simp, fun j u hj => by
  rw [Addr.add_lit, cell_of_row _ _ _ _ _ _ (heap_alloc_new W (.cells cs.toArray t))]
  simpa using hj⟩
theorem lackE_get {F : Nat → Prop} {w : World} {lb : Nat} {room : Int} {L : List Ch} {mb : Nat} {ord : Value} {own : List Value} {D : List (Ch × Value)} (h : LogIs F w lb room L mb ord own D) (hs : Srt L) {kn : List Int} {k : Nat} (hk : k < (lackE D L kn).length) :
    ∃ (c : Ch) (a0 : Option Addr) (c0 : Nat), (lackE D L kn)[k] = (c, .slice a0 c.deps.length c0) ∧ OwnI 0 w (.slice a0 c.deps.length c0) c.deps ∧ Sized c ∧ c.deps.length ≤ 17592186044416 ∧ (∀ j, (Value.slice a0 c.deps.length c0).ownBlock = some j → F j) ∧ (lackL L kn).take (k + 1) = (lackL L kn).take k ++ [c] ∧ c ∈ L := by
  have hkl : k < (lackL L kn).length := by rw [← lackE_length D]; exact hk
  have hc : (lackL L kn)[k] ∈ L := (List.mem_filter.1 (List.getElem_mem hkl)).1
  have hm := List.mem_of_find?_eq_some (getD_of h hs hc)
  obtain ⟨h1, h2, h3⟩ := h.hdep _ hm
  have h4 := h.fd _ hm
  obtain ⟨a0, c0, e⟩ := h1.form
  simp only at e h1 h4
  rw [e] at h1 h4
  refine ⟨(lackL L kn)[k], a0, c0, ?_, h1, h2, h3, h4, List.take_succ_eq_append_getElem hkl, hc⟩
  rw [← e]
  simp [lackE]


set_option maxRecDepth 100000 in
set_option maxHeartbeats 8000000 in
theorem all_in (n : Nat) (hn : 5 ≤ n) (v : Value) (room : Int) (L : List Ch) (F : Nat → Prop) (w : World) (h : LogV F w v room L) (hs : Srt L) (hl : L.length ≤ 4096) :
    CallsIn Fence.wide n Tryz.prog 29 #[v] w fun e w' => ∃ v' E, e = .returned v' ∧ E.map Prod.fst = lackL L [] ∧ OwnH w.heap.size w' v' E ∧ (∀ x ∈ E, OwnI w.heap.size w' x.2 x.1.deps ∧ Sized x.1 ∧ x.1.deps.length ≤ 17592186044416) ∧ Below w.heap.size w w' := by
  obtain ⟨i0, hi, hz0, hz1, hz2⟩ := info_parts infoChange
  have hro : Fence.wide.round = none := rfl
  have h1n : 1 ≤ n := by omega
  have hFl := h.lt
  refine callsIn_of_wp_marks Tryz.func29 rfl trivial ?_ hro
  simp only [Tryz.ntmps29, List.size_toArray, List.length_cons, List.length_nil, Nat.reduceAdd, Nat.reduceSub, Array.replicate_succ, Array.replicate_zero, List.push_toArray, List.append_toArray, List.nil_append, List.cons_append]
  have hb0 : Below w.heap.size w (w.alloc (.cells #[.slice none 0 0] 22)) := (Below.refl _ _).alloc (Nat.le_refl _) _
  gi_wp2_with fail
  refine ⟨trivial, ?_⟩
  refine (callsIn_wide.2 (orEmpty_any v room L F _ (h.below hb0))).mono ?_
  rintro e w1 ⟨lb, F', rfl, ⟨mb, ord, own, D, h1⟩, h2, hff⟩
  have HL1 : Hid (LogIs F' w1 lb room L mb ord own D) := h1
  have HB1 : Hid (Below w.heap.size w w1) := hb0.trans (h2.mono (by simp))
  have HX1 : Hid (Boxed w1 w.heap.size 22 (.slice none 0 0)) := (h2.block _ (by simp)).trans (World.alloc_heap_new w _)
  have HF1 : Hid (¬ F' w.heap.size) := fun hk => by rcases hff _ hk with h3 | h3; exact absurd (hFl _ h3) (by omega); simp at h3; omega
  have hsz1 : w.heap.size < w1.heap.size := by have := h2.size; simp at this; omega
  clear h h1 h2 hff hb0
  gi_wp2_with fail
  refine ⟨trivial, ?_⟩
  refine (callsIn_wide.2 (missing_any lb (.slice none 0 0) _ ⟨_, _, _, rfl⟩)).mono ?_
  rintro e w2 ⟨rfl, hw2⟩
  gi_wp2
  obtain ⟨W2, eW2⟩ : ∃ X, X = w2 := ⟨_, rfl⟩
  have HC1 : Hid (W2.cell? ⟨w1.heap.size, 0, none⟩ = some (.pointer (some ⟨lb, 0, none⟩))) := by
    rw [eW2, hw2]
    have := (Boxed.new w1 23 (.pointer (some ⟨lb, 0, none⟩))).alloc (.cells #[.slice none 0 0] 32)
    exact this.cell
  have HC2 : Hid (W2.cell? ⟨w1.heap.size + 1, 0, none⟩ = some (.slice none 0 0)) := by
    rw [eW2, hw2]
    have := Boxed.new (w1.alloc (.cells #[.pointer (some ⟨lb, 0, none⟩)] 23)) 32 (.slice none 0 0)
    rw [show (w1.alloc (.cells #[.pointer (some ⟨lb, 0, none⟩)] 23)).heap.size = w1.heap.size + 1 by simp] at this
    exact this.cell
  have hb2 : Below w1.heap.size w1 W2 := by rw [eW2, hw2]; exact ((Below.refl _ _).alloc (Nat.le_refl _) _).alloc (by simp) _
  have hsz2 : W2.heap.size = w1.heap.size + 2 := by rw [eW2, hw2]; simp
  rw [← hw2, ← eW2]
  clear eW2 hw2
  have HL2 : Hid (LogIs F' W2 lb room L mb ord own D) := HL1.out.below hb2
  have HS : Hid (∀ k, (F' k ∨ k = w1.heap.size ∨ k = w1.heap.size + 1) → k < W2.heap.size) := fun k hk => by rcases hk with hk | rfl | rfl; exact HL2.out.lt k hk; omega; omega
  have HA0 : Hid (AllB w W2 w.heap.size (fun k => F' k ∨ k = w1.heap.size ∨ k = w1.heap.size + 1) (.slice none 0 0) [] W2) :=
    ⟨(hb2.block _ hsz1).trans HX1.out, OwnH.nil0 _ _, fun x hx => by simp at hx, HB1.out.trans (hb2.mono HB1.out.size), ⟨KeepsS.refl _ _, HS.out⟩, Nat.le_refl _, by omega, fun hk => by rcases hk with hk | hk | hk; exact HF1.out hk; omega; omega, by omega⟩
  obtain ⟨S, eS⟩ : ∃ S : Nat → Prop, S = fun k => F' k ∨ k = w1.heap.size ∨ k = w1.heap.size + 1 := ⟨_, rfl⟩
  rw [← eS] at HA0
  have HSF : Hid (∀ k, F' k → S k) := fun k hk => by rw [eS]; exact .inl hk
  have HSq := missing_seq (n - 1) (by omega) w1.heap.size (w1.heap.size + 1) 0 S F' lb room L mb ord own D none [] W2 HL2.out hs hl HSF.out (by rw [eS]; exact .inr (.inl rfl)) (by rw [eS]; exact .inr (.inr rfl)) HA0.out.kp.2 HC1.out HC2.out (.inl rfl) (Nat.le_refl _) (by simp)
  have HSrt : Hid (Srt L) := hs
  clear eS hb2 HX1 HF1 HS HC1 HC2 HL1 hs
  refine range_of h1n (gf := 64) (lb := #[.pointer (some ⟨w1.heap.size, 0, none⟩), .pointer (some ⟨w1.heap.size + 1, 0, none⟩)]) rfl (enters_of Tryz.func64 (by kernel_rfl) rfl) HSq KeepsS.trans (keepsSK_b HA0.out.kp.2) (Below.refl _ _) (fun _ => rfl)
    (fun k W => ∃ ov E, AllB w W2 w.heap.size S ov E W ∧ E.map Prod.fst = (lackL L []).take k) (fun _ _ _ => False)
    (fun k A B row ⟨ov, E, h1, h2⟩ hg hr => ⟨ov, E, h1.grown hg hr, h2⟩) (fun c k A B row hf _ _ => hf) ⟨_, _, HA0.out, rfl⟩
    (fun x a' W => ∃ Bx ov, W2.heap.size ≤ Bx ∧ W.heap[Bx]? = some (.cells (chCells x.1 x.2).toArray 34) ∧ Boxed W w.heap.size 22 ov ∧ ov.ownBlock ≠ some Bx ∧ a' = { tmps := #[v, undef, .slice none 0 0, .pointer (some ⟨w.heap.size, 0, none⟩), .pointer (some ⟨Bx, 0, none⟩), v, .pointer (some ⟨lb, 0, none⟩), .func (.func 64) #[] #[.pointer (some ⟨w1.heap.size, 0, none⟩), .pointer (some ⟨w1.heap.size + 1, 0, none⟩)], chV x.1 x.2, undef, undef, undef, undef, undef, undef], defers := [] })
    (fun x a' u A B row ⟨Bx, ov, h1, h2, h3, h4, h5⟩ hg hr => ⟨Bx, ov, h1, row_own h2 hg (fun r e => (hr r e).2), row_own h3 hg (fun r e => (hr r e).2), h4, h5⟩)
    ?assign ?body ?done ?stop
  case assign =>
    rintro l k hk W K ⟨ov, E, hA, hE⟩ hK
    have hkl : k < (lackL L []).length := by rw [← lackE_length D]; exact hk
    obtain ⟨⟨ac, ar, sq, ds, kd, nc, nr, pc, pr, fc, fr, nm, vl⟩, a0, c0, e1, _⟩ := lackE_get HL2.out HSrt.out hk
    rw [e1] at hK ⊢
    have hb : Below W.heap.size W (W.alloc (.cells #[.int .i64 ac, .int .i64 ar, .int .i64 sq, .slice a0 ds.length c0, .int .i64 kd, .int .i64 nc, .int .i64 nr, .int .i64 pc, .int .i64 pr, .int .i64 fc, .int .i64 fr, .string nm, .string vl] 34)) := (Below.refl _ _).alloc (Nat.le_refl _) _
    have hfin := fun a' e5 => hK a' (W.alloc (.cells #[.int .i64 ac, .int .i64 ar, .int .i64 sq, .slice a0 ds.length c0, .int .i64 kd, .int .i64 nc, .int .i64 nr, .int .i64 pc, .int .i64 pr, .int .i64 fc, .int .i64 fr, .string nm, .string vl] 34)) (keepsFrom_below hb) (KeepsS.of_below hb (fun j hj => Nat.lt_of_lt_of_le (hA.kp.2 j hj) hA.size)) ⟨ov, E, hA.below hb, hE⟩ ⟨W.heap.size, ov, hA.size, heap_alloc_new _ _, (hb.block _ hA.box.lt).trans hA.box, fun e => by have := (World.ownsRow.lt hA.own _ e).2; omega, e5⟩
    have HFin : Hid (K { tmps := #[v, undef, .slice none 0 0, .pointer (some ⟨w.heap.size, 0, none⟩), .pointer (some ⟨W.heap.size, 0, none⟩), v, .pointer (some ⟨lb, 0, none⟩), .func (.func 64) #[] #[.pointer (some ⟨w1.heap.size, 0, none⟩), .pointer (some ⟨w1.heap.size + 1, 0, none⟩)], .agg #[.int .i64 ac, .int .i64 ar, .int .i64 sq, .slice a0 ds.length c0, .int .i64 kd, .int .i64 nc, .int .i64 nr, .int .i64 pc, .int .i64 pr, .int .i64 fc, .int .i64 fr, .string nm, .string vl], undef, undef, undef, undef, undef, undef], defers := [] } (W.alloc (.cells #[.int .i64 ac, .int .i64 ar, .int .i64 sq, .slice a0 ds.length c0, .int .i64 kd, .int .i64 nc, .int .i64 nr, .int .i64 pc, .int .i64 pr, .int .i64 fc, .int .i64 fr, .string nm, .string vl] 34))) := hfin _ rfl
    clear hK hfin hb hA hE
    simp only [encH, chV, chCells]
    gi_wp2
    exact HFin.out
  case body =>
    rintro l k hk a' W hlD ⟨ov, E, hA, hE⟩ ⟨Bx, ov2, hx1, hx2, hx3, hx4, rfl⟩
    have eov : ov2 = ov := by have := hx3.symm.trans hA.box; injection this with this; injection this with this; injection this with this; injection this
    subst eov
    obtain ⟨⟨ac, ar, sq, ds, kd, nc, nr, pc, pr, fc, fr, nm, vl⟩, a0, c0, e1, e2, e3, e4, e5, e6, e7⟩ := lackE_get HL2.out HSrt.out hk
    rw [e1] at hx2
    simp only [e1]
    have hEl : E.length ≤ 4096 := by
      have h1 : E.length = ((lackL L []).take k).length := by rw [← hE]; simp
      rw [h1, List.length_take]
      have h2 : (lackL L []).length ≤ L.length := List.length_filter_le _ _
      omega
    obtain ⟨aw, cw, eo⟩ := hA.own.form
    subst eo
    have HA : Hid (AllB w W2 w.heap.size S (.slice aw E.length cw) E W) := hA
    have HKf : Hid (KF W2.heap.size W W) := keepsFrom_below (Below.refl _ _)
    have HKw : Hid (KeepsG S W W) := ⟨KeepsS.refl _ _, fun j hj => Nat.lt_of_lt_of_le (hA.kp.2 j hj) hA.size⟩
    have HIc : Hid (IsI W (.slice a0 ds.length c0) ds) := OwnI.isI (e2.keepF fun j e => hA.kp.1.2 j (HSF.out j (e5 j e))) e4
    have HBx : Hid (W.drew.heap[Bx]? = some (.cells #[.int .i64 ac, .int .i64 ar, .int .i64 sq, .slice a0 ds.length c0, .int .i64 kd, .int .i64 nc, .int .i64 nr, .int .i64 pc, .int .i64 pr, .int .i64 fc, .int .i64 fr, .string nm, .string vl] 34)) := hx2
    have HNe : Hid ((Value.slice aw E.length cw).ownBlock ≠ some Bx) := hx4
    have HSz : Hid (Sized (⟨ac, ar, sq, ds, kd, nc, nr, pc, pr, fc, fr, nm, vl⟩ : Ch) ∧ ds.length ≤ 17592186044416) := ⟨e3, e4⟩
    have HEm : Hid (E.map Prod.fst = (lackL L []).take k) := hE
    have HTk : Hid ((lackL L []).take k ++ [(⟨ac, ar, sq, ds, kd, nc, nr, pc, pr, fc, fr, nm, vl⟩ : Ch)] = (lackL L []).take (k + 1)) := e6.symm
    clear e1 e2 e3 e4 e5 e6 e7 hA hE hx2 hx3 hx4
    simp only [chV, chCells]
    gi_wp2
    refine region_round_held (S := fun W' => W'.heap[Bx]? = some (.cells #[.int .i64 ac, .int .i64 ar, .int .i64 sq, .slice a0 ds.length c0, .int .i64 kd, .int .i64 nc, .int .i64 nr, .int .i64 pc, .int .i64 pr, .int .i64 fc, .int .i64 fr, .string nm, .string vl] 34)) l (by kernel_rfl) (by kernel_rfl) (lets_block lets_round) HBx.out (fun hHeld => ?_)
    obtain ⟨Ua3u0, eW⟩ : ∃ X, X = W.drew := ⟨_, rfl⟩
    have hb : Below W.heap.size W Ua3u0 := by rw [eW]; exact (Below.refl _ _).drew
    replace HA : Hid (AllB w W2 w.heap.size S (.slice aw E.length cw) E Ua3u0) := HA.out.below hb
    replace HKf : Hid (KF W2.heap.size W Ua3u0) := HKf.out.below hb
    replace HKw : Hid (KeepsG S W Ua3u0) := HKw.out.below hb
    replace HIc : Hid (IsI Ua3u0 (.slice a0 ds.length c0) ds) := HIc.out.below hb
    rw [← eW] at hHeld ⊢
    clear eW hb
    refine wpAnyH_take (i := 1) (oi := ⟨some 10, _, _, _, _, _⟩) (v := ?va3ux1) rfl (by kernel_rfl) (by kernel_rfl) (by kernel_rfl) (fun _ _ _ h => h) (Or.inl ⟨by rfl, ?hya3ux1⟩) hHeld ?resta3ux1
    case hya3ux1 => (intro w hSw; (try dsimp only at hSw); have hk := hSw; obtain ⟨k_0, k_1, k_2, k_3, k_4, k_5, k_6, k_7, k_8, k_9, k_10, k_11, k_12⟩ := row_cells hk; go_simp; try with_reducible rfl)
    simp only [Act.put, List.setIfInBounds_toArray, List.set_cons_zero, List.set_cons_succ]
    refine wpAnyH_ready (rs := [0, 2]) (by kernel_rfl) (by simp) ?_
    refine AllReadyH.cons (o := ⟨some 9, _, _, _, _, _⟩) rfl (fun K hK => ?_) (AllReadyH.cons (o := ⟨some 11, _, _, _, _, _⟩) rfl (fun K hK => ?_) AllReadyH.nil)
    · have xo := HA.out.box.cell
      go_simp
      refine hK.out _ _ (hHeld) (fun hHeld2 => ?_)
      clear hK K hHeld
      have hHeld := hHeld2
      clear hHeld2
      (try simp only [Act.put, List.setIfInBounds_toArray, List.set_cons_zero, List.set_cons_succ])
      clear xo
      refine wpAnyH_ready (rs := [2]) (by kernel_rfl) (by simp) ?_
      refine AllReadyH.cons (o := ⟨some 11, _, _, _, _, _⟩) rfl (fun K hK => ?_) AllReadyH.nil
      have hWs := HA.out.size
      go_simp
      refine (copyCh_any ac ar sq (.slice a0 ds.length c0) kd nc nr pc pr fc fr nm vl ds _ HIc.out).mono ?_
      rintro e Ua3u2 ⟨v2, rfl, ho, hb⟩
      (try go_wp2_with fail)
      refine hK.out _ _ ((hb.block _ (Array.getElem?_eq_some_iff.1 hHeld).1).trans hHeld) (fun hHeld2 => ?_)
      clear hK K hHeld
      have hHeld := hHeld2
      clear hHeld2
      (try simp only [Act.put, List.setIfInBounds_toArray, List.set_cons_zero, List.set_cons_succ])
      replace HA : Hid (AllB w W2 w.heap.size S (.slice aw E.length cw) E Ua3u2) := HA.out.below hb
      replace HKf : Hid (KF W2.heap.size W Ua3u2) := HKf.out.below hb
      replace HKw : Hid (KeepsG S W Ua3u2) := HKw.out.below hb
      replace HIc : Hid (IsI Ua3u2 (.slice a0 ds.length c0) ds) := HIc.out.below hb
      obtain ⟨a2, c2, e2⟩ := ho.form
      subst e2
      have HO : Hid (OwnI W2.heap.size Ua3u2 (.slice a2 ds.length c2) ds) := ho.low (by omega)
      clear ho hWs
      clear hb
      refine wpAnyH_ready (rs := [3]) (by kernel_rfl) (by simp) ?_
      refine AllReadyH.cons (o := ⟨some 12, _, _, _, _, _⟩) rfl (fun K hK => ?_) AllReadyH.nil
      go_simp
      refine hK.out _ _ ((Below.block ((Below.refl _ Ua3u2).alloc (Nat.le_refl _) _) _ (Array.getElem?_eq_some_iff.1 hHeld).1).trans hHeld) (fun hHeld2 => ?_)
      clear hK K hHeld
      have hHeld := hHeld2
      clear hHeld2
      (try simp only [Act.put, List.setIfInBounds_toArray, List.set_cons_zero, List.set_cons_succ])
      obtain ⟨Ua3u3, eW⟩ : ∃ X, X = Ua3u2.alloc (.cells #[.int .i64 ac, .int .i64 ar, .int .i64 sq, .slice a2 ds.length c2, .int .i64 kd, .int .i64 nc, .int .i64 nr, .int .i64 pc, .int .i64 pr, .int .i64 fc, .int .i64 fr, .string nm, .string vl] 34) := ⟨_, rfl⟩
      have hb : Below Ua3u2.heap.size Ua3u2 Ua3u3 := by rw [eW]; exact (Below.refl _ _).alloc (Nat.le_refl _) _
      replace HA : Hid (AllB w W2 w.heap.size S (.slice aw E.length cw) E Ua3u3) := HA.out.below hb
      replace HKf : Hid (KF W2.heap.size W Ua3u3) := HKf.out.below hb
      replace HKw : Hid (KeepsG S W Ua3u3) := HKw.out.below hb
      replace HIc : Hid (IsI Ua3u3 (.slice a0 ds.length c0) ds) := HIc.out.below hb
      replace HO : Hid (OwnI W2.heap.size Ua3u3 (.slice a2 ds.length c2) ds) := HO.out.below hb
      have HV : Hid (RowHas Ua3u3 Ua3u2.heap.size [.int .i64 ac, .int .i64 ar, .int .i64 sq, .slice a2 ds.length c2, .int .i64 kd, .int .i64 nc, .int .i64 nr, .int .i64 pc, .int .i64 pr, .int .i64 fc, .int .i64 fr, .string nm, .string vl]) := by rw [eW]; exact RowHas.new _ _ _
      rw [← eW] at hHeld ⊢
      clear eW
      obtain ⟨vb, evb⟩ : ∃ vb, vb = Ua3u2.heap.size := ⟨_, rfl⟩
      rw [← evb] at HV ⊢
      clear evb
      clear hb
      refine wpAnyH_ready (rs := [4]) (by kernel_rfl) (by simp) ?_
      refine AllReadyH.cons (o := ⟨some 13, _, _, _, _, _⟩) rfl (fun K hK => ?_) AllReadyH.nil
      refine step_append_lies _ (by rfl) _ _ 22 (by rfl) W2.heap.size 34 i0 (.agg #[.int .i64 0, .int .i64 0, .int .i64 0, .slice none 0 0, .int .i64 0, .int .i64 0, .int .i64 0, .int .i64 0, .int .i64 0, .int .i64 0, .int .i64 0, .string ⟨#[]⟩, .string ⟨#[]⟩]) 13 136 Tryz.underlying22 hi hz0 hz1 hz2 rfl (by decide) (.slice aw E.length cw) E.length (flatH E) (by rfl) HA.out.own ⟨vb, 0, none⟩ 1 1 [.int .i64 ac, .int .i64 ar, .int .i64 sq, .slice a2 ds.length c2, .int .i64 kd, .int .i64 nc, .int .i64 nr, .int .i64 pc, .int .i64 pr, .int .i64 fc, .int .i64 fr, .string nm, .string vl] (by rfl) rfl HV.out.2 (fun x hx => by simp at hx; rcases hx with rfl | rfl | rfl | rfl | rfl | rfl | rfl | rfl | rfl | rfl | rfl | rfl | rfl <;> rfl) (by decide) (by unfold maxLen; omega) (by omega) (HA.out.size) Ua3u3.heap.size rfl ?_
      intro g3 c3 Ua3u4 hown3 hgrow3 hat3 hlt3
      have HP3 : Hid (∀ u, u = Value.slice (some ⟨g3, 0, none⟩) (E.length + 1) c3 → AllB w W2 w.heap.size S u (E ++ [((⟨ac, ar, sq, ds, kd, nc, nr, pc, pr, fc, fr, nm, vl⟩ : Ch), .slice a2 ds.length c2)]) (Ua3u4.setCell ⟨w.heap.size, 0, none⟩ u)) := fun u eu => by subst eu; exact HA.out.push hown3 hgrow3 HO.out HSz.out
      have HKf3 : Hid (KF W2.heap.size W Ua3u4) := KeepsFrom.trans HKf.out (keepsFrom_row HA.out.own hgrow3)
      have HKw3 : Hid (KeepsG S W Ua3u4) := HKw.out.row HA.out.own hgrow3 HA.out.kp.2
      have HBX3 : Hid (Boxed Ua3u4 w.heap.size 22 (.slice aw E.length cw)) := HA.out.box.kept hgrow3 (fun e => by have := (World.ownsRow.lt HA.out.own _ e.symm).1; have := HA.out.b2; omega)
      have HB0 : Hid (w.heap.size < W2.heap.size ∧ ¬ S w.heap.size) := ⟨HA.out.b2, HA.out.b3⟩
      refine hK.out _ _ ((hgrow3.block _ (Array.getElem?_eq_some_iff.1 hHeld).1 (fun e => HNe.out e.symm)).trans hHeld) (fun hHeld2 => ?_)
      clear hK K hHeld
      have hHeld := hHeld2
      clear hHeld2
      (try simp only [Act.put, List.setIfInBounds_toArray, List.set_cons_zero, List.set_cons_succ])
      clear hown3 hgrow3 hat3 hlt3 HA HKf HKw HIc HO HV
      refine wpAnyH_ready (rs := [5]) (by kernel_rfl) (by simp) ?_
      refine AllReadyH.cons (o := ⟨none, _, _, _, _, _⟩) rfl (fun K hK => ?_) AllReadyH.nil
      have xo := HBX3.out.cell
      have xf := HBX3.out.frozen
      go_simp
      refine hK.out _ _ ((RowKit.Below.heap_setCell _ _ _ _ (fun e => by have h1 := HB0.out.1; have e2 : Bx = w.heap.size := e; omega)).trans hHeld) (fun hHeld2 => ?_)
      clear hK K hHeld
      have hHeld := hHeld2
      clear hHeld2
      (try simp only [Act.put, List.setIfInBounds_toArray, List.set_cons_zero, List.set_cons_succ])
      obtain ⟨Ua3u5, eW⟩ : ∃ X, X = Ua3u4.setCell ⟨w.heap.size, 0, none⟩ (Value.slice (some ⟨g3, 0, none⟩) (E.length + 1) c3) := ⟨_, rfl⟩
      have HA4 : Hid (AllB w W2 w.heap.size S (Value.slice (some ⟨g3, 0, none⟩) (E.length + 1) c3) (E ++ [((⟨ac, ar, sq, ds, kd, nc, nr, pc, pr, fc, fr, nm, vl⟩ : Ch), .slice a2 ds.length c2)]) Ua3u5) := by rw [eW]; exact HP3.out _ rfl
      have HKf4 : Hid (KF W2.heap.size W Ua3u5) := by rw [eW]; exact KeepsFrom.trans HKf3.out (keepsFrom_set _ _ _)
      have HKw4 : Hid (KeepsG S W Ua3u5) := by rw [eW]; exact HKw3.out.set HB0.out.2
      rw [← eW] at hHeld ⊢
      clear eW xo xf HP3 HKf3 HKw3 HBX3
      refine wpAnyH_done (by kernel_rfl) ?_ _
      clear hHeld
      exact ⟨HKf4.out, HKw4.out.1, _, _, HA4.out, by rw [List.map_append, HEm.out]; exact HTk.out⟩
    · have hWs := HA.out.size
      go_simp
      refine (copyCh_any ac ar sq (.slice a0 ds.length c0) kd nc nr pc pr fc fr nm vl ds _ HIc.out).mono ?_
      rintro e Ua3u6 ⟨v2, rfl, ho, hb⟩
      (try go_wp2_with fail)
      refine hK.out _ _ ((hb.block _ (Array.getElem?_eq_some_iff.1 hHeld).1).trans hHeld) (fun hHeld2 => ?_)
      clear hK K hHeld
      have hHeld := hHeld2
      clear hHeld2
      (try simp only [Act.put, List.setIfInBounds_toArray, List.set_cons_zero, List.set_cons_succ])
      replace HA : Hid (AllB w W2 w.heap.size S (.slice aw E.length cw) E Ua3u6) := HA.out.below hb
      replace HKf : Hid (KF W2.heap.size W Ua3u6) := HKf.out.below hb
      replace HKw : Hid (KeepsG S W Ua3u6) := HKw.out.below hb
      replace HIc : Hid (IsI Ua3u6 (.slice a0 ds.length c0) ds) := HIc.out.below hb
      obtain ⟨a2, c2, e2⟩ := ho.form
      subst e2
      have HO : Hid (OwnI W2.heap.size Ua3u6 (.slice a2 ds.length c2) ds) := ho.low (by omega)
      clear ho hWs
      clear hb
      refine wpAnyH_ready (rs := [0, 3]) (by kernel_rfl) (by simp) ?_
      refine AllReadyH.cons (o := ⟨some 9, _, _, _, _, _⟩) rfl (fun K hK => ?_) (AllReadyH.cons (o := ⟨some 12, _, _, _, _, _⟩) rfl (fun K hK => ?_) AllReadyH.nil)
      · have xo := HA.out.box.cell
        go_simp
        refine hK.out _ _ (hHeld) (fun hHeld2 => ?_)
        clear hK K hHeld
        have hHeld := hHeld2
        clear hHeld2
        (try simp only [Act.put, List.setIfInBounds_toArray, List.set_cons_zero, List.set_cons_succ])
        clear xo
        refine wpAnyH_ready (rs := [3]) (by kernel_rfl) (by simp) ?_
        refine AllReadyH.cons (o := ⟨some 12, _, _, _, _, _⟩) rfl (fun K hK => ?_) AllReadyH.nil
        go_simp
        refine hK.out _ _ ((Below.block ((Below.refl _ Ua3u6).alloc (Nat.le_refl _) _) _ (Array.getElem?_eq_some_iff.1 hHeld).1).trans hHeld) (fun hHeld2 => ?_)
        clear hK K hHeld
        have hHeld := hHeld2
        clear hHeld2
        (try simp only [Act.put, List.setIfInBounds_toArray, List.set_cons_zero, List.set_cons_succ])
        obtain ⟨Ua3u8, eW⟩ : ∃ X, X = Ua3u6.alloc (.cells #[.int .i64 ac, .int .i64 ar, .int .i64 sq, .slice a2 ds.length c2, .int .i64 kd, .int .i64 nc, .int .i64 nr, .int .i64 pc, .int .i64 pr, .int .i64 fc, .int .i64 fr, .string nm, .string vl] 34) := ⟨_, rfl⟩
        have hb : Below Ua3u6.heap.size Ua3u6 Ua3u8 := by rw [eW]; exact (Below.refl _ _).alloc (Nat.le_refl _) _
        replace HA : Hid (AllB w W2 w.heap.size S (.slice aw E.length cw) E Ua3u8) := HA.out.below hb
        replace HKf : Hid (KF W2.heap.size W Ua3u8) := HKf.out.below hb
        replace HKw : Hid (KeepsG S W Ua3u8) := HKw.out.below hb
        replace HIc : Hid (IsI Ua3u8 (.slice a0 ds.length c0) ds) := HIc.out.below hb
        replace HO : Hid (OwnI W2.heap.size Ua3u8 (.slice a2 ds.length c2) ds) := HO.out.below hb
        have HV : Hid (RowHas Ua3u8 Ua3u6.heap.size [.int .i64 ac, .int .i64 ar, .int .i64 sq, .slice a2 ds.length c2, .int .i64 kd, .int .i64 nc, .int .i64 nr, .int .i64 pc, .int .i64 pr, .int .i64 fc, .int .i64 fr, .string nm, .string vl]) := by rw [eW]; exact RowHas.new _ _ _
        rw [← eW] at hHeld ⊢
        clear eW
        obtain ⟨vb, evb⟩ : ∃ vb, vb = Ua3u6.heap.size := ⟨_, rfl⟩
        rw [← evb] at HV ⊢
        clear evb
        clear hb
        refine wpAnyH_ready (rs := [4]) (by kernel_rfl) (by simp) ?_
        refine AllReadyH.cons (o := ⟨some 13, _, _, _, _, _⟩) rfl (fun K hK => ?_) AllReadyH.nil
        refine step_append_lies _ (by rfl) _ _ 22 (by rfl) W2.heap.size 34 i0 (.agg #[.int .i64 0, .int .i64 0, .int .i64 0, .slice none 0 0, .int .i64 0, .int .i64 0, .int .i64 0, .int .i64 0, .int .i64 0, .int .i64 0, .int .i64 0, .string ⟨#[]⟩, .string ⟨#[]⟩]) 13 136 Tryz.underlying22 hi hz0 hz1 hz2 rfl (by decide) (.slice aw E.length cw) E.length (flatH E) (by rfl) HA.out.own ⟨vb, 0, none⟩ 1 1 [.int .i64 ac, .int .i64 ar, .int .i64 sq, .slice a2 ds.length c2, .int .i64 kd, .int .i64 nc, .int .i64 nr, .int .i64 pc, .int .i64 pr, .int .i64 fc, .int .i64 fr, .string nm, .string vl] (by rfl) rfl HV.out.2 (fun x hx => by simp at hx; rcases hx with rfl | rfl | rfl | rfl | rfl | rfl | rfl | rfl | rfl | rfl | rfl | rfl | rfl <;> rfl) (by decide) (by unfold maxLen; omega) (by omega) (HA.out.size) Ua3u8.heap.size rfl ?_
        intro g3 c3 Ua3u9 hown3 hgrow3 hat3 hlt3
        have HP3 : Hid (∀ u, u = Value.slice (some ⟨g3, 0, none⟩) (E.length + 1) c3 → AllB w W2 w.heap.size S u (E ++ [((⟨ac, ar, sq, ds, kd, nc, nr, pc, pr, fc, fr, nm, vl⟩ : Ch), .slice a2 ds.length c2)]) (Ua3u9.setCell ⟨w.heap.size, 0, none⟩ u)) := fun u eu => by subst eu; exact HA.out.push hown3 hgrow3 HO.out HSz.out
        have HKf3 : Hid (KF W2.heap.size W Ua3u9) := KeepsFrom.trans HKf.out (keepsFrom_row HA.out.own hgrow3)
        have HKw3 : Hid (KeepsG S W Ua3u9) := HKw.out.row HA.out.own hgrow3 HA.out.kp.2
        have HBX3 : Hid (Boxed Ua3u9 w.heap.size 22 (.slice aw E.length cw)) := HA.out.box.kept hgrow3 (fun e => by have := (World.ownsRow.lt HA.out.own _ e.symm).1; have := HA.out.b2; omega)
        have HB0 : Hid (w.heap.size < W2.heap.size ∧ ¬ S w.heap.size) := ⟨HA.out.b2, HA.out.b3⟩
        refine hK.out _ _ ((hgrow3.block _ (Array.getElem?_eq_some_iff.1 hHeld).1 (fun e => HNe.out e.symm)).trans hHeld) (fun hHeld2 => ?_)
        clear hK K hHeld
        have hHeld := hHeld2
        clear hHeld2
        (try simp only [Act.put, List.setIfInBounds_toArray, List.set_cons_zero, List.set_cons_succ])
        clear hown3 hgrow3 hat3 hlt3 HA HKf HKw HIc HO HV
        refine wpAnyH_ready (rs := [5]) (by kernel_rfl) (by simp) ?_
        refine AllReadyH.cons (o := ⟨none, _, _, _, _, _⟩) rfl (fun K hK => ?_) AllReadyH.nil
        have xo := HBX3.out.cell
        have xf := HBX3.out.frozen
        go_simp
        refine hK.out _ _ ((RowKit.Below.heap_setCell _ _ _ _ (fun e => by have h1 := HB0.out.1; have e2 : Bx = w.heap.size := e; omega)).trans hHeld) (fun hHeld2 => ?_)
        clear hK K hHeld
        have hHeld := hHeld2
        clear hHeld2
        (try simp only [Act.put, List.setIfInBounds_toArray, List.set_cons_zero, List.set_cons_succ])
        obtain ⟨Ua3u10, eW⟩ : ∃ X, X = Ua3u9.setCell ⟨w.heap.size, 0, none⟩ (Value.slice (some ⟨g3, 0, none⟩) (E.length + 1) c3) := ⟨_, rfl⟩
        have HA4 : Hid (AllB w W2 w.heap.size S (Value.slice (some ⟨g3, 0, none⟩) (E.length + 1) c3) (E ++ [((⟨ac, ar, sq, ds, kd, nc, nr, pc, pr, fc, fr, nm, vl⟩ : Ch), .slice a2 ds.length c2)]) Ua3u10) := by rw [eW]; exact HP3.out _ rfl
        have HKf4 : Hid (KF W2.heap.size W Ua3u10) := by rw [eW]; exact KeepsFrom.trans HKf3.out (keepsFrom_set _ _ _)
        have HKw4 : Hid (KeepsG S W Ua3u10) := by rw [eW]; exact HKw3.out.set HB0.out.2
        rw [← eW] at hHeld ⊢
        clear eW xo xf HP3 HKf3 HKw3 HBX3
        refine wpAnyH_done (by kernel_rfl) ?_ _
        clear hHeld
        exact ⟨HKf4.out, HKw4.out.1, _, _, HA4.out, by rw [List.map_append, HEm.out]; exact HTk.out⟩
      · go_simp
        refine hK.out _ _ ((Below.block ((Below.refl _ Ua3u6).alloc (Nat.le_refl _) _) _ (Array.getElem?_eq_some_iff.1 hHeld).1).trans hHeld) (fun hHeld2 => ?_)
        clear hK K hHeld
        have hHeld := hHeld2
        clear hHeld2
        (try simp only [Act.put, List.setIfInBounds_toArray, List.set_cons_zero, List.set_cons_succ])
        obtain ⟨Ua3u11, eW⟩ : ∃ X, X = Ua3u6.alloc (.cells #[.int .i64 ac, .int .i64 ar, .int .i64 sq, .slice a2 ds.length c2, .int .i64 kd, .int .i64 nc, .int .i64 nr, .int .i64 pc, .int .i64 pr, .int .i64 fc, .int .i64 fr, .string nm, .string vl] 34) := ⟨_, rfl⟩
        have hb : Below Ua3u6.heap.size Ua3u6 Ua3u11 := by rw [eW]; exact (Below.refl _ _).alloc (Nat.le_refl _) _
        replace HA : Hid (AllB w W2 w.heap.size S (.slice aw E.length cw) E Ua3u11) := HA.out.below hb
        replace HKf : Hid (KF W2.heap.size W Ua3u11) := HKf.out.below hb
        replace HKw : Hid (KeepsG S W Ua3u11) := HKw.out.below hb
        replace HIc : Hid (IsI Ua3u11 (.slice a0 ds.length c0) ds) := HIc.out.below hb
        replace HO : Hid (OwnI W2.heap.size Ua3u11 (.slice a2 ds.length c2) ds) := HO.out.below hb
        have HV : Hid (RowHas Ua3u11 Ua3u6.heap.size [.int .i64 ac, .int .i64 ar, .int .i64 sq, .slice a2 ds.length c2, .int .i64 kd, .int .i64 nc, .int .i64 nr, .int .i64 pc, .int .i64 pr, .int .i64 fc, .int .i64 fr, .string nm, .string vl]) := by rw [eW]; exact RowHas.new _ _ _
        rw [← eW] at hHeld ⊢
        clear eW
        obtain ⟨vb, evb⟩ : ∃ vb, vb = Ua3u6.heap.size := ⟨_, rfl⟩
        rw [← evb] at HV ⊢
        clear evb
        clear hb
        refine wpAnyH_ready (rs := [0]) (by kernel_rfl) (by simp) ?_
        refine AllReadyH.cons (o := ⟨some 9, _, _, _, _, _⟩) rfl (fun K hK => ?_) AllReadyH.nil
        have xo := HA.out.box.cell
        go_simp
        refine hK.out _ _ (hHeld) (fun hHeld2 => ?_)
        clear hK K hHeld
        have hHeld := hHeld2
        clear hHeld2
        (try simp only [Act.put, List.setIfInBounds_toArray, List.set_cons_zero, List.set_cons_succ])
        clear xo
        refine wpAnyH_ready (rs := [4]) (by kernel_rfl) (by simp) ?_
        refine AllReadyH.cons (o := ⟨some 13, _, _, _, _, _⟩) rfl (fun K hK => ?_) AllReadyH.nil
        refine step_append_lies _ (by rfl) _ _ 22 (by rfl) W2.heap.size 34 i0 (.agg #[.int .i64 0, .int .i64 0, .int .i64 0, .slice none 0 0, .int .i64 0, .int .i64 0, .int .i64 0, .int .i64 0, .int .i64 0, .int .i64 0, .int .i64 0, .string ⟨#[]⟩, .string ⟨#[]⟩]) 13 136 Tryz.underlying22 hi hz0 hz1 hz2 rfl (by decide) (.slice aw E.length cw) E.length (flatH E) (by rfl) HA.out.own ⟨vb, 0, none⟩ 1 1 [.int .i64 ac, .int .i64 ar, .int .i64 sq, .slice a2 ds.length c2, .int .i64 kd, .int .i64 nc, .int .i64 nr, .int .i64 pc, .int .i64 pr, .int .i64 fc, .int .i64 fr, .string nm, .string vl] (by rfl) rfl HV.out.2 (fun x hx => by simp at hx; rcases hx with rfl | rfl | rfl | rfl | rfl | rfl | rfl | rfl | rfl | rfl | rfl | rfl | rfl <;> rfl) (by decide) (by unfold maxLen; omega) (by omega) (HA.out.size) Ua3u11.heap.size rfl ?_
        intro g3 c3 Ua3u13 hown3 hgrow3 hat3 hlt3
        have HP3 : Hid (∀ u, u = Value.slice (some ⟨g3, 0, none⟩) (E.length + 1) c3 → AllB w W2 w.heap.size S u (E ++ [((⟨ac, ar, sq, ds, kd, nc, nr, pc, pr, fc, fr, nm, vl⟩ : Ch), .slice a2 ds.length c2)]) (Ua3u13.setCell ⟨w.heap.size, 0, none⟩ u)) := fun u eu => by subst eu; exact HA.out.push hown3 hgrow3 HO.out HSz.out
        have HKf3 : Hid (KF W2.heap.size W Ua3u13) := KeepsFrom.trans HKf.out (keepsFrom_row HA.out.own hgrow3)
        have HKw3 : Hid (KeepsG S W Ua3u13) := HKw.out.row HA.out.own hgrow3 HA.out.kp.2
        have HBX3 : Hid (Boxed Ua3u13 w.heap.size 22 (.slice aw E.length cw)) := HA.out.box.kept hgrow3 (fun e => by have := (World.ownsRow.lt HA.out.own _ e.symm).1; have := HA.out.b2; omega)
        have HB0 : Hid (w.heap.size < W2.heap.size ∧ ¬ S w.heap.size) := ⟨HA.out.b2, HA.out.b3⟩
        refine hK.out _ _ ((hgrow3.block _ (Array.getElem?_eq_some_iff.1 hHeld).1 (fun e => HNe.out e.symm)).trans hHeld) (fun hHeld2 => ?_)
        clear hK K hHeld
        have hHeld := hHeld2
        clear hHeld2
        (try simp only [Act.put, List.setIfInBounds_toArray, List.set_cons_zero, List.set_cons_succ])
        clear hown3 hgrow3 hat3 hlt3 HA HKf HKw HIc HO HV
        refine wpAnyH_ready (rs := [5]) (by kernel_rfl) (by simp) ?_
        refine AllReadyH.cons (o := ⟨none, _, _, _, _, _⟩) rfl (fun K hK => ?_) AllReadyH.nil
        have xo := HBX3.out.cell
        have xf := HBX3.out.frozen
        go_simp
        refine hK.out _ _ ((RowKit.Below.heap_setCell _ _ _ _ (fun e => by have h1 := HB0.out.1; have e2 : Bx = w.heap.size := e; omega)).trans hHeld) (fun hHeld2 => ?_)
        clear hK K hHeld
        have hHeld := hHeld2
        clear hHeld2
        (try simp only [Act.put, List.setIfInBounds_toArray, List.set_cons_zero, List.set_cons_succ])
        obtain ⟨Ua3u14, eW⟩ : ∃ X, X = Ua3u13.setCell ⟨w.heap.size, 0, none⟩ (Value.slice (some ⟨g3, 0, none⟩) (E.length + 1) c3) := ⟨_, rfl⟩
        have HA4 : Hid (AllB w W2 w.heap.size S (Value.slice (some ⟨g3, 0, none⟩) (E.length + 1) c3) (E ++ [((⟨ac, ar, sq, ds, kd, nc, nr, pc, pr, fc, fr, nm, vl⟩ : Ch), .slice a2 ds.length c2)]) Ua3u14) := by rw [eW]; exact HP3.out _ rfl
        have HKf4 : Hid (KF W2.heap.size W Ua3u14) := by rw [eW]; exact KeepsFrom.trans HKf3.out (keepsFrom_set _ _ _)
        have HKw4 : Hid (KeepsG S W Ua3u14) := by rw [eW]; exact HKw3.out.set HB0.out.2
        rw [← eW] at hHeld ⊢
        clear eW xo xf HP3 HKf3 HKw3 HBX3
        refine wpAnyH_done (by kernel_rfl) ?_ _
        clear hHeld
        exact ⟨HKf4.out, HKw4.out.1, _, _, HA4.out, by rw [List.map_append, HEm.out]; exact HTk.out⟩
  case done =>
    rintro Dd W hDd ⟨ov, E, hA, hE⟩ hDf
    have hXd : W.heap[Dd]? = some (.deferred (some [])) := hDf
    have HA : Hid (AllB w W2 w.heap.size S ov E W) := hA
    have hE2 : E.map Prod.fst = lackL L [] := by rw [hE, lackE_length, List.take_length]
    have HE : Hid (E.map Prod.fst = lackL L []) := hE2
    have HDf : Hid (W.heap[Dd]? = some (.deferred (some []))) := hDf
    have x1 := hA.box.cell
    clear hA hE hE2 hDf hXd
    gi_wp2
    refine ⟨by simp, .inl ⟨_, _, rfl, run_takeDeferred HDf.out, ?_⟩⟩
    have hgp : W.grownBy (W.putObj Dd (.deferred none)) (some Dd) := grownBy_putObj' W Dd (.deferred none)
    have hE := HA.out.grown hgp (fun r e => by cases e; exact ⟨hDd, _, HDf.out, rfl⟩)
    exact ⟨_, results_tmp rfl _ _ _, ov, E, rfl, HE.out, ownsRow_low hE.own hE.b4, fun x hx => ⟨(hE.dep x hx).1.low hE.b4, (hE.dep x hx).2⟩, hE.bel⟩
  case stop => rintro D c k W hD hk hf; exact hf.elim

end Go.Proofs.YtckipepodohnpaaGreat

namespace Go.Proofs.YtckipepodohnpaaGreat
open Go.RowKit Go.Shelf
set_option linter.unusedVariables false
set_option linter.unusedSimpArgs false

attribute [local go_sem] Oper.semAt_some

/-- What Since answers. -/
def sinceR (L : List Ch) (kn : List Int) (most : Int) : List Ch × Bool × Int := if checkL kn ≠ 0 then ([], false, checkL kn) else if most < 1 then ([], false, 1) else ((lackL L kn).take most.toNat, decide (most < ((lackL L kn).length : Int)), 0)
theorem results_since {fn : Func} (hr : fn.results = #[.cell 6 22, .cell 7 4, .cell 8 24]) (tmps : Array Value) (R1 R2 R3 : Nat) (w : World) (a : Option Addr) (n c : Nat) (b : Bool) (e : Int) (h1 : tmps.getD 6 undef = .pointer (some ⟨R1, 0, none⟩)) (h2 : tmps.getD 7 undef = .pointer (some ⟨R2, 0, none⟩)) (h3 : tmps.getD 8 undef = .pointer (some ⟨R3, 0, none⟩))
    (c1 : w.cell? ⟨R1, 0, none⟩ = some (.slice a n c)) (c2 : w.cell? ⟨R2, 0, none⟩ = some (.bool b)) (c3 : w.cell? ⟨R3, 0, none⟩ = some (.int .i64 e)) : (results fn tmps).run Tryz.prog w = .ok (.tuple #[.slice a n c, .bool b, .int .i64 e]) w := by
  have h1' : tmps[6]?.getD undef = .pointer (some ⟨R1, 0, none⟩) := by simpa using h1
  have h2' : tmps[7]?.getD undef = .pointer (some ⟨R2, 0, none⟩) := by simpa using h2
  have h3' : tmps[8]?.getD undef = .pointer (some ⟨R3, 0, none⟩) := by simpa using h3
  simp [results, hr, h1', h2', h3', asAddr, loadVar, isAgg, run_underlying Tryz.underlying4, run_underlying Tryz.underlying22, run_underlying Tryz.underlying24, load, go_sem]
  simp [Sem.run, c1, c2, c3]

/-- The boxes of most and of the results. -/
def Four (b r1 r2 r3 : Nat) (most : Int) (W : World) : Prop := Boxed W b 3 (.int .i64 most) ∧ Boxed W r1 22 (.slice none 0 0) ∧ Boxed W r2 4 (.bool false) ∧ Boxed W r3 24 (.int .i64 0)
theorem Four.cells {b r1 r2 r3 : Nat} {most : Int} {W : World} (h : Four b r1 r2 r3 most W) : (W.cell? ⟨b, 0, none⟩ = some (.int .i64 most) ∧ W.frozen? ⟨b, 0, none⟩ = false) ∧ (W.cell? ⟨r1, 0, none⟩ = some (.slice none 0 0) ∧ W.frozen? ⟨r1, 0, none⟩ = false) ∧ (W.cell? ⟨r2, 0, none⟩ = some (.bool false) ∧ W.frozen? ⟨r2, 0, none⟩ = false) ∧ (W.cell? ⟨r3, 0, none⟩ = some (.int .i64 0) ∧ W.frozen? ⟨r3, 0, none⟩ = false) :=
  ⟨⟨h.1.cell, h.1.frozen⟩, ⟨h.2.1.cell, h.2.1.frozen⟩, ⟨h.2.2.1.cell, h.2.2.1.frozen⟩, ⟨h.2.2.2.cell, h.2.2.2.frozen⟩⟩
theorem Four.keep {w : World} {r1 r2 r3 r4 : Nat} {most : Int} {W W' : World} (h : Four w.heap.size r1 r2 r3 most W) (hk : ∀ k, k < r4 → W'.heap[k]? = W.heap[k]?) (hr : r1 = w.heap.size + 1 ∧ r2 = w.heap.size + 2 ∧ r3 = w.heap.size + 3 ∧ r4 = w.heap.size + 4) : Four w.heap.size r1 r2 r3 most W' :=
  ⟨(hk _ (by omega)).trans h.1, (hk _ (by omega)).trans h.2.1, (hk _ (by omega)).trans h.2.2.1, (hk _ (by omega)).trans h.2.2.2⟩
theorem boxed_far {W : World} {b g i : Nat} {t : TypeId} {v u : Value} (h : Boxed W b t v) (hne : b ≠ g) : Boxed (W.setCell ⟨g, i, none⟩ u) b t v := (RowKit.Below.heap_setCell _ _ _ _ hne).trans h
theorem set3 {w : World} {r1 r2 r3 r4 : Nat} {most : Int} {W : World} (h : Four w.heap.size r1 r2 r3 most W) (hr : r1 = w.heap.size + 1 ∧ r2 = w.heap.size + 2 ∧ r3 = w.heap.size + 3 ∧ r4 = w.heap.size + 4) (a b c : Value) (hb : Below w.heap.size w W) :
    Boxed (((W.setCell ⟨r1, 0, none⟩ a).setCell ⟨r2, 0, none⟩ b).setCell ⟨r3, 0, none⟩ c) r1 22 a ∧ Boxed (((W.setCell ⟨r1, 0, none⟩ a).setCell ⟨r2, 0, none⟩ b).setCell ⟨r3, 0, none⟩ c) r2 4 b ∧ Boxed (((W.setCell ⟨r1, 0, none⟩ a).setCell ⟨r2, 0, none⟩ b).setCell ⟨r3, 0, none⟩ c) r3 24 c ∧ Below w.heap.size w (((W.setCell ⟨r1, 0, none⟩ a).setCell ⟨r2, 0, none⟩ b).setCell ⟨r3, 0, none⟩ c) := by
  obtain ⟨e1, e2, e3, _⟩ := hr
  refine ⟨boxed_far (boxed_far (h.2.1.set a) (by omega)) (by omega), boxed_far ((boxed_far h.2.2.1 (by omega)).set b) (by omega), (boxed_far (boxed_far h.2.2.2 (by omega)) (by omega)).set c, ?_⟩
  exact ((hb.setCell (p := ⟨r1, 0, none⟩) (by show _ ≤ r1; omega) _).setCell (p := ⟨r2, 0, none⟩) (by show _ ≤ r2; omega) _).setCell (p := ⟨r3, 0, none⟩) (by show _ ≤ r3; omega) _

theorem rowIn_new {w W : World} {a : Option Addr} {d : List Int} (S : Nat → Prop) (hr : d = [] ∨ ∃ b o, a = some ⟨b, o, none⟩ ∧ IntsAt w b o d) (hb : Below w.heap.size w W) (hS : ∀ k, k < w.heap.size → S k) : RowIn S W a d := by
  by_cases hd : d = []
  · exact .inl hd
  · obtain ⟨b, o, e, hr⟩ := hr.resolve_left hd
    exact .inr ⟨b, o, e, hS b (hr.lt hd), hr.below hb⟩
/-- What lies where when Since returns. -/
def RetS (w W2 : World) (r1 r2 r3 : Nat) (L : List Ch) (sv : Value) (b : Bool) (U : World) : Prop := ∃ E : List (Ch × Value), E.map Prod.fst = L ∧ OwnH W2.heap.size U sv E ∧ (∀ x ∈ E, OwnI W2.heap.size U x.2 x.1.deps ∧ Sized x.1 ∧ x.1.deps.length ≤ 17592186044416) ∧ Below w.heap.size w U ∧ Boxed U r1 22 sv ∧ Boxed U r2 4 (.bool b) ∧ Boxed U r3 24 (.int .i64 0) ∧ w.heap.size ≤ W2.heap.size
theorem RetS.grown {w W2 : World} {r1 r2 r3 : Nat} {L : List Ch} {sv : Value} {b : Bool} {U U' : World} (h : RetS w W2 r1 r2 r3 L sv b U) {row : Option Nat} (hg : U.grownBy U' row) (hr : ∀ r, row = some r → W2.heap.size ≤ r ∧ ∃ o : Obj, U.heap[r]? = some o ∧ o.isCells = false) : RetS w W2 r1 r2 r3 L sv b U' := by
  have hr2 : ∀ r, row = some r → ∃ o : Obj, U.heap[r]? = some o ∧ o.isCells = false := fun r e => (hr r e).2
  obtain ⟨E, q1, q2, q3, q4, q5, q6, q7, q8⟩ := h
  exact ⟨E, q1, ownsRow_own q2 hg hr2, fun x hx => ⟨ownsRow_own (q3 x hx).1 hg hr2, (q3 x hx).2⟩, q4.grown hg q4.size (fun j e => Nat.le_trans q8 (hr j e).1), row_own q5 hg hr2, row_own q6 hg hr2, row_own q7 hg hr2, q8⟩
theorem RetS.of {w W2 : World} {r1 r2 r3 r4 : Nat} {most : Int} {S : Nat → Prop} {L : List Ch} {sv : Value} {E : List (Ch × Value)} {U : World} (h : AllB w W2 r4 S sv E U) (hf : Four w.heap.size r1 r2 r3 most U) (hr : r1 = w.heap.size + 1 ∧ r2 = w.heap.size + 2 ∧ r3 = w.heap.size + 3 ∧ r4 = w.heap.size + 4) (b : Bool) (hE : E.map Prod.fst = L) :
    RetS w W2 r1 r2 r3 L sv b (((U.setCell ⟨r1, 0, none⟩ sv).setCell ⟨r2, 0, none⟩ (.bool b)).setCell ⟨r3, 0, none⟩ (.int .i64 0)) := by
  obtain ⟨c1, c2, c3, c4⟩ := set3 hf hr sv (.bool b) (.int .i64 0) h.bel
  obtain ⟨e1, e2, e3, e4⟩ := hr
  have hb2 := h.b2
  have far : ∀ k, W2.heap.size ≤ k → (((U.setCell ⟨r1, 0, none⟩ sv).setCell ⟨r2, 0, none⟩ (.bool b)).setCell ⟨r3, 0, none⟩ (.int .i64 0)).heap[k]? = U.heap[k]? := fun k hk =>
    (RowKit.Below.heap_setCell _ _ _ _ (by show k ≠ r3; omega)).trans ((RowKit.Below.heap_setCell _ _ _ _ (by show k ≠ r2; omega)).trans (RowKit.Below.heap_setCell _ _ _ _ (by show k ≠ r1; omega)))
  exact ⟨E, hE, ownsRow_keep h.own fun k e => far k (World.ownsRow.lt h.own k e).1, fun x hx => ⟨OwnI.keepF (h.dep x hx).1 fun k e => far k (World.ownsRow.lt (h.dep x hx).1 k e).1, (h.dep x hx).2⟩, c4, c1, c2, c3, h.b4⟩

set_option maxRecDepth 100000 in
set_option maxHeartbeats 8000000 in
theorem since_in (n : Nat) (hn : 5 ≤ n) (v : Value) (room : Int) (L : List Ch) (F : Nat → Prop) (kv : Value) (kn : List Int) (most : Int) (w : World) (h : LogV F w v room L) (hs : Srt L) (hl : L.length ≤ 4096) (hk : IsI w kv kn) :
    CallsIn Fence.wide n Tryz.prog 21 #[v, kv, .int .i64 most] w fun e w' => ∃ v' E, e = .returned (.tuple #[v', .bool (sinceR L kn most).2.1, .int .i64 (sinceR L kn most).2.2]) ∧ E.map Prod.fst = (sinceR L kn most).1 ∧ OwnH w.heap.size w' v' E ∧ (∀ x ∈ E, OwnI w.heap.size w' x.2 x.1.deps ∧ Sized x.1 ∧ x.1.deps.length ≤ 17592186044416) ∧ Below w.heap.size w w' := by
  obtain ⟨i0, hi, hz0, hz1, hz2⟩ := info_parts infoChange
  have hro : Fence.wide.round = none := rfl
  have h1n : 1 ≤ n := by omega
  have hFl := h.lt
  have HIk : Hid (IsI w kv kn) := hk
  obtain ⟨ak, ck, rfl, hck, hkl, hrk⟩ := hk
  have HRk : Hid (kn = [] ∨ ∃ b o, ak = some ⟨b, o, none⟩ ∧ IntsAt w b o kn) := hrk
  have HLv : Hid (LogV F w v room L) := h
  have HSrt : Hid (Srt L) := hs
  have HDf : Hid (sinceR L kn most = if checkL kn ≠ 0 then ([], false, checkL kn) else if most < 1 then ([], false, 1) else ((lackL L kn).take most.toNat, decide (most < ((lackL L kn).length : Int)), 0)) := rfl
  clear hrk h hs
  refine callsIn_of_wp_marks Tryz.func21 rfl trivial ?_ hro
  simp only [Tryz.ntmps21, List.size_toArray, List.length_cons, List.length_nil, Nat.reduceAdd, Nat.reduceSub, Array.replicate_succ, Array.replicate_zero, List.push_toArray, List.append_toArray, List.nil_append, List.cons_append]
  gi_wp2_with fail
  refine ⟨trivial, ?_⟩
  obtain ⟨W0, eW0⟩ : ∃ X, X = (((w.alloc (.cells #[.int .i64 most] 3)).alloc (.cells #[.slice none 0 0] 22)).alloc (.cells #[.bool false] 4)).alloc (.cells #[.int .i64 0] 24) := ⟨_, rfl⟩
  obtain ⟨r3, e3⟩ : ∃ b, b = w.heap.size + 1 + 1 + 1 := ⟨_, rfl⟩
  obtain ⟨r2, e2⟩ : ∃ b, b = w.heap.size + 1 + 1 := ⟨_, rfl⟩
  obtain ⟨r1, e1⟩ : ∃ b, b = w.heap.size + 1 := ⟨_, rfl⟩
  obtain ⟨r4, e4⟩ : ∃ b, b = W0.heap.size := ⟨_, rfl⟩
  have hs0 : W0.heap.size = w.heap.size + 4 := by rw [eW0]; simp
  have HRs : Hid (r1 = w.heap.size + 1 ∧ r2 = w.heap.size + 2 ∧ r3 = w.heap.size + 3 ∧ r4 = w.heap.size + 4) := ⟨e1, e2, e3, e4.trans hs0⟩
  have HFr : Hid (Four w.heap.size r1 r2 r3 most W0) := by
    rw [eW0, e1, e2, e3]
    refine ⟨?_, ?_, ?_, ?_⟩
    · exact (((Boxed.new w 3 (.int .i64 most)).alloc _).alloc _).alloc _
    · have := ((Boxed.new (w.alloc (.cells #[.int .i64 most] 3)) 22 (.slice none 0 0)).alloc (.cells #[.bool false] 4)).alloc (.cells #[.int .i64 0] 24)
      rw [show (w.alloc (.cells #[.int .i64 most] 3)).heap.size = w.heap.size + 1 by simp] at this
      exact this
    · have := (Boxed.new ((w.alloc (.cells #[.int .i64 most] 3)).alloc (.cells #[.slice none 0 0] 22)) 4 (.bool false)).alloc (.cells #[.int .i64 0] 24)
      rw [show ((w.alloc (.cells #[.int .i64 most] 3)).alloc (.cells #[.slice none 0 0] 22)).heap.size = w.heap.size + 1 + 1 by simp] at this
      exact this
    · have := Boxed.new (((w.alloc (.cells #[.int .i64 most] 3)).alloc (.cells #[.slice none 0 0] 22)).alloc (.cells #[.bool false] 4)) 24 (.int .i64 0)
      rw [show (((w.alloc (.cells #[.int .i64 most] 3)).alloc (.cells #[.slice none 0 0] 22)).alloc (.cells #[.bool false] 4)).heap.size = w.heap.size + 1 + 1 + 1 by simp] at this
      exact this
  have HB0 : Hid (Below w.heap.size w W0) := by rw [eW0]; exact ((((Below.refl _ _).alloc (Nat.le_refl _) _).alloc (by simp) _).alloc (by simp; omega) _).alloc (by simp; omega) _
  rw [← eW0, ← e3, ← e2, ← e1]
  have n12 : r1 ≠ r2 := by have := HRs.out; omega
  have n13 : r1 ≠ r3 := by have := HRs.out; omega
  have n14 : r1 ≠ r4 := by have := HRs.out; omega
  have n21 : r2 ≠ r1 := by have := HRs.out; omega
  have n23 : r2 ≠ r3 := by have := HRs.out; omega
  have n24 : r2 ≠ r4 := by have := HRs.out; omega
  have n31 : r3 ≠ r1 := by have := HRs.out; omega
  have n32 : r3 ≠ r2 := by have := HRs.out; omega
  have n34 : r3 ≠ r4 := by have := HRs.out; omega
  have n41 : r4 ≠ r1 := by have := HRs.out; omega
  have n42 : r4 ≠ r2 := by have := HRs.out; omega
  have n43 : r4 ≠ r3 := by have := HRs.out; omega
  clear eW0 e1 e2 e3 hs0
  refine (callsIn_wide.2 (check_any _ kn _ (HIk.out.below HB0.out))).mono ?_
  rintro e w' ⟨rfl, hw⟩
  replace hw := hw.symm
  subst hw
  obtain ⟨⟨x0, f0⟩, ⟨x1, f1⟩, ⟨x2, f2⟩, ⟨x3, f3⟩⟩ := HFr.out.cells
  by_cases hc : checkL kn = 0
  · rw [hc]
    by_cases hm : most < 1
    · have HS3 := set3 HFr.out HRs.out (.slice none 0 0) (.bool false) (.int .i64 1) HB0.out
      have HSq : Hid (sinceR L kn most = ([], false, 1)) := by rw [HDf.out, if_neg (by simp [hc]), if_pos hm]; rfl
      have HS4 : Hid _ := HS3
      clear HS3 HDf
      gi_wp2
      obtain ⟨c1, c2, c3, hbl⟩ := HS4.out
      refine ⟨_, results_since rfl _ r1 r2 r3 _ none 0 0 false 1 rfl rfl rfl c1.cell c2.cell c3.cell, .slice none 0 0, [], by rw [HSq.out], by rw [HSq.out]; rfl, OwnH.nil0 _ _, fun x hx => by simp at hx, hbl⟩
    · have HSq : Hid (sinceR L kn most = ((lackL L kn).take most.toNat, decide (most < ((lackL L kn).length : Int)), 0)) := by rw [HDf.out, if_neg (by simp [hc]), if_neg hm]; rfl
      clear HDf
      clear hc
      gi_wp2_with fail
      refine ⟨trivial, ?_⟩
      obtain ⟨W1, eW1⟩ : ∃ X, X = W0.alloc (.cells #[.slice none 0 0] 22) := ⟨_, rfl⟩
      have hbA : Below W0.heap.size W0 W1 := by rw [eW1]; exact (Below.refl _ _).alloc (Nat.le_refl _) _
      have HX0 : Hid (Boxed W1 r4 22 (.slice none 0 0)) := by rw [e4, eW1]; exact heap_alloc_new _ _
      have hs1 : W1.heap.size = r4 + 1 := by rw [e4, eW1]; simp
      rw [← eW1, ← e4]
      have HFr1 : Hid (Four w.heap.size r1 r2 r3 most W1) := HFr.out.keep (fun k hk => hbA.block k (by have := HRs.out; omega)) HRs.out
      have HBe1 : Hid (Below w.heap.size w W1) := HB0.out.trans (hbA.mono HB0.out.size)
      clear x0 x1 x2 x3 f0 f1 f2 f3 HFr HB0 eW1 e4 hbA
      refine (callsIn_wide.2 (orEmpty_any v room L F _ (HLv.out.below HBe1.out))).mono ?_
      rintro e w1 ⟨lb, F', rfl, ⟨mb, ord, own, D, h1⟩, h2, hff⟩
      have HL1 : Hid (LogIs F' w1 lb room L mb ord own D) := h1
      have HB1 : Hid (Below w.heap.size w w1) := HBe1.out.trans (h2.mono HBe1.out.size)
      have HX1 : Hid (Boxed w1 r4 22 (.slice none 0 0)) := (h2.block _ (by omega)).trans HX0.out
      have HF1 : Hid (¬ F' r4) := fun hk => by have hr := HRs.out; rcases hff _ hk with h3 | h3; exact absurd (hFl _ h3) (by omega); omega
      have hsz1 : r4 < w1.heap.size := by have := h2.size; omega
      have HFr2 : Hid (Four w.heap.size r1 r2 r3 most w1) := HFr1.out.keep (fun k hk => h2.block k (by have := HRs.out; omega)) HRs.out
      clear h1 h2 hff HX0 HFr1 HBe1 hs1
      gi_wp2_with fail
      refine ⟨trivial, ?_⟩
      refine (callsIn_wide.2 (missing_any lb (.slice ak kn.length ck) _ ⟨_, _, _, rfl⟩)).mono ?_
      rintro e w2 ⟨rfl, hw2⟩
      gi_wp2
      obtain ⟨W2, eW2⟩ : ∃ X, X = w2 := ⟨_, rfl⟩
      have HC1 : Hid (W2.cell? ⟨w1.heap.size, 0, none⟩ = some (.pointer (some ⟨lb, 0, none⟩))) := by
        rw [eW2, hw2]
        have := (Boxed.new w1 23 (.pointer (some ⟨lb, 0, none⟩))).alloc (.cells #[.slice ak kn.length ck] 32)
        exact this.cell
      have HC2 : Hid (W2.cell? ⟨w1.heap.size + 1, 0, none⟩ = some (.slice ak kn.length ck)) := by
        rw [eW2, hw2]
        have := Boxed.new (w1.alloc (.cells #[.pointer (some ⟨lb, 0, none⟩)] 23)) 32 (.slice ak kn.length ck)
        rw [show (w1.alloc (.cells #[.pointer (some ⟨lb, 0, none⟩)] 23)).heap.size = w1.heap.size + 1 by simp] at this
        exact this.cell
      have hb2 : Below w1.heap.size w1 W2 := by rw [eW2, hw2]; exact ((Below.refl _ _).alloc (Nat.le_refl _) _).alloc (by simp) _
      have hsz2 : W2.heap.size = w1.heap.size + 2 := by rw [eW2, hw2]; simp
      rw [← hw2, ← eW2]
      clear eW2 hw2
      have HL2 : Hid (LogIs F' W2 lb room L mb ord own D) := HL1.out.below hb2
      have HFr3 : Hid (Four w.heap.size r1 r2 r3 most W2) := HFr2.out.keep (fun k hk => hb2.block k (by have := HRs.out; omega)) HRs.out
      obtain ⟨S, eS⟩ : ∃ S : Nat → Prop, S = fun k => F' k ∨ k = w1.heap.size ∨ k = w1.heap.size + 1 ∨ k < r4 := ⟨_, rfl⟩
      have HS : Hid (∀ k, S k → k < W2.heap.size) := fun k hk => by rw [eS] at hk; rcases hk with hk | rfl | rfl | hk; exact HL2.out.lt k hk; omega; omega; omega
      have HSr : Hid (∀ k, k < r4 → S k) := fun k hk => by rw [eS]; exact .inr (.inr (.inr hk))
      have HA0 : Hid (AllB w W2 r4 S (.slice none 0 0) [] W2) :=
        ⟨(hb2.block _ hsz1).trans HX1.out, OwnH.nil0 _ _, fun x hx => by simp at hx, HB1.out.trans (hb2.mono HB1.out.size), ⟨KeepsS.refl _ _, HS.out⟩, by have := HRs.out; omega, by omega, fun hk => by rw [eS] at hk; rcases hk with hk | hk | hk | hk; exact HF1.out hk; omega; omega; omega, by have := HRs.out; omega⟩
      have HSF : Hid (∀ k, F' k → S k) := fun k hk => by rw [eS]; exact .inl hk
      have HRw : Hid (RowIn S W2 ak kn) := rowIn_new S HRk.out (HB1.out.trans (hb2.mono HB1.out.size)) (fun k hk => HSr.out k (by have := HRs.out; omega))
      have HSq0 := missing_seq (n - 1) (by omega) w1.heap.size (w1.heap.size + 1) ck S F' lb room L mb ord own D ak kn W2 HL2.out HSrt.out hl HSF.out (by rw [eS]; exact .inr (.inl rfl)) (by rw [eS]; exact .inr (.inr (.inl rfl))) HA0.out.kp.2 HC1.out HC2.out HRw.out hck hkl
      clear eS hb2 HX1 HF1 HS HC1 HC2 HL1 HFr2 HRw
      have hm1 : 1 ≤ most := by omega
      refine range_of h1n (gf := 64) (lb := #[.pointer (some ⟨w1.heap.size, 0, none⟩), .pointer (some ⟨w1.heap.size + 1, 0, none⟩)]) rfl (enters_of Tryz.func64 (by kernel_rfl) rfl) HSq0 KeepsS.trans (keepsSK_b HA0.out.kp.2) (Below.refl _ _) (fun _ => rfl)
        (fun k W => ∃ ov E, AllB w W2 r4 S ov E W ∧ E.map Prod.fst = (lackL L kn).take k ∧ (k : Int) ≤ most) (fun c k W => c = .ret ∧ most < ((lackL L kn).length : Int) ∧ ∃ sv, RetS w W2 r1 r2 r3 ((lackL L kn).take most.toNat) sv true W)
        (fun k A B row ⟨ov, E, h1, h2, h3⟩ hg hr => ⟨ov, E, h1.grown hg hr, h2, h3⟩) (fun c k A B row ⟨h1, h2, sv, h3⟩ hg hr => ⟨h1, h2, sv, h3.grown hg hr⟩) ⟨_, _, HA0.out, rfl, by omega⟩
        (fun x a' W => ∃ Bx ov, W2.heap.size ≤ Bx ∧ W.heap[Bx]? = some (.cells (chCells x.1 x.2).toArray 34) ∧ Boxed W r4 22 ov ∧ ov.ownBlock ≠ some Bx ∧ a' = { tmps := #[v, .slice ak kn.length ck, .int .i64 most, undef, undef, .pointer (some ⟨w.heap.size, 0, none⟩), .pointer (some ⟨r1, 0, none⟩), .pointer (some ⟨r2, 0, none⟩), .pointer (some ⟨r3, 0, none⟩), .int .i64 0, .pointer (some ⟨r4, 0, none⟩), .pointer (some ⟨Bx, 0, none⟩), .slice ak kn.length ck, .int .i64 0, .int .i64 0, .bool false, undef, .int .i64 most, .bool (decide (most < 1)), v, .pointer (some ⟨lb, 0, none⟩), .slice ak kn.length ck, .func (.func 64) #[] #[.pointer (some ⟨w1.heap.size, 0, none⟩), .pointer (some ⟨w1.heap.size + 1, 0, none⟩)], chV x.1 x.2, undef, undef, undef, undef, undef, undef, undef, undef, undef, undef, undef], defers := [] })
        (fun x a' u A B row ⟨Bx, ov, h1, h2, h3, h4, h5⟩ hg hr => ⟨Bx, ov, h1, row_own h2 hg (fun r e => (hr r e).2), row_own h3 hg (fun r e => (hr r e).2), h4, h5⟩)
        ?assign ?body ?done ?stop
      case assign =>
        rintro l k hk W K ⟨ov, E, hA, hE, hkm⟩ hK
        obtain ⟨⟨ac, ar, sq, ds, kd, nc, nr, pc, pr, fc, fr, nm, vl⟩, a0, c0, e1, _⟩ := lackE_get HL2.out HSrt.out hk
        rw [e1] at hK ⊢
        have hb : Below W.heap.size W (W.alloc (.cells #[.int .i64 ac, .int .i64 ar, .int .i64 sq, .slice a0 ds.length c0, .int .i64 kd, .int .i64 nc, .int .i64 nr, .int .i64 pc, .int .i64 pr, .int .i64 fc, .int .i64 fr, .string nm, .string vl] 34)) := (Below.refl _ _).alloc (Nat.le_refl _) _
        have hfin := fun a' e5 => hK a' (W.alloc (.cells #[.int .i64 ac, .int .i64 ar, .int .i64 sq, .slice a0 ds.length c0, .int .i64 kd, .int .i64 nc, .int .i64 nr, .int .i64 pc, .int .i64 pr, .int .i64 fc, .int .i64 fr, .string nm, .string vl] 34)) (keepsFrom_below hb) (KeepsS.of_below hb (fun j hj => Nat.lt_of_lt_of_le (hA.kp.2 j hj) hA.size)) ⟨ov, E, hA.below hb, hE, hkm⟩ ⟨W.heap.size, ov, hA.size, heap_alloc_new _ _, (hb.block _ hA.box.lt).trans hA.box, fun e => by have := (World.ownsRow.lt hA.own _ e).2; omega, e5⟩
        have HFin : Hid (K { tmps := #[v, .slice ak kn.length ck, .int .i64 most, undef, undef, .pointer (some ⟨w.heap.size, 0, none⟩), .pointer (some ⟨r1, 0, none⟩), .pointer (some ⟨r2, 0, none⟩), .pointer (some ⟨r3, 0, none⟩), .int .i64 0, .pointer (some ⟨r4, 0, none⟩), .pointer (some ⟨W.heap.size, 0, none⟩), .slice ak kn.length ck, .int .i64 0, .int .i64 0, .bool false, undef, .int .i64 most, .bool (decide (most < 1)), v, .pointer (some ⟨lb, 0, none⟩), .slice ak kn.length ck, .func (.func 64) #[] #[.pointer (some ⟨w1.heap.size, 0, none⟩), .pointer (some ⟨w1.heap.size + 1, 0, none⟩)], .agg #[.int .i64 ac, .int .i64 ar, .int .i64 sq, .slice a0 ds.length c0, .int .i64 kd, .int .i64 nc, .int .i64 nr, .int .i64 pc, .int .i64 pr, .int .i64 fc, .int .i64 fr, .string nm, .string vl], undef, undef, undef, undef, undef, undef, undef, undef, undef, undef, undef], defers := [] } (W.alloc (.cells #[.int .i64 ac, .int .i64 ar, .int .i64 sq, .slice a0 ds.length c0, .int .i64 kd, .int .i64 nc, .int .i64 nr, .int .i64 pc, .int .i64 pr, .int .i64 fc, .int .i64 fr, .string nm, .string vl] 34))) := hfin _ rfl
        clear hK hfin hb hA hE
        simp only [encH, chV, chCells]
        gi_wp2
        exact HFin.out
      case body =>
        rintro l k hk a' W hlD ⟨ov, E, hA, hE, hkm⟩ ⟨Bx, ov2, hx1, hx2, hx3, hx4, rfl⟩
        have eov : ov2 = ov := by have := hx3.symm.trans hA.box; injection this with this; injection this with this; injection this with this; injection this
        subst eov
        have hkl2 : k < (lackL L kn).length := by rw [← lackE_length D]; exact hk
        obtain ⟨⟨ac, ar, sq, ds, kd, nc, nr, pc, pr, fc, fr, nm, vl⟩, a0, c0, e1, e2, e3, e4, e5, e6, e7⟩ := lackE_get HL2.out HSrt.out hk
        rw [e1] at hx2
        simp only [e1]
        have hEk : E.length = k := by
          have h1 : E.length = ((lackL L kn).take k).length := by rw [← hE]; simp
          rw [h1, List.length_take]
          omega
        have hEl : E.length ≤ 4096 := by
          have h2 : (lackL L kn).length ≤ L.length := List.length_filter_le _ _
          omega
        obtain ⟨aw, cw, eo⟩ := hA.own.form
        subst eo
        have HA : Hid (AllB w W2 r4 S (.slice aw E.length cw) E W) := hA
        have HFr : Hid (Four w.heap.size r1 r2 r3 most W) := HFr3.out.keep (fun j hj => hA.kp.1.2 j (HSr.out j hj)) HRs.out
        have xb := hA.box.cell
        have xf := hA.box.frozen
        obtain ⟨⟨x0, f0⟩, ⟨x1, f1⟩, ⟨x2, f2⟩, ⟨x3, f3⟩⟩ := HFr.out.cells
        by_cases hq : (E.length : Int) = most
        · have HRt : Hid (RetS w W2 r1 r2 r3 ((lackL L kn).take most.toNat) (.slice aw E.length cw) true (((W.setCell ⟨r1, 0, none⟩ (.slice aw E.length cw)).setCell ⟨r2, 0, none⟩ (.bool true)).setCell ⟨r3, 0, none⟩ (.int .i64 0))) := RetS.of hA HFr.out HRs.out true (by rw [hE]; congr 1; omega)
          have HKf : Hid (KeepsFrom W2.heap.size W (((W.setCell ⟨r1, 0, none⟩ (.slice aw E.length cw)).setCell ⟨r2, 0, none⟩ (.bool true)).setCell ⟨r3, 0, none⟩ (.int .i64 0))) := KeepsFrom.trans (KeepsFrom.trans (keepsFrom_set _ _ _) (keepsFrom_set _ _ _)) (keepsFrom_set _ _ _)
          have hml : most < ((lackL L kn).length : Int) := by omega
          have hq2 : ((E.length : Int) == most) = true := by rw [beq_iff_eq]; exact hq
          clear hA hE hx2 hx3 hx4 e1 e2 e3 e4 e5 e6 e7 hEk hkm
          rw [← hq] at x0
          simp only [chV, chCells]
          gi_wp2
          exact ⟨HKf.out, rfl, hml, _, HRt.out⟩
        · have hq2 : ((E.length : Int) == most) = false := by rw [beq_eq_false_iff_ne]; exact hq
          have HKf : Hid (KF W2.heap.size W W) := keepsFrom_below (Below.refl _ _)
          have HKw : Hid (KeepsG S W W) := ⟨KeepsS.refl _ _, fun j hj => Nat.lt_of_lt_of_le (hA.kp.2 j hj) hA.size⟩
          have HIc : Hid (IsI W (.slice a0 ds.length c0) ds) := OwnI.isI (e2.keepF fun j e => hA.kp.1.2 j (HSF.out j (e5 j e))) e4
          have HBx : Hid (W.drew.heap[Bx]? = some (.cells #[.int .i64 ac, .int .i64 ar, .int .i64 sq, .slice a0 ds.length c0, .int .i64 kd, .int .i64 nc, .int .i64 nr, .int .i64 pc, .int .i64 pr, .int .i64 fc, .int .i64 fr, .string nm, .string vl] 34)) := hx2
          have HNe : Hid ((Value.slice aw E.length cw).ownBlock ≠ some Bx) := hx4
          have HSz : Hid (Sized (⟨ac, ar, sq, ds, kd, nc, nr, pc, pr, fc, fr, nm, vl⟩ : Ch) ∧ ds.length ≤ 17592186044416) := ⟨e3, e4⟩
          have HEm : Hid (E.map Prod.fst = (lackL L kn).take k) := hE
          have HTk : Hid ((lackL L kn).take k ++ [(⟨ac, ar, sq, ds, kd, nc, nr, pc, pr, fc, fr, nm, vl⟩ : Ch)] = (lackL L kn).take (k + 1)) := e6.symm
          have hkm2 : (k : Int) + 1 ≤ most := by omega
          clear e1 e2 e3 e4 e5 e6 e7 hA hE hx2 hx3 hx4 hkm hEk hq HFr
          simp only [chV, chCells]
          gi_wp2
          clear x0 x1 x2 x3 f0 f1 f2 f3 xb xf
          refine region_round_held (S := fun W' => W'.heap[Bx]? = some (.cells #[.int .i64 ac, .int .i64 ar, .int .i64 sq, .slice a0 ds.length c0, .int .i64 kd, .int .i64 nc, .int .i64 nr, .int .i64 pc, .int .i64 pr, .int .i64 fc, .int .i64 fr, .string nm, .string vl] 34)) l (by kernel_rfl) (by kernel_rfl) (lets_block lets_round) HBx.out (fun hHeld => ?_)
          obtain ⟨Ua4u0, eW⟩ : ∃ X, X = W.drew := ⟨_, rfl⟩
          have hb : Below W.heap.size W Ua4u0 := by rw [eW]; exact (Below.refl _ _).drew
          replace HA : Hid (AllB w W2 r4 S (.slice aw E.length cw) E Ua4u0) := HA.out.below hb
          replace HKf : Hid (KF W2.heap.size W Ua4u0) := HKf.out.below hb
          replace HKw : Hid (KeepsG S W Ua4u0) := HKw.out.below hb
          replace HIc : Hid (IsI Ua4u0 (.slice a0 ds.length c0) ds) := HIc.out.below hb
          rw [← eW] at hHeld ⊢
          clear eW hb
          refine wpAnyH_take (i := 1) (oi := ⟨some 30, _, _, _, _, _⟩) (v := ?va4ux1) rfl (by kernel_rfl) (by kernel_rfl) (by kernel_rfl) (fun _ _ _ h => h) (Or.inl ⟨by rfl, ?hya4ux1⟩) hHeld ?resta4ux1
          case hya4ux1 => (intro w hSw; (try dsimp only at hSw); have hk := hSw; obtain ⟨k_0, k_1, k_2, k_3, k_4, k_5, k_6, k_7, k_8, k_9, k_10, k_11, k_12⟩ := row_cells hk; go_simp; try with_reducible rfl)
          simp only [Act.put, List.setIfInBounds_toArray, List.set_cons_zero, List.set_cons_succ]
          refine wpAnyH_ready (rs := [0, 2]) (by kernel_rfl) (by simp) ?_
          refine AllReadyH.cons (o := ⟨some 29, _, _, _, _, _⟩) rfl (fun K hK => ?_) (AllReadyH.cons (o := ⟨some 31, _, _, _, _, _⟩) rfl (fun K hK => ?_) AllReadyH.nil)
          · have xo := HA.out.box.cell
            go_simp
            refine hK.out _ _ (hHeld) (fun hHeld2 => ?_)
            clear hK K hHeld
            have hHeld := hHeld2
            clear hHeld2
            (try simp only [Act.put, List.setIfInBounds_toArray, List.set_cons_zero, List.set_cons_succ])
            clear xo
            refine wpAnyH_ready (rs := [2]) (by kernel_rfl) (by simp) ?_
            refine AllReadyH.cons (o := ⟨some 31, _, _, _, _, _⟩) rfl (fun K hK => ?_) AllReadyH.nil
            have hWs := HA.out.size
            go_simp
            refine (copyCh_any ac ar sq (.slice a0 ds.length c0) kd nc nr pc pr fc fr nm vl ds _ HIc.out).mono ?_
            rintro e Ua4u2 ⟨v2, rfl, ho, hb⟩
            (try go_wp2_with fail)
            refine hK.out _ _ ((hb.block _ (Array.getElem?_eq_some_iff.1 hHeld).1).trans hHeld) (fun hHeld2 => ?_)
            clear hK K hHeld
            have hHeld := hHeld2
            clear hHeld2
            (try simp only [Act.put, List.setIfInBounds_toArray, List.set_cons_zero, List.set_cons_succ])
            replace HA : Hid (AllB w W2 r4 S (.slice aw E.length cw) E Ua4u2) := HA.out.below hb
            replace HKf : Hid (KF W2.heap.size W Ua4u2) := HKf.out.below hb
            replace HKw : Hid (KeepsG S W Ua4u2) := HKw.out.below hb
            replace HIc : Hid (IsI Ua4u2 (.slice a0 ds.length c0) ds) := HIc.out.below hb
            obtain ⟨a2, c2, e2⟩ := ho.form
            subst e2
            have HO : Hid (OwnI W2.heap.size Ua4u2 (.slice a2 ds.length c2) ds) := ho.low (by omega)
            clear ho hWs
            clear hb
            refine wpAnyH_ready (rs := [3]) (by kernel_rfl) (by simp) ?_
            refine AllReadyH.cons (o := ⟨some 32, _, _, _, _, _⟩) rfl (fun K hK => ?_) AllReadyH.nil
            go_simp
            refine hK.out _ _ ((Below.block ((Below.refl _ Ua4u2).alloc (Nat.le_refl _) _) _ (Array.getElem?_eq_some_iff.1 hHeld).1).trans hHeld) (fun hHeld2 => ?_)
            clear hK K hHeld
            have hHeld := hHeld2
            clear hHeld2
            (try simp only [Act.put, List.setIfInBounds_toArray, List.set_cons_zero, List.set_cons_succ])
            obtain ⟨Ua4u3, eW⟩ : ∃ X, X = Ua4u2.alloc (.cells #[.int .i64 ac, .int .i64 ar, .int .i64 sq, .slice a2 ds.length c2, .int .i64 kd, .int .i64 nc, .int .i64 nr, .int .i64 pc, .int .i64 pr, .int .i64 fc, .int .i64 fr, .string nm, .string vl] 34) := ⟨_, rfl⟩
            have hb : Below Ua4u2.heap.size Ua4u2 Ua4u3 := by rw [eW]; exact (Below.refl _ _).alloc (Nat.le_refl _) _
            replace HA : Hid (AllB w W2 r4 S (.slice aw E.length cw) E Ua4u3) := HA.out.below hb
            replace HKf : Hid (KF W2.heap.size W Ua4u3) := HKf.out.below hb
            replace HKw : Hid (KeepsG S W Ua4u3) := HKw.out.below hb
            replace HIc : Hid (IsI Ua4u3 (.slice a0 ds.length c0) ds) := HIc.out.below hb
            replace HO : Hid (OwnI W2.heap.size Ua4u3 (.slice a2 ds.length c2) ds) := HO.out.below hb
            have HV : Hid (RowHas Ua4u3 Ua4u2.heap.size [.int .i64 ac, .int .i64 ar, .int .i64 sq, .slice a2 ds.length c2, .int .i64 kd, .int .i64 nc, .int .i64 nr, .int .i64 pc, .int .i64 pr, .int .i64 fc, .int .i64 fr, .string nm, .string vl]) := by rw [eW]; exact RowHas.new _ _ _
            rw [← eW] at hHeld ⊢
            clear eW
            obtain ⟨vb, evb⟩ : ∃ vb, vb = Ua4u2.heap.size := ⟨_, rfl⟩
            rw [← evb] at HV ⊢
            clear evb
            clear hb
            refine wpAnyH_ready (rs := [4]) (by kernel_rfl) (by simp) ?_
            refine AllReadyH.cons (o := ⟨some 33, _, _, _, _, _⟩) rfl (fun K hK => ?_) AllReadyH.nil
            refine step_append_lies _ (by rfl) _ _ 22 (by rfl) W2.heap.size 34 i0 (.agg #[.int .i64 0, .int .i64 0, .int .i64 0, .slice none 0 0, .int .i64 0, .int .i64 0, .int .i64 0, .int .i64 0, .int .i64 0, .int .i64 0, .int .i64 0, .string ⟨#[]⟩, .string ⟨#[]⟩]) 13 136 Tryz.underlying22 hi hz0 hz1 hz2 rfl (by decide) (.slice aw E.length cw) E.length (flatH E) (by rfl) HA.out.own ⟨vb, 0, none⟩ 1 1 [.int .i64 ac, .int .i64 ar, .int .i64 sq, .slice a2 ds.length c2, .int .i64 kd, .int .i64 nc, .int .i64 nr, .int .i64 pc, .int .i64 pr, .int .i64 fc, .int .i64 fr, .string nm, .string vl] (by rfl) rfl HV.out.2 (fun x hx => by simp at hx; rcases hx with rfl | rfl | rfl | rfl | rfl | rfl | rfl | rfl | rfl | rfl | rfl | rfl | rfl <;> rfl) (by decide) (by unfold maxLen; omega) (by omega) (HA.out.size) Ua4u3.heap.size rfl ?_
            intro g3 c3 Ua4u4 hown3 hgrow3 hat3 hlt3
            have HP3 : Hid (∀ u, u = Value.slice (some ⟨g3, 0, none⟩) (E.length + 1) c3 → AllB w W2 r4 S u (E ++ [((⟨ac, ar, sq, ds, kd, nc, nr, pc, pr, fc, fr, nm, vl⟩ : Ch), .slice a2 ds.length c2)]) (Ua4u4.setCell ⟨r4, 0, none⟩ u)) := fun u eu => by subst eu; exact HA.out.push hown3 hgrow3 HO.out HSz.out
            have HKf3 : Hid (KF W2.heap.size W Ua4u4) := KeepsFrom.trans HKf.out (keepsFrom_row HA.out.own hgrow3)
            have HKw3 : Hid (KeepsG S W Ua4u4) := HKw.out.row HA.out.own hgrow3 HA.out.kp.2
            have HBX3 : Hid (Boxed Ua4u4 r4 22 (.slice aw E.length cw)) := HA.out.box.kept hgrow3 (fun e => by have := (World.ownsRow.lt HA.out.own _ e.symm).1; have := HA.out.b2; omega)
            have HB0 : Hid (r4 < W2.heap.size ∧ ¬ S r4) := ⟨HA.out.b2, HA.out.b3⟩
            refine hK.out _ _ ((hgrow3.block _ (Array.getElem?_eq_some_iff.1 hHeld).1 (fun e => HNe.out e.symm)).trans hHeld) (fun hHeld2 => ?_)
            clear hK K hHeld
            have hHeld := hHeld2
            clear hHeld2
            (try simp only [Act.put, List.setIfInBounds_toArray, List.set_cons_zero, List.set_cons_succ])
            clear hown3 hgrow3 hat3 hlt3 HA HKf HKw HIc HO HV
            refine wpAnyH_ready (rs := [5]) (by kernel_rfl) (by simp) ?_
            refine AllReadyH.cons (o := ⟨none, _, _, _, _, _⟩) rfl (fun K hK => ?_) AllReadyH.nil
            have xo := HBX3.out.cell
            have xf := HBX3.out.frozen
            go_simp
            refine hK.out _ _ ((RowKit.Below.heap_setCell _ _ _ _ (fun e => by have h1 := HB0.out.1; have e2 : Bx = r4 := e; omega)).trans hHeld) (fun hHeld2 => ?_)
            clear hK K hHeld
            have hHeld := hHeld2
            clear hHeld2
            (try simp only [Act.put, List.setIfInBounds_toArray, List.set_cons_zero, List.set_cons_succ])
            obtain ⟨Ua4u5, eW⟩ : ∃ X, X = Ua4u4.setCell ⟨r4, 0, none⟩ (Value.slice (some ⟨g3, 0, none⟩) (E.length + 1) c3) := ⟨_, rfl⟩
            have HA4 : Hid (AllB w W2 r4 S (Value.slice (some ⟨g3, 0, none⟩) (E.length + 1) c3) (E ++ [((⟨ac, ar, sq, ds, kd, nc, nr, pc, pr, fc, fr, nm, vl⟩ : Ch), .slice a2 ds.length c2)]) Ua4u5) := by rw [eW]; exact HP3.out _ rfl
            have HKf4 : Hid (KF W2.heap.size W Ua4u5) := by rw [eW]; exact KeepsFrom.trans HKf3.out (keepsFrom_set _ _ _)
            have HKw4 : Hid (KeepsG S W Ua4u5) := by rw [eW]; exact HKw3.out.set HB0.out.2
            rw [← eW] at hHeld ⊢
            clear eW xo xf HP3 HKf3 HKw3 HBX3
            refine wpAnyH_done (by kernel_rfl) ?_ _
            clear hHeld
            exact ⟨HKf4.out, HKw4.out.1, _, _, HA4.out, by rw [List.map_append, HEm.out]; exact HTk.out, by omega⟩
          · have hWs := HA.out.size
            go_simp
            refine (copyCh_any ac ar sq (.slice a0 ds.length c0) kd nc nr pc pr fc fr nm vl ds _ HIc.out).mono ?_
            rintro e Ua4u6 ⟨v2, rfl, ho, hb⟩
            (try go_wp2_with fail)
            refine hK.out _ _ ((hb.block _ (Array.getElem?_eq_some_iff.1 hHeld).1).trans hHeld) (fun hHeld2 => ?_)
            clear hK K hHeld
            have hHeld := hHeld2
            clear hHeld2
            (try simp only [Act.put, List.setIfInBounds_toArray, List.set_cons_zero, List.set_cons_succ])
            replace HA : Hid (AllB w W2 r4 S (.slice aw E.length cw) E Ua4u6) := HA.out.below hb
            replace HKf : Hid (KF W2.heap.size W Ua4u6) := HKf.out.below hb
            replace HKw : Hid (KeepsG S W Ua4u6) := HKw.out.below hb
            replace HIc : Hid (IsI Ua4u6 (.slice a0 ds.length c0) ds) := HIc.out.below hb
            obtain ⟨a2, c2, e2⟩ := ho.form
            subst e2
            have HO : Hid (OwnI W2.heap.size Ua4u6 (.slice a2 ds.length c2) ds) := ho.low (by omega)
            clear ho hWs
            clear hb
            refine wpAnyH_ready (rs := [0, 3]) (by kernel_rfl) (by simp) ?_
            refine AllReadyH.cons (o := ⟨some 29, _, _, _, _, _⟩) rfl (fun K hK => ?_) (AllReadyH.cons (o := ⟨some 32, _, _, _, _, _⟩) rfl (fun K hK => ?_) AllReadyH.nil)
            · have xo := HA.out.box.cell
              go_simp
              refine hK.out _ _ (hHeld) (fun hHeld2 => ?_)
              clear hK K hHeld
              have hHeld := hHeld2
              clear hHeld2
              (try simp only [Act.put, List.setIfInBounds_toArray, List.set_cons_zero, List.set_cons_succ])
              clear xo
              refine wpAnyH_ready (rs := [3]) (by kernel_rfl) (by simp) ?_
              refine AllReadyH.cons (o := ⟨some 32, _, _, _, _, _⟩) rfl (fun K hK => ?_) AllReadyH.nil
              go_simp
              refine hK.out _ _ ((Below.block ((Below.refl _ Ua4u6).alloc (Nat.le_refl _) _) _ (Array.getElem?_eq_some_iff.1 hHeld).1).trans hHeld) (fun hHeld2 => ?_)
              clear hK K hHeld
              have hHeld := hHeld2
              clear hHeld2
              (try simp only [Act.put, List.setIfInBounds_toArray, List.set_cons_zero, List.set_cons_succ])
              obtain ⟨Ua4u8, eW⟩ : ∃ X, X = Ua4u6.alloc (.cells #[.int .i64 ac, .int .i64 ar, .int .i64 sq, .slice a2 ds.length c2, .int .i64 kd, .int .i64 nc, .int .i64 nr, .int .i64 pc, .int .i64 pr, .int .i64 fc, .int .i64 fr, .string nm, .string vl] 34) := ⟨_, rfl⟩
              have hb : Below Ua4u6.heap.size Ua4u6 Ua4u8 := by rw [eW]; exact (Below.refl _ _).alloc (Nat.le_refl _) _
              replace HA : Hid (AllB w W2 r4 S (.slice aw E.length cw) E Ua4u8) := HA.out.below hb
              replace HKf : Hid (KF W2.heap.size W Ua4u8) := HKf.out.below hb
              replace HKw : Hid (KeepsG S W Ua4u8) := HKw.out.below hb
              replace HIc : Hid (IsI Ua4u8 (.slice a0 ds.length c0) ds) := HIc.out.below hb
              replace HO : Hid (OwnI W2.heap.size Ua4u8 (.slice a2 ds.length c2) ds) := HO.out.below hb
              have HV : Hid (RowHas Ua4u8 Ua4u6.heap.size [.int .i64 ac, .int .i64 ar, .int .i64 sq, .slice a2 ds.length c2, .int .i64 kd, .int .i64 nc, .int .i64 nr, .int .i64 pc, .int .i64 pr, .int .i64 fc, .int .i64 fr, .string nm, .string vl]) := by rw [eW]; exact RowHas.new _ _ _
              rw [← eW] at hHeld ⊢
              clear eW
              obtain ⟨vb, evb⟩ : ∃ vb, vb = Ua4u6.heap.size := ⟨_, rfl⟩
              rw [← evb] at HV ⊢
              clear evb
              clear hb
              refine wpAnyH_ready (rs := [4]) (by kernel_rfl) (by simp) ?_
              refine AllReadyH.cons (o := ⟨some 33, _, _, _, _, _⟩) rfl (fun K hK => ?_) AllReadyH.nil
              refine step_append_lies _ (by rfl) _ _ 22 (by rfl) W2.heap.size 34 i0 (.agg #[.int .i64 0, .int .i64 0, .int .i64 0, .slice none 0 0, .int .i64 0, .int .i64 0, .int .i64 0, .int .i64 0, .int .i64 0, .int .i64 0, .int .i64 0, .string ⟨#[]⟩, .string ⟨#[]⟩]) 13 136 Tryz.underlying22 hi hz0 hz1 hz2 rfl (by decide) (.slice aw E.length cw) E.length (flatH E) (by rfl) HA.out.own ⟨vb, 0, none⟩ 1 1 [.int .i64 ac, .int .i64 ar, .int .i64 sq, .slice a2 ds.length c2, .int .i64 kd, .int .i64 nc, .int .i64 nr, .int .i64 pc, .int .i64 pr, .int .i64 fc, .int .i64 fr, .string nm, .string vl] (by rfl) rfl HV.out.2 (fun x hx => by simp at hx; rcases hx with rfl | rfl | rfl | rfl | rfl | rfl | rfl | rfl | rfl | rfl | rfl | rfl | rfl <;> rfl) (by decide) (by unfold maxLen; omega) (by omega) (HA.out.size) Ua4u8.heap.size rfl ?_
              intro g3 c3 Ua4u9 hown3 hgrow3 hat3 hlt3
              have HP3 : Hid (∀ u, u = Value.slice (some ⟨g3, 0, none⟩) (E.length + 1) c3 → AllB w W2 r4 S u (E ++ [((⟨ac, ar, sq, ds, kd, nc, nr, pc, pr, fc, fr, nm, vl⟩ : Ch), .slice a2 ds.length c2)]) (Ua4u9.setCell ⟨r4, 0, none⟩ u)) := fun u eu => by subst eu; exact HA.out.push hown3 hgrow3 HO.out HSz.out
              have HKf3 : Hid (KF W2.heap.size W Ua4u9) := KeepsFrom.trans HKf.out (keepsFrom_row HA.out.own hgrow3)
              have HKw3 : Hid (KeepsG S W Ua4u9) := HKw.out.row HA.out.own hgrow3 HA.out.kp.2
              have HBX3 : Hid (Boxed Ua4u9 r4 22 (.slice aw E.length cw)) := HA.out.box.kept hgrow3 (fun e => by have := (World.ownsRow.lt HA.out.own _ e.symm).1; have := HA.out.b2; omega)
              have HB0 : Hid (r4 < W2.heap.size ∧ ¬ S r4) := ⟨HA.out.b2, HA.out.b3⟩
              refine hK.out _ _ ((hgrow3.block _ (Array.getElem?_eq_some_iff.1 hHeld).1 (fun e => HNe.out e.symm)).trans hHeld) (fun hHeld2 => ?_)
              clear hK K hHeld
              have hHeld := hHeld2
              clear hHeld2
              (try simp only [Act.put, List.setIfInBounds_toArray, List.set_cons_zero, List.set_cons_succ])
              clear hown3 hgrow3 hat3 hlt3 HA HKf HKw HIc HO HV
              refine wpAnyH_ready (rs := [5]) (by kernel_rfl) (by simp) ?_
              refine AllReadyH.cons (o := ⟨none, _, _, _, _, _⟩) rfl (fun K hK => ?_) AllReadyH.nil
              have xo := HBX3.out.cell
              have xf := HBX3.out.frozen
              go_simp
              refine hK.out _ _ ((RowKit.Below.heap_setCell _ _ _ _ (fun e => by have h1 := HB0.out.1; have e2 : Bx = r4 := e; omega)).trans hHeld) (fun hHeld2 => ?_)
              clear hK K hHeld
              have hHeld := hHeld2
              clear hHeld2
              (try simp only [Act.put, List.setIfInBounds_toArray, List.set_cons_zero, List.set_cons_succ])
              obtain ⟨Ua4u10, eW⟩ : ∃ X, X = Ua4u9.setCell ⟨r4, 0, none⟩ (Value.slice (some ⟨g3, 0, none⟩) (E.length + 1) c3) := ⟨_, rfl⟩
              have HA4 : Hid (AllB w W2 r4 S (Value.slice (some ⟨g3, 0, none⟩) (E.length + 1) c3) (E ++ [((⟨ac, ar, sq, ds, kd, nc, nr, pc, pr, fc, fr, nm, vl⟩ : Ch), .slice a2 ds.length c2)]) Ua4u10) := by rw [eW]; exact HP3.out _ rfl
              have HKf4 : Hid (KF W2.heap.size W Ua4u10) := by rw [eW]; exact KeepsFrom.trans HKf3.out (keepsFrom_set _ _ _)
              have HKw4 : Hid (KeepsG S W Ua4u10) := by rw [eW]; exact HKw3.out.set HB0.out.2
              rw [← eW] at hHeld ⊢
              clear eW xo xf HP3 HKf3 HKw3 HBX3
              refine wpAnyH_done (by kernel_rfl) ?_ _
              clear hHeld
              exact ⟨HKf4.out, HKw4.out.1, _, _, HA4.out, by rw [List.map_append, HEm.out]; exact HTk.out, by omega⟩
            · go_simp
              refine hK.out _ _ ((Below.block ((Below.refl _ Ua4u6).alloc (Nat.le_refl _) _) _ (Array.getElem?_eq_some_iff.1 hHeld).1).trans hHeld) (fun hHeld2 => ?_)
              clear hK K hHeld
              have hHeld := hHeld2
              clear hHeld2
              (try simp only [Act.put, List.setIfInBounds_toArray, List.set_cons_zero, List.set_cons_succ])
              obtain ⟨Ua4u11, eW⟩ : ∃ X, X = Ua4u6.alloc (.cells #[.int .i64 ac, .int .i64 ar, .int .i64 sq, .slice a2 ds.length c2, .int .i64 kd, .int .i64 nc, .int .i64 nr, .int .i64 pc, .int .i64 pr, .int .i64 fc, .int .i64 fr, .string nm, .string vl] 34) := ⟨_, rfl⟩
              have hb : Below Ua4u6.heap.size Ua4u6 Ua4u11 := by rw [eW]; exact (Below.refl _ _).alloc (Nat.le_refl _) _
              replace HA : Hid (AllB w W2 r4 S (.slice aw E.length cw) E Ua4u11) := HA.out.below hb
              replace HKf : Hid (KF W2.heap.size W Ua4u11) := HKf.out.below hb
              replace HKw : Hid (KeepsG S W Ua4u11) := HKw.out.below hb
              replace HIc : Hid (IsI Ua4u11 (.slice a0 ds.length c0) ds) := HIc.out.below hb
              replace HO : Hid (OwnI W2.heap.size Ua4u11 (.slice a2 ds.length c2) ds) := HO.out.below hb
              have HV : Hid (RowHas Ua4u11 Ua4u6.heap.size [.int .i64 ac, .int .i64 ar, .int .i64 sq, .slice a2 ds.length c2, .int .i64 kd, .int .i64 nc, .int .i64 nr, .int .i64 pc, .int .i64 pr, .int .i64 fc, .int .i64 fr, .string nm, .string vl]) := by rw [eW]; exact RowHas.new _ _ _
              rw [← eW] at hHeld ⊢
              clear eW
              obtain ⟨vb, evb⟩ : ∃ vb, vb = Ua4u6.heap.size := ⟨_, rfl⟩
              rw [← evb] at HV ⊢
              clear evb
              clear hb
              refine wpAnyH_ready (rs := [0]) (by kernel_rfl) (by simp) ?_
              refine AllReadyH.cons (o := ⟨some 29, _, _, _, _, _⟩) rfl (fun K hK => ?_) AllReadyH.nil
              have xo := HA.out.box.cell
              go_simp
              refine hK.out _ _ (hHeld) (fun hHeld2 => ?_)
              clear hK K hHeld
              have hHeld := hHeld2
              clear hHeld2
              (try simp only [Act.put, List.setIfInBounds_toArray, List.set_cons_zero, List.set_cons_succ])
              clear xo
              refine wpAnyH_ready (rs := [4]) (by kernel_rfl) (by simp) ?_
              refine AllReadyH.cons (o := ⟨some 33, _, _, _, _, _⟩) rfl (fun K hK => ?_) AllReadyH.nil
              refine step_append_lies _ (by rfl) _ _ 22 (by rfl) W2.heap.size 34 i0 (.agg #[.int .i64 0, .int .i64 0, .int .i64 0, .slice none 0 0, .int .i64 0, .int .i64 0, .int .i64 0, .int .i64 0, .int .i64 0, .int .i64 0, .int .i64 0, .string ⟨#[]⟩, .string ⟨#[]⟩]) 13 136 Tryz.underlying22 hi hz0 hz1 hz2 rfl (by decide) (.slice aw E.length cw) E.length (flatH E) (by rfl) HA.out.own ⟨vb, 0, none⟩ 1 1 [.int .i64 ac, .int .i64 ar, .int .i64 sq, .slice a2 ds.length c2, .int .i64 kd, .int .i64 nc, .int .i64 nr, .int .i64 pc, .int .i64 pr, .int .i64 fc, .int .i64 fr, .string nm, .string vl] (by rfl) rfl HV.out.2 (fun x hx => by simp at hx; rcases hx with rfl | rfl | rfl | rfl | rfl | rfl | rfl | rfl | rfl | rfl | rfl | rfl | rfl <;> rfl) (by decide) (by unfold maxLen; omega) (by omega) (HA.out.size) Ua4u11.heap.size rfl ?_
              intro g3 c3 Ua4u13 hown3 hgrow3 hat3 hlt3
              have HP3 : Hid (∀ u, u = Value.slice (some ⟨g3, 0, none⟩) (E.length + 1) c3 → AllB w W2 r4 S u (E ++ [((⟨ac, ar, sq, ds, kd, nc, nr, pc, pr, fc, fr, nm, vl⟩ : Ch), .slice a2 ds.length c2)]) (Ua4u13.setCell ⟨r4, 0, none⟩ u)) := fun u eu => by subst eu; exact HA.out.push hown3 hgrow3 HO.out HSz.out
              have HKf3 : Hid (KF W2.heap.size W Ua4u13) := KeepsFrom.trans HKf.out (keepsFrom_row HA.out.own hgrow3)
              have HKw3 : Hid (KeepsG S W Ua4u13) := HKw.out.row HA.out.own hgrow3 HA.out.kp.2
              have HBX3 : Hid (Boxed Ua4u13 r4 22 (.slice aw E.length cw)) := HA.out.box.kept hgrow3 (fun e => by have := (World.ownsRow.lt HA.out.own _ e.symm).1; have := HA.out.b2; omega)
              have HB0 : Hid (r4 < W2.heap.size ∧ ¬ S r4) := ⟨HA.out.b2, HA.out.b3⟩
              refine hK.out _ _ ((hgrow3.block _ (Array.getElem?_eq_some_iff.1 hHeld).1 (fun e => HNe.out e.symm)).trans hHeld) (fun hHeld2 => ?_)
              clear hK K hHeld
              have hHeld := hHeld2
              clear hHeld2
              (try simp only [Act.put, List.setIfInBounds_toArray, List.set_cons_zero, List.set_cons_succ])
              clear hown3 hgrow3 hat3 hlt3 HA HKf HKw HIc HO HV
              refine wpAnyH_ready (rs := [5]) (by kernel_rfl) (by simp) ?_
              refine AllReadyH.cons (o := ⟨none, _, _, _, _, _⟩) rfl (fun K hK => ?_) AllReadyH.nil
              have xo := HBX3.out.cell
              have xf := HBX3.out.frozen
              go_simp
              refine hK.out _ _ ((RowKit.Below.heap_setCell _ _ _ _ (fun e => by have h1 := HB0.out.1; have e2 : Bx = r4 := e; omega)).trans hHeld) (fun hHeld2 => ?_)
              clear hK K hHeld
              have hHeld := hHeld2
              clear hHeld2
              (try simp only [Act.put, List.setIfInBounds_toArray, List.set_cons_zero, List.set_cons_succ])
              obtain ⟨Ua4u14, eW⟩ : ∃ X, X = Ua4u13.setCell ⟨r4, 0, none⟩ (Value.slice (some ⟨g3, 0, none⟩) (E.length + 1) c3) := ⟨_, rfl⟩
              have HA4 : Hid (AllB w W2 r4 S (Value.slice (some ⟨g3, 0, none⟩) (E.length + 1) c3) (E ++ [((⟨ac, ar, sq, ds, kd, nc, nr, pc, pr, fc, fr, nm, vl⟩ : Ch), .slice a2 ds.length c2)]) Ua4u14) := by rw [eW]; exact HP3.out _ rfl
              have HKf4 : Hid (KF W2.heap.size W Ua4u14) := by rw [eW]; exact KeepsFrom.trans HKf3.out (keepsFrom_set _ _ _)
              have HKw4 : Hid (KeepsG S W Ua4u14) := by rw [eW]; exact HKw3.out.set HB0.out.2
              rw [← eW] at hHeld ⊢
              clear eW xo xf HP3 HKf3 HKw3 HBX3
              refine wpAnyH_done (by kernel_rfl) ?_ _
              clear hHeld
              exact ⟨HKf4.out, HKw4.out.1, _, _, HA4.out, by rw [List.map_append, HEm.out]; exact HTk.out, by omega⟩
      case done =>
        rintro Dd W hDd ⟨ov, E, hA, hE, hkm⟩ hDf
        have HFr : Hid (Four w.heap.size r1 r2 r3 most W) := HFr3.out.keep (fun j hj => hA.kp.1.2 j (HSr.out j hj)) HRs.out
        have hll2 : ((lackL L kn).length : Int) ≤ most := by rw [← lackE_length D]; exact hkm
        have hE2 : E.map Prod.fst = (lackL L kn).take most.toNat := by rw [hE, lackE_length, List.take_length, List.take_of_length_le (by omega)]
        obtain ⟨aw, cw, eo⟩ := hA.own.form
        subst eo
        have HRt : Hid (RetS w W2 r1 r2 r3 ((lackL L kn).take most.toNat) (.slice aw E.length cw) false (((W.setCell ⟨r1, 0, none⟩ (.slice aw E.length cw)).setCell ⟨r2, 0, none⟩ (.bool false)).setCell ⟨r3, 0, none⟩ (.int .i64 0))) := RetS.of hA HFr.out HRs.out false hE2
        have HSq2 : Hid (sinceR L kn most = ((lackL L kn).take most.toNat, false, 0)) := by
          have h := HSq.out
          rw [decide_eq_false (by omega)] at h
          exact h
        have HDf : Hid ((((W.setCell ⟨r1, 0, none⟩ (.slice aw E.length cw)).setCell ⟨r2, 0, none⟩ (.bool false)).setCell ⟨r3, 0, none⟩ (.int .i64 0)).heap[Dd]? = some (.deferred (some []))) := ((RowKit.Below.heap_setCell _ _ _ _ (by show Dd ≠ r3; have := HRs.out; omega)).trans ((RowKit.Below.heap_setCell _ _ _ _ (by show Dd ≠ r2; have := HRs.out; omega)).trans (RowKit.Below.heap_setCell _ _ _ _ (by show Dd ≠ r1; have := HRs.out; omega)))).trans hDf
        have xb := hA.box.cell
        obtain ⟨⟨x0, f0⟩, ⟨x1, f1⟩, ⟨x2, f2⟩, ⟨x3, f3⟩⟩ := HFr.out.cells
        clear hA hE hE2 hDf
        gi_wp2
        refine ⟨by simp, .inl ⟨_, _, rfl, run_takeDeferred HDf.out, ?_⟩⟩
        obtain ⟨E2, q1, q2, q3, q4, q5, q6, q7, q8⟩ := HRt.out.grown (grownBy_putObj' _ Dd (.deferred none)) (fun r e => by cases e; exact ⟨hDd, _, HDf.out, rfl⟩)
        refine ⟨_, results_since rfl _ r1 r2 r3 _ aw E.length cw false 0 rfl rfl rfl q5.cell q6.cell q7.cell, .slice aw E.length cw, E2, by rw [HSq2.out], by rw [HSq2.out]; exact q1, ownsRow_low q2 q8, fun x hx => ⟨(q3 x hx).1.low q8, (q3 x hx).2⟩, q4⟩
      case stop =>
        rintro Dd c k W hDd hk ⟨rfl, hml, sv, hR⟩ hDf
        have HDf : Hid (W.heap[Dd]? = some (.deferred (some []))) := hDf
        have HRt : Hid (RetS w W2 r1 r2 r3 ((lackL L kn).take most.toNat) sv true W) := hR
        have HSq2 : Hid (sinceR L kn most = ((lackL L kn).take most.toNat, true, 0)) := by
          have h := HSq.out
          rw [decide_eq_true hml] at h
          exact h
        clear hDf hR
        gi_wp2
        refine ⟨by simp, .inl ⟨_, _, rfl, run_takeDeferred HDf.out, ?_⟩⟩
        obtain ⟨E2, q1, q2, q3, q4, q5, q6, q7, q8⟩ := HRt.out.grown (grownBy_putObj' _ Dd (.deferred none)) (fun r e => by cases e; exact ⟨hDd, _, HDf.out, rfl⟩)
        obtain ⟨aw, cw, eo⟩ := q2.form
        subst eo
        refine ⟨_, results_since rfl _ r1 r2 r3 _ aw E2.length cw true 0 rfl rfl rfl q5.cell q6.cell q7.cell, .slice aw E2.length cw, E2, by rw [HSq2.out], by rw [HSq2.out]; exact q1, ownsRow_low q2 q8, fun x hx => ⟨(q3 x hx).1.low q8, (q3 x hx).2⟩, q4⟩
  · have HS3 := set3 HFr.out HRs.out (.slice none 0 0) (.bool false) (.int .i64 (checkL kn)) HB0.out
    have HSq : Hid (sinceR L kn most = ([], false, checkL kn)) := by rw [HDf.out, if_pos hc]; rfl
    have HS4 : Hid _ := HS3
    clear HS3 HDf
    generalize checkL kn = cc at *
    have hq : (cc == 0) = false := by rw [beq_eq_false_iff_ne]; exact hc
    have hq2 : (cc != 0) = true := by rw [bne_iff_ne]; exact hc
    gi_wp2
    obtain ⟨c1, c2, c3, hbl⟩ := HS4.out
    refine ⟨_, results_since rfl _ r1 r2 r3 _ none 0 0 false cc rfl rfl rfl c1.cell c2.cell c3.cell, .slice none 0 0, [], by rw [HSq.out], by rw [HSq.out]; rfl, OwnH.nil0 _ _, fun x hx => by simp at hx, hbl⟩

end Go.Proofs.YtckipepodohnpaaGreat
