/- A range over a function that hands out a list, of which a round keeps something however it ends. -/
import Derived.Test.YthhnglpkfcmjiaaKVtR
namespace Go.Proofs.Ythhnglpkfcmjiaa
open Go.RowKit Go.Shelf
set_option linter.unusedVariables false
set_option linter.unusedSimpArgs false
/-- The function hands out the list xs, whatever holds between the rounds; it is left early where a round says so. Kp: what a round must keep. -/
def SeqK {α : Type} (n : Nat) (P : Program) (gf : Nat) (lb : Array Value) (encs : α → Array Value) (Kp : World → World → Prop) (xs : List α) (w : World) : Prop :=
  ∀ (l : Nat) (J Jx : Nat → World → Prop) (W : World), Below w.heap.size w W → AbidesFrom W.heap.size J → AbidesFrom W.heap.size Jx →
    (∀ k (h : k < xs.length) W1, J k W1 → YieldAt Fence.wide (n - 1) P l (encs xs[k]) W1 fun e W' => (e = .returned (.bool true) ∧ J (k + 1) W' ∧ Kp W1 W') ∨ (e = .returned (.bool false) ∧ Jx (k + 1) W' ∧ Kp W1 W')) →
    J 0 W → CallsIn Fence.wide n P gf (#[.func (.yield l) #[] #[]] ++ lb) W fun e W' => (∃ v, e = .returned v) ∧ (J xs.length W' ∨ ∃ k, k ≤ xs.length ∧ Jx k W')
/-- How a round's body may be left, in the caller's words. -/
def roundK (B : Nat) (Kp : World → World → Prop) (I : Nat → World → Prop) (Ix : Code → Nat → World → Prop) (k : Nat) (W : World) : Exit → Act → World → Prop
  | .normal, _, W' => KeepsFrom B W W' ∧ Kp W W' ∧ I k W'
  | .ret, _, W' => KeepsFrom B W W' ∧ Kp W W' ∧ Ix .ret k W'
  | .exit id, _, W' => KeepsFrom B W W' ∧ Kp W W' ∧ Ix (.exit id) k W'
  | _, _, _ => False
theorem range_K {α : Type} {n : Nat} {P : Program} {g : Operand} {ps : Array Tmp} {assign body : Code} {Q : Exit → Act → World → Prop} {a : Act} {w : World} (hn : 1 ≤ n) {gf : Nat} {lb : Array Value} (hg : a.eval g = .func (.func gf) #[] lb) (eg : ∀ args w, (callFunc gf args).run P w = .ok (.enter gf args) w)
    {encs : α → Array Value} {Kp : World → World → Prop} {xs : List α} {w0 : World} (hseq : SeqK (n - 1) P gf lb encs Kp xs w0) (hKt : ∀ {A B C : World}, Kp A B → Kp B C → Kp A C) (hKb : ∀ (W : World) (l : Nat) (o o' : Obj), w.heap.size ≤ l → W.heap[l]? = some o → o.isCells = false → o.isWalk = false → Kp W (W.putObj l o'))
    (hb0 : Below w0.heap.size w0 w) (hps : ∀ x, (encs x).size = ps.size) (I : Nat → World → Prop) (Ix : Code → Nat → World → Prop) (hI : OwnFrom w.heap.size I) (hIx : ∀ c, OwnFrom w.heap.size (Ix c)) (h0 : I 0 w)
    (Ax : α → Act → World → Prop) (hAx : ∀ x a', OwnFrom w.heap.size (fun (_ : Unit) W => Ax x a' W))
    (hassign : ∀ (l k : Nat) (h : k < xs.length) (W : World) (K : Act → World → Prop), I k W → (∀ a' W', KeepsFrom w.heap.size W W' → Kp W W' → I k W' → Ax xs[k] a' W' → K a' W') →
      assign.wpIn (Fence.wide.inRound l) (n - 1 - 1) P (Exit.then K (fun _ _ _ => False)) { tmps := (ps.zip (encs xs[k])).foldl (fun t (p, v) => t.setIfInBounds p v) a.tmps, defers := [] } W)
    (hbody : ∀ (l k : Nat) (h : k < xs.length) (a' : Act) (W : World), w.heap.size ≤ l → I k W → Ax xs[k] a' W → body.wpIn (Fence.wide.inRound l) (n - 1 - 1) P (roundK w.heap.size Kp I Ix (k + 1) W) a' W)
    (hdone : ∀ (D : Nat) (W : World), w.heap.size ≤ D → I xs.length W → W.heap[D]? = some (.deferred (some [])) → Q .normal { a with defers := { target := .collected D, args := #[] } :: a.defers } W)
    (hstop : ∀ (D : Nat) (c : Code) (k : Nat) (W : World), w.heap.size ≤ D → k ≤ xs.length → Ix c k W → W.heap[D]? = some (.deferred (some [])) → c.wpIn Fence.wide n P Q { a with defers := { target := .collected D, args := #[] } :: a.defers } W) :
    (Code.rangeFunc g ps assign body).wpIn Fence.wide n P Q a w := by
  refine wpIn_range_with hn hg eg (fun fn rec hrec => ?_)
  obtain ⟨W1, hW1⟩ : ∃ W1, (w.alloc (.deferred (some []))).alloc (.loop (rec .ready none)) = W1 := ⟨_, rfl⟩
  have hs1 : W1.heap.size = w.heap.size + 2 := by rw [← hW1]; simp
  have hL1 : W1.heap[w.heap.size + 1]? = some (.loop (rec .ready none)) := by
    rw [← hW1]; have := World.alloc_heap_new (w.alloc (.deferred (some []))) (.loop (rec .ready none)); rwa [World.size_alloc] at this
  have hD1 : W1.heap[w.heap.size]? = some (.deferred (some [])) := by
    rw [← hW1]; exact (Below.heap_alloc _ _ _ (by simp)).trans (World.alloc_heap_new w _)
  have hI1 : I 0 W1 := by rw [← hW1]; exact hI.alloc _ (hI.alloc _ h0)
  have hb1 : Below w0.heap.size w0 W1 := by
    rw [← hW1]; exact hb0.trans ((((Below.refl _ w).alloc (Nat.le_refl _) _).alloc (by simp) _).mono hb0.size)
  rw [hW1]
  refine (hseq (w.heap.size + 1) (fun k W => I k W ∧ W.heap[w.heap.size + 1]? = some (.loop (rec .ready none)) ∧ W.heap[w.heap.size]? = some (.deferred (some []))) (fun k W => ∃ c, Ix c k W ∧ W.heap[w.heap.size + 1]? = some (.loop (rec .done (some c))) ∧ W.heap[w.heap.size]? = some (.deferred (some []))) W1 hb1 ?_ ?_ ?_ ⟨hI1, hL1, hD1⟩).mono ?_
  · rintro k A B row ⟨h1, h2, h3⟩ hgr hr
    have far : ∀ j, j < W1.heap.size → j < A.heap.size → B.heap[j]? = A.heap[j]? := fun j hj hj2 => hgr.block j hj2 (fun e => by have := (hr j e.symm).1; omega)
    refine ⟨hI k A B row h1 hgr (fun r e => ?_), (far _ (by omega) (Array.getElem?_eq_some_iff.1 h2).1).trans h2, (far _ (by omega) (Array.getElem?_eq_some_iff.1 h3).1).trans h3⟩
    obtain ⟨q1, o, q2, q3⟩ := hr r e
    exact ⟨by omega, o, q2, walk_cells q3⟩
  · rintro k A B row ⟨c, h1, h2, h3⟩ hgr hr
    have far : ∀ j, j < W1.heap.size → j < A.heap.size → B.heap[j]? = A.heap[j]? := fun j hj hj2 => hgr.block j hj2 (fun e => by have := (hr j e.symm).1; omega)
    refine ⟨c, hIx c k A B row h1 hgr (fun r e => ?_), (far _ (by omega) (Array.getElem?_eq_some_iff.1 h2).1).trans h2, (far _ (by omega) (Array.getElem?_eq_some_iff.1 h3).1).trans h3⟩
    obtain ⟨q1, o, q2, q3⟩ := hr r e
    exact ⟨by omega, o, q2, walk_cells q3⟩
  · rintro k hk W2 ⟨hi2, hl2, hd2⟩
    refine yield_round hrec hl2 (hps _) (hassign (w.heap.size + 1) k hk W2 _ hi2 ?_)
    intro a' W3 hkf hkp hi3 hax
    have hl3 := hkf.same (w.heap.size + 1) _ (by omega) hl2 rfl
    have hd3 := hkf.same w.heap.size _ (Nat.le_refl _) hd2 rfl
    refine ⟨hl3, ?_⟩
    have hi4 := hI.putObj (.loop { rec .ready none with state := .busy }) hi3 (by omega : w.heap.size ≤ w.heap.size + 1) hl3 rfl
    have hax4 := (hAx xs[k] a').putObj (s := ()) (.loop { rec .ready none with state := .busy }) hax (by omega : w.heap.size ≤ w.heap.size + 1) hl3 rfl
    have hkp4 := hKt hkp (hKb W3 (w.heap.size + 1) _ (.loop { rec .ready none with state := .busy }) (by omega) hl3 rfl rfl)
    have hl4 : (W3.putObj (w.heap.size + 1) (.loop { rec .ready none with state := .busy })).heap[w.heap.size + 1]? = some (.loop { rec .ready none with state := .busy }) := World.putObj_heap_same (Array.getElem?_eq_some_iff.1 hl3).1
    have hd4 : (W3.putObj (w.heap.size + 1) (.loop { rec .ready none with state := .busy })).heap[w.heap.size]? = some (.deferred (some [])) := (World.putObj_heap_other (by omega)).trans hd3
    refine wpIn_mono (hbody (w.heap.size + 1) k hk a' _ (by omega) hi4 hax4) ?_
    intro e a5 W5 hp
    cases e with
    | normal =>
      obtain ⟨p1, p2, p3⟩ := hp
      have hl5 := p1.same (w.heap.size + 1) _ (by omega) hl4 rfl
      have hd5 := p1.same w.heap.size _ (Nat.le_refl _) hd4 rfl
      refine ⟨hl5, .inl ⟨rfl, ⟨hI.putObj _ p3 (by omega : w.heap.size ≤ w.heap.size + 1) hl5 rfl, World.putObj_heap_same (Array.getElem?_eq_some_iff.1 hl5).1, (World.putObj_heap_other (by omega)).trans hd5⟩, hKt (hKt hkp4 p2) (hKb W5 (w.heap.size + 1) _ _ (by omega) hl5 rfl rfl)⟩⟩
    | exit id =>
      obtain ⟨p1, p2, p3⟩ := hp
      have hl5 := p1.same (w.heap.size + 1) _ (by omega) hl4 rfl
      have hd5 := p1.same w.heap.size _ (Nat.le_refl _) hd4 rfl
      exact ⟨hl5, .inr ⟨rfl, ⟨_, (hIx _).putObj _ p3 (by omega : w.heap.size ≤ w.heap.size + 1) hl5 rfl, World.putObj_heap_same (Array.getElem?_eq_some_iff.1 hl5).1, (World.putObj_heap_other (by omega)).trans hd5⟩, hKt (hKt hkp4 p2) (hKb W5 (w.heap.size + 1) _ _ (by omega) hl5 rfl rfl)⟩⟩
    | ret =>
      obtain ⟨p1, p2, p3⟩ := hp
      have hl5 := p1.same (w.heap.size + 1) _ (by omega) hl4 rfl
      have hd5 := p1.same w.heap.size _ (Nat.le_refl _) hd4 rfl
      exact ⟨hl5, .inr ⟨rfl, ⟨_, (hIx _).putObj _ p3 (by omega : w.heap.size ≤ w.heap.size + 1) hl5 rfl, World.putObj_heap_same (Array.getElem?_eq_some_iff.1 hl5).1, (World.putObj_heap_other (by omega)).trans hd5⟩, hKt (hKt hkp4 p2) (hKb W5 (w.heap.size + 1) _ _ (by omega) hl5 rfl rfl)⟩⟩
    | goto t => exact hp.elim
    | panic ch => exact hp.elim
    | outgrown => exact hp.elim
  · rintro e W2 ⟨⟨v, rfl⟩, (⟨h1, h2, h3⟩ | ⟨k, hk, c, h1, h2, h3⟩)⟩
    · exact ⟨⟨v, rfl⟩, .inl ⟨h2, hdone _ _ (Nat.le_refl _) (hI.putObj _ h1 (by omega : w.heap.size ≤ w.heap.size + 1) h2 rfl) ((World.putObj_heap_other (by omega)).trans h3)⟩⟩
    · exact ⟨⟨v, rfl⟩, .inr ⟨c, h2, hstop _ c k _ (Nat.le_refl _) hk ((hIx c).putObj _ h1 (by omega : w.heap.size ≤ w.heap.size + 1) h2 rfl) ((World.putObj_heap_other (by omega)).trans h3)⟩⟩
def bodyPostD (F : Fence) (n : Nat) (P : Program) (fn : Func) (R : Ending → World → Prop) : Exit → Act → World → Prop
  | .normal, a, w | .ret, a, w => LeavesInM F n P fn a.tmps R a.defers .returning w
  | _, _, _ => False
theorem callsIn_of_wp_marksD {F : Fence} {n : Nat} {P : Program} {f : FuncId} {fn : Func} {c : Code} {args : Array Value} {w : World} {R : Ending → World → Prop}
    (hf : P.funcs[f]? = some fn) (hb : fn.body = some c) (hF : F.fn f)
    (h : c.wpIn F n P (bodyPostD F n P fn R) { tmps := args ++ Array.replicate (fn.ntmps - args.size) undef, defers := [] } w) (hro : F.round = none := by rfl) : CallsIn F n P f args w R := by
  refine callsIn_of_wp_marks hf hb hF (wpIn_mono h ?_) hro
  intro e a w h
  cases e with
  | normal => exact h
  | ret => exact h
  | exit id => exact h.elim
  | goto t => exact h.elim
  | panic ch => exact h.elim
  | outgrown => exact h.elim
theorem lets_roundK {B : Nat} {Kp : World → World → Prop} {I : Nat → World → Prop} {Ix : Code → Nat → World → Prop} {k : Nat} {W : World} : ¬ LetsOut (roundK B Kp I Ix k W) := fun ⟨_, _, h⟩ => h
end Go.Proofs.Ythhnglpkfcmjiaa
