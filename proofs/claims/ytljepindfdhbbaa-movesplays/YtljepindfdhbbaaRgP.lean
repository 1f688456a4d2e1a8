/- A range over a function that hands out the things of a list in whatever order, each once. -/
import Derived.RangeFuncNested
import Derived.RangeFuncBound
import Derived.RangeFuncCalls
import Derived.RangeFuncLeaves
import Derived.RangeFuncWrites
import Derived.Shelf.Abstract
import Derived.Shelf.RegionOpen
import Derived.WalkKit
import Derived.OwnWalkIn
import Derived.TacticsInMore
import Derived.LoopNIn
import Derived.LoopIn
import Derived.Sort.QuietIn
import Derived.Test.YtljepindfdhbbaaTrL
import Derived.Test.YtljepindfdhbbaaMpB
namespace Go.Proofs.Ytljepindfdhbbaa
open Go.RowKit Go.Shelf
set_option linter.unusedVariables false
set_option linter.unusedSimpArgs false

attribute [local go_sem] Oper.semAt_some

/-- A range over a function, by the call of that function alone. -/
theorem wpIn_range_with {n : Nat} {P : Program} {g : Operand} {ps : Array Tmp} {assign body : Code} {Q : Exit → Act → World → Prop} {a : Act} {w : World} (hn : 1 ≤ n) {gf : Nat} {lb : Array Value} (hg : a.eval g = .func (.func gf) #[] lb) (eg : ∀ args w, (callFunc gf args).run P w = .ok (.enter gf args) w)
    (h : ∀ (fn : FuncId) (rec : LoopState → Option Code → Loop), (∀ st pe, rec st pe = { state := st, pending := pe, fn := fn, tmps := a.tmps, params := ps, assign := assign, body := body, defers := w.heap.size }) →
      CallsIn Fence.wide (n - 1) P gf (#[.func (.yield (w.heap.size + 1)) #[] #[]] ++ lb) ((w.alloc (.deferred (some []))).alloc (.loop (rec .ready none))) fun e W' => (∃ v, e = .returned v) ∧
        ((W'.heap[w.heap.size + 1]? = some (.loop (rec .ready none)) ∧ Q .normal { a with defers := { target := .collected w.heap.size, args := #[] } :: a.defers } (W'.putObj (w.heap.size + 1) (.loop { rec .ready none with state := .exhausted }))) ∨
         (∃ c, W'.heap[w.heap.size + 1]? = some (.loop (rec .done (some c))) ∧ c.wpIn Fence.wide n P Q { a with defers := { target := .collected w.heap.size, args := #[] } :: a.defers } (W'.putObj (w.heap.size + 1) (.loop { rec .done (some c) with state := .exhausted }))))) :
    (Code.rangeFunc g ps assign body).wpIn Fence.wide n P Q a w := by
  refine wpIn_rangeFunc ?_
  intro fn hfn
  obtain ⟨W1, hW1⟩ : ∃ W1, (w.alloc (.deferred (some []))).alloc (.loop { state := .ready, pending := none, fn := fn, tmps := a.tmps, params := ps, assign := assign, body := body, defers := w.heap.size }) = W1 := ⟨_, rfl⟩
  refine ⟨w.heap.size + 1, [{ target := .collected w.heap.size, args := #[] }], W1, { target := .fn (.func gf) lb, args := #[.func (.yield (w.heap.size + 1)) #[] #[]] }, W1, gf, #[.func (.yield (w.heap.size + 1)) #[] #[]] ++ lb, W1, ?_, ?_, fun _ _ => trivial, ?_, fun _ => hn, ?_⟩
  · rw [← hW1]; exact run_enterLoop_outer _ _ _ _ _
  · simp only [resolve, hg]
    simp [go_sem]
  · simp [invoke, go_sem, eg]
  · rw [← hW1]
    refine (h fn (fun st pe => { state := st, pending := pe, fn := fn, tmps := a.tmps, params := ps, assign := assign, body := body, defers := w.heap.size }) (fun _ _ => rfl)).mono ?_
    rintro e W2 ⟨⟨v, rfl⟩, (⟨hl, hq⟩ | ⟨c, hl, hq⟩)⟩
    · exact ⟨none, _, run_endLoop hl (by simp), hq⟩
    · exact ⟨some c, _, run_endLoop hl (by simp), hq⟩
/-- How a round's body may be left. -/
def endsAt (l : Nat) (rec : LoopState → Option Code → Loop) (R : Ending → World → Prop) : Exit → Act → World → Prop
  | .normal, _, W => W.heap[l]? = some (.loop { rec .ready none with state := .busy }) ∧ R (.returned (.bool true)) (W.putObj l (.loop (rec .ready none)))
  | .exit id, _, W => W.heap[l]? = some (.loop { rec .ready none with state := .busy }) ∧ R (.returned (.bool false)) (W.putObj l (.loop (rec .done (some (.exit id)))))
  | .ret, _, W => W.heap[l]? = some (.loop { rec .ready none with state := .busy }) ∧ R (.returned (.bool false)) (W.putObj l (.loop (rec .done (some .ret))))
  | _, _, _ => False
/-- A round, out of the walks of what it assigns and of its body. -/
theorem yield_round {m : Nat} {P : Program} {l : Nat} {rec : LoopState → Option Code → Loop} {fn : FuncId} {tmps : Array Value} {ps : Array Tmp} {assign body : Code} {D : Nat} (hrec : ∀ st pe, rec st pe = { state := st, pending := pe, fn := fn, tmps := tmps, params := ps, assign := assign, body := body, defers := D })
    {W : World} {args : Array Value} {R : Ending → World → Prop} (hl : W.heap[l]? = some (.loop (rec .ready none))) (hs : args.size = ps.size)
    (h : assign.wpIn (Fence.wide.inRound l) m P (Exit.then (fun a₁ w₁ => w₁.heap[l]? = some (.loop (rec .ready none)) ∧ body.wpIn (Fence.wide.inRound l) m P (endsAt l rec R) a₁ (w₁.putObj l (.loop { rec .ready none with state := .busy }))) (fun _ _ _ => False))
      { tmps := (ps.zip args).foldl (fun t (p, v) => t.setIfInBounds p v) tmps, defers := [] } W) : YieldAt Fence.wide m P l args W R := by
  have hy := run_yield (P := P) (args := args) hl (by rw [hrec]; exact hs)
  rw [hrec] at hy
  refine ⟨fn, _, assign, body, hy, roundIn_of_wpIn trivial (wpIn_mono h ?_)⟩
  intro e a1 w1 hq
  cases e with
  | normal =>
    obtain ⟨h1, h2⟩ := hq
    refine ⟨_, run_beginRound h1 (by rw [hrec]), wpIn_mono h2 ?_⟩
    intro e a3 W3 hp
    cases e with
    | normal =>
      obtain ⟨h3, h4⟩ := hp
      have := run_endRound (P := P) none h3
      refine ⟨_, _, this, ?_⟩
      have e2 : ({ { rec .ready none with state := .busy } with state := if (none : Option Code).isNone then .ready else .done, pending := none } : Loop) = rec .ready none := by simp [hrec]
      rw [e2]
      exact h4
    | exit id =>
      obtain ⟨h3, h4⟩ := hp
      have := run_endRound (P := P) (some (.exit id)) h3
      refine ⟨_, _, this, ?_⟩
      have e2 : ({ { rec .ready none with state := .busy } with state := if (some (Code.exit id)).isNone then .ready else .done, pending := some (.exit id) } : Loop) = rec .done (some (.exit id)) := by simp [hrec]
      rw [e2]
      exact h4
    | ret =>
      obtain ⟨h3, h4⟩ := hp
      have := run_endRound (P := P) (some .ret) h3
      refine ⟨_, _, this, ?_⟩
      have e2 : ({ { rec .ready none with state := .busy } with state := if (some Code.ret).isNone then .ready else .done, pending := some .ret } : Loop) = rec .done (some .ret) := by simp [hrec]
      rw [e2]
      exact h4
    | goto t => exact hp.elim
    | panic ch => exact hp.elim
    | outgrown => exact hp.elim
  | exit id => exact hq.elim
  | ret => exact hq.elim
  | goto t => exact hq.elim
  | panic ch => exact hq.elim
  | outgrown => exact hq.elim

/-- The function hands out the things of D, each once, in whatever order. Kp: what a round must keep. -/
def SeqPm {α : Type} (n : Nat) (P : Program) (gf : Nat) (lb : Array Value) (encs : α → Array Value) (Kp : World → World → Prop) (D : List α) (w : World) : Prop :=
  ∀ (l : Nat) (J : List α → World → Prop) (W : World), Below w.heap.size w W → AbidesFrom W.heap.size J →
    (∀ E x R W1, (E ++ x :: R).Perm D → J E W1 → YieldAt Fence.wide (n - 1) P l (encs x) W1 fun e W' => e = .returned (.bool true) ∧ J (E ++ [x]) W' ∧ Kp W1 W') →
    J [] W → CallsIn Fence.wide n P gf (#[.func (.yield l) #[] #[]] ++ lb) W fun e W' => (∃ v, e = .returned v) ∧ ∃ E, E.Perm D ∧ J E W'
/-- How a round's body is left, in the caller's words. -/
def roundQ {β : Type} (B : Nat) (Kp : World → World → Prop) (I : β → World → Prop) (k : β) (W : World) : Exit → Act → World → Prop
  | .normal, _, W' => KeepsFrom B W W' ∧ Kp W W' ∧ I k W'
  | _, _, _ => False
theorem walk_cells {o : Obj} (h : o.isWalk = true) : o.isCells = false := Obj.not_cells_of_walk h
theorem range_pm {α : Type} {n : Nat} {P : Program} {g : Operand} {ps : Array Tmp} {assign body : Code} {Q : Exit → Act → World → Prop} {a : Act} {w : World} (hn : 1 ≤ n) {gf : Nat} {lb : Array Value} (hg : a.eval g = .func (.func gf) #[] lb) (eg : ∀ args w, (callFunc gf args).run P w = .ok (.enter gf args) w)
    {encs : α → Array Value} {Kp : World → World → Prop} {D : List α} {w0 : World} (hseq : SeqPm (n - 1) P gf lb encs Kp D w0) (hKt : ∀ {A B C : World}, Kp A B → Kp B C → Kp A C) (hKb : ∀ (W : World) (l : Nat) (o o' : Obj), w.heap.size ≤ l → W.heap[l]? = some o → o.isCells = false → o.isWalk = false → Kp W (W.putObj l o'))
    (hb0 : Below w0.heap.size w0 w) (hps : ∀ x, (encs x).size = ps.size) (I : List α → World → Prop) (hI : OwnFrom w.heap.size I) (h0 : I [] w)
    (Ax : α → Act → World → Prop) (hAx : ∀ x a', OwnFrom w.heap.size (fun (_ : Unit) W => Ax x a' W))
    (hassign : ∀ (l : Nat) (E : List α) (x : α) (R : List α) (_ : (E ++ x :: R).Perm D) (W : World) (K : Act → World → Prop), I E W → (∀ a' W', KeepsFrom w.heap.size W W' → Kp W W' → I E W' → Ax x a' W' → K a' W') →
      assign.wpIn (Fence.wide.inRound l) (n - 1 - 1) P (Exit.then K (fun _ _ _ => False)) { tmps := (ps.zip (encs x)).foldl (fun t (p, v) => t.setIfInBounds p v) a.tmps, defers := [] } W)
    (hbody : ∀ (l : Nat) (E : List α) (x : α) (R : List α) (_ : (E ++ x :: R).Perm D) (a' : Act) (W : World), w.heap.size ≤ l → I E W → Ax x a' W → body.wpIn (Fence.wide.inRound l) (n - 1 - 1) P (roundQ w.heap.size Kp I (E ++ [x]) W) a' W)
    (hdone : ∀ (Dd : Nat) (W : World) (E : List α), w.heap.size ≤ Dd → E.Perm D → I E W → W.heap[Dd]? = some (.deferred (some [])) → Q .normal { a with defers := { target := .collected Dd, args := #[] } :: a.defers } W) :
    (Code.rangeFunc g ps assign body).wpIn Fence.wide n P Q a w := by
  refine wpIn_range_with hn hg eg (fun fn rec hrec => ?_)
  obtain ⟨W1, hW1⟩ : ∃ W1, (w.alloc (.deferred (some []))).alloc (.loop (rec .ready none)) = W1 := ⟨_, rfl⟩
  have hs1 : W1.heap.size = w.heap.size + 2 := by rw [← hW1]; simp
  have hL1 : W1.heap[w.heap.size + 1]? = some (.loop (rec .ready none)) := by
    rw [← hW1]; have := World.alloc_heap_new (w.alloc (.deferred (some []))) (.loop (rec .ready none)); rwa [World.size_alloc] at this
  have hD1 : W1.heap[w.heap.size]? = some (.deferred (some [])) := by
    rw [← hW1]; exact (Below.heap_alloc _ _ _ (by simp)).trans (World.alloc_heap_new w _)
  have hI1 : I [] W1 := by rw [← hW1]; exact hI.alloc _ (hI.alloc _ h0)
  have hb1 : Below w0.heap.size w0 W1 := by
    rw [← hW1]; exact hb0.trans ((((Below.refl _ w).alloc (Nat.le_refl _) _).alloc (by simp) _).mono hb0.size)
  rw [hW1]
  refine (hseq (w.heap.size + 1) (fun k W => I k W ∧ W.heap[w.heap.size + 1]? = some (.loop (rec .ready none)) ∧ W.heap[w.heap.size]? = some (.deferred (some []))) W1 hb1 ?_ ?_ ⟨hI1, hL1, hD1⟩).mono ?_
  · rintro k A B row ⟨h1, h2, h3⟩ hgr hr
    have far : ∀ j, j < W1.heap.size → j < A.heap.size → B.heap[j]? = A.heap[j]? := fun j hj hj2 => hgr.block j hj2 (fun e => by have := (hr j e.symm).1; omega)
    refine ⟨hI k A B row h1 hgr (fun r e => ?_), (far _ (by omega) (Array.getElem?_eq_some_iff.1 h2).1).trans h2, (far _ (by omega) (Array.getElem?_eq_some_iff.1 h3).1).trans h3⟩
    obtain ⟨q1, o, q2, q3⟩ := hr r e
    exact ⟨by omega, o, q2, walk_cells q3⟩
  · rintro E x R W2 hp ⟨hi2, hl2, hd2⟩
    refine yield_round hrec hl2 (hps _) (hassign (w.heap.size + 1) E x R hp W2 _ hi2 ?_)
    intro a' W3 hkf hkp hi3 hax
    have hl3 := hkf.same (w.heap.size + 1) _ (by omega) hl2 rfl
    have hd3 := hkf.same w.heap.size _ (Nat.le_refl _) hd2 rfl
    refine ⟨hl3, ?_⟩
    have hi4 := hI.putObj (.loop { rec .ready none with state := .busy }) hi3 (by omega : w.heap.size ≤ w.heap.size + 1) hl3 rfl
    have hax4 := (hAx x a').putObj (s := ()) (.loop { rec .ready none with state := .busy }) hax (by omega : w.heap.size ≤ w.heap.size + 1) hl3 rfl
    have hkp4 := hKt hkp (hKb W3 (w.heap.size + 1) _ (.loop { rec .ready none with state := .busy }) (by omega) hl3 rfl rfl)
    have hl4 : (W3.putObj (w.heap.size + 1) (.loop { rec .ready none with state := .busy })).heap[w.heap.size + 1]? = some (.loop { rec .ready none with state := .busy }) := World.putObj_heap_same (Array.getElem?_eq_some_iff.1 hl3).1
    have hd4 : (W3.putObj (w.heap.size + 1) (.loop { rec .ready none with state := .busy })).heap[w.heap.size]? = some (.deferred (some [])) := (World.putObj_heap_other (by omega)).trans hd3
    refine wpIn_mono (hbody (w.heap.size + 1) E x R hp a' _ (by omega) hi4 hax4) ?_
    intro e a5 W5 hp
    cases e with
    | normal =>
      obtain ⟨p1, p2, p3⟩ := hp
      have hl5 := p1.same (w.heap.size + 1) _ (by omega) hl4 rfl
      have hd5 := p1.same w.heap.size _ (Nat.le_refl _) hd4 rfl
      refine ⟨hl5, rfl, ⟨hI.putObj _ p3 (by omega : w.heap.size ≤ w.heap.size + 1) hl5 rfl, World.putObj_heap_same (Array.getElem?_eq_some_iff.1 hl5).1, (World.putObj_heap_other (by omega)).trans hd5⟩, hKt (hKt hkp4 p2) (hKb W5 (w.heap.size + 1) _ _ (by omega) hl5 rfl rfl)⟩
    | exit id => exact hp.elim
    | ret => exact hp.elim
    | goto t => exact hp.elim
    | panic ch => exact hp.elim
    | outgrown => exact hp.elim
  · rintro e W2 ⟨⟨v, rfl⟩, E, hE, h1, h2, h3⟩
    exact ⟨⟨v, rfl⟩, .inl ⟨h2, hdone _ _ E (Nat.le_refl _) hE (hI.putObj _ h1 (by omega : w.heap.size ≤ w.heap.size + 1) h2 rfl) ((World.putObj_heap_other (by omega)).trans h3)⟩⟩

/-- Blocks of S stay, and so does what goes over a map. -/
def KpW (S : Nat → Prop) (A C : World) : Prop := KeepsS S A C ∧ ∀ (k : Nat) (o : Obj), A.heap[k]? = some o → o.isWalk = true → C.heap[k]? = some o
theorem KpW.trans {S : Nat → Prop} {A B C : World} (h : KpW S A B) (k : KpW S B C) : KpW S A C := ⟨h.1.trans k.1, fun j o h1 h2 => k.2 j o (h.2 j o h1 h2) h2⟩
theorem KpW.loop {S : Nat → Prop} {w : World} (hn : ∀ k, S k → k < w.heap.size) (W : World) (l : Nat) (o o' : Obj) (hl : w.heap.size ≤ l) (h : W.heap[l]? = some o) (h1 : o.isCells = false) (h2 : o.isWalk = false) : KpW S W (W.putObj l o') := by
  have hg := grownBy_putObj' W l o'
  refine ⟨⟨hg.size, fun k hk => ?_⟩, fun k o2 hk hw => ?_⟩
  · by_cases hlt : k < W.heap.size
    · exact hg.block k hlt (fun e => by have := hn k hk; cases e; omega)
    · exact World.putObj_heap_other (by have := hn k hk; omega)
  · refine (hg.block k (Array.getElem?_eq_some_iff.1 hk).1 (fun e => ?_)).trans hk
    cases e
    rw [h] at hk
    cases hk
    rw [h2] at hw
    cases hw
theorem KpW.below {S : Nat → Prop} {A C : World} (hb : Below A.heap.size A C) (hS : ∀ k, S k → k < A.heap.size) : KpW S A C := ⟨KeepsS.of_below hb hS, fun k o h _ => (hb.block k (Array.getElem?_eq_some_iff.1 h).1).trans h⟩

def encP (x : Pl) : Array Value := #[plV x]
def JP {α : Type} (B : Nat) (J : List α → World → Prop) (k : List α) (X : World) : Prop := J k X ∧ AbidesFrom B J
theorem JP.below {α : Type} {B : Nat} {J : List α → World → Prop} {k : List α} {X Y : World} (h : JP B J k X) (hb : Below X.heap.size X Y) : JP B J k Y := ⟨h.2 k X Y none h.1 (grownBy.ofBelow hb none) (fun r e => by cases e), h.2⟩
theorem JP.walk {α : Type} {B : Nat} {J : List α → World → Prop} {k : List α} {X Y : World} {r : Nat} (h : JP B J k X) (hg : X.grownBy Y (some r)) (hB : B ≤ r) (hw : ∃ o : Obj, X.heap[r]? = some o ∧ o.isWalk = true) : JP B J k Y := ⟨h.2 k X Y (some r) h.1 hg (fun q e => by cases e; exact ⟨hB, hw⟩), h.2⟩

set_option maxRecDepth 100000 in
set_option maxHeartbeats 8000000 in
theorem values1_in (n : Nat) (hn : 2 ≤ n) (l B1 sb : Nat) (D : List Pl) (J : List Pl → World → Prop) (W : World)
    (hB1 : W.cell? ⟨B1, 0, none⟩ = some (.map (some sb))) (hM : MapIs Pl.nd plV W sb D) (hJ : AbidesFrom W.heap.size J)
    (hY : ∀ E x R W1, (E ++ x :: R).Perm D → J E W1 → YieldAt Fence.wide (n - 1) Try.prog l (encP x) W1 fun e W' => e = .returned (.bool true) ∧ J (E ++ [x]) W' ∧ KpW (fun k => k = sb) W1 W') (h0 : J [] W) :
    CallsIn Fence.wide n Try.prog 64 #[.func (.yield l) #[] #[], .pointer (some ⟨B1, 0, none⟩)] W fun e W' => (∃ v, e = .returned v) ∧ ∃ E, E.Perm D ∧ J E W' := by
  have HJ : Hid (AbidesFrom W.heap.size J) := hJ
  have HY : Hid (∀ E x R W1, (E ++ x :: R).Perm D → J E W1 → YieldAt Fence.wide (n - 1) Try.prog l (encP x) W1 fun e W' => e = .returned (.bool true) ∧ J (E ++ [x]) W' ∧ KpW (fun k => k = sb) W1 W') := hY
  obtain ⟨o, hrg, hIt⟩ := range_st _ _ uStands hM
  obtain ⟨W2, eW2⟩ : ∃ X, X = W.alloc o := ⟨_, rfl⟩
  have hb2 : Below W.heap.size W W2 := by rw [eW2]; exact (Below.refl _ _).alloc (Nat.le_refl _) _
  rw [← eW2] at hrg hIt
  have HIt : Hid (IterIs Pl.nd plV W2 sb W.heap.size D D) := hIt
  have HJ2 : Hid (JP W.heap.size J [] W2) := JP.below ⟨h0, hJ⟩ hb2
  clear hIt hb2 hJ hY hM h0 eW2
  refine callsIn_of_wp Try.func64 rfl trivial ?_ rfl
  simp only [Try.ntmps64, List.size_toArray, List.length_cons, List.length_nil, Nat.reduceAdd, Nat.reduceSub, Array.replicate_succ, Array.replicate_zero, List.push_toArray, List.append_toArray, List.nil_append, List.cons_append]
  gi_wp2
  gi_loopw [7] (fun _ wr => ∃ E R : List Pl, Hid (JP W.heap.size J E wr) ∧ Hid (IterIs Pl.nd plV wr sb W.heap.size D R) ∧ Hid ((E ++ R).Perm D)) (fun _ wr => itLeft wr W.heap.size)
  case atStart => exact ⟨[], D, HJ2, HIt, List.Perm.refl _⟩
  case round =>
    clear HJ2 HIt hrg
    obtain ⟨E, R, HJr, HIr, HPr⟩ := hrel
    rcases next_st HIr.out 0 with ⟨hR, hnx⟩ | ⟨R1, x, R2, w1, hR, hnx, hI1, hg1, hz1, hen⟩
    · have HE : Hid (E.Perm D) := by (have h9 := HPr.out; rw [hR, List.append_nil] at h9; exact h9)
      clear hR
      gi_wp2
      go_end0
      exact ⟨⟨_, rfl⟩, E, HE.out, HJr.out.1⟩
    · have HPx : Hid ((E ++ x :: (R1 ++ R2)).Perm D) := by
        have h9 := HPr.out
        rw [hR] at h9
        exact (List.Perm.append_left E (List.perm_middle.symm)).trans h9
      have HPy : Hid (((E ++ [x]) ++ (R1 ++ R2)).Perm D) := by (have h9 := HPx.out; rw [List.append_assoc]; exact h9)
      have HRl : Hid (R.length = (R1 ++ R2).length + 1) := by (rw [hR]; show _ = _; simp; omega)
      have hnx2 : (Instr.next (.pointer (some ⟨W.heap.size, 0, none⟩)) false 0).run Try.prog wr = .ok (.tuple #[.bool true, .agg #[.int .i64 x.nd.1, .int .i64 x.nd.2], .agg #[.int .i64 x.nd.1, .int .i64 x.nd.2, .int .i64 x.pr.1, .int .i64 x.pr.2, .int .i64 x.sl.1, .int .i64 x.sl.2]]) w1 := hnx
      have hen2 : (Instr.entry (.pointer (some ⟨W.heap.size, 0, none⟩))).run Try.prog w1 = .ok (.tuple #[.agg #[.int .i64 x.nd.1, .int .i64 x.nd.2], .agg #[.int .i64 x.nd.1, .int .i64 x.nd.2, .int .i64 x.pr.1, .int .i64 x.pr.2, .int .i64 x.sl.1, .int .i64 x.sl.2]]) w1 := hen
      obtain ⟨W4, eW4⟩ : ∃ X, X = w1.alloc (.cells #[.int .i64 x.nd.1, .int .i64 x.nd.2, .int .i64 x.pr.1, .int .i64 x.pr.2, .int .i64 x.sl.1, .int .i64 x.sl.2] 43) := ⟨_, rfl⟩
      have hb4 : Below w1.heap.size w1 W4 := by rw [eW4]; exact (Below.refl _ _).alloc (Nat.le_refl _) _
      have HJ4 : Hid (JP W.heap.size J E W4) := (HJr.out.walk hg1 (Nat.le_refl _) HIr.out.walk).below hb4
      have HI4 : Hid (IterIs Pl.nd plV W4 sb W.heap.size D (R1 ++ R2)) := hI1.below hb4
      obtain ⟨fn, tmps, assign, body, hy, hRd⟩ := HY.out E x (R1 ++ R2) W4 HPx.out HJ4.out.1
      simp only [encP, plV, plCells] at hy
      have hy2 := hy
      rw [eW4] at hy2
      have HLf : Hid (itLeft wr W.heap.size = R.length) := HIr.out.left
      have HeW : Hid (W4 = w1.alloc (.cells #[.int .i64 x.nd.1, .int .i64 x.nd.2, .int .i64 x.pr.1, .int .i64 x.pr.2, .int .i64 x.sl.1, .int .i64 x.sl.2] 43)) := eW4
      clear hy hb4 hI1 hg1 hz1 hR hnx hen eW4 HIr HJr HPr
      gi_wp2
      rw [← HeW.out]
      refine ⟨fun _ => by omega, hRd.mono ?_⟩
      rintro e W3 ⟨rfl, hJ3, hk3⟩
      have HJ3 : Hid (JP W.heap.size J (E ++ [x]) W3) := ⟨hJ3, HJ.out⟩
      have HI3 : Hid (IterIs Pl.nd plV W3 sb W.heap.size D (R1 ++ R2)) := by
        obtain ⟨o4, ho4, hw4⟩ := HI4.out.walk
        exact HI4.out.keep (hk3.1.2 sb rfl) ((hk3.2 _ o4 ho4 hw4).trans ho4.symm)
      have HL3 : Hid (itLeft W3 W.heap.size = (R1 ++ R2).length) := HI3.out.left
      clear hJ3 hk3 hy2 hRd hnx2 hen2 HeW HI4 HJ4
      gi_wp2
      go_roundw
      case rel => exact ⟨E ++ [x], R1 ++ R2, HJ3, HI3, HPy⟩
      case measure => rw [HLf.out, HL3.out, HRl.out]; exact Nat.lt_succ_self _

end Go.Proofs.Ytljepindfdhbbaa
