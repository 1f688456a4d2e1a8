/- Going over a tree's nodes: nodes, and what stands while one ranges over it. -/
import Derived.Test.YtljmlbidbacdjabVtN
import Derived.Laws.EntriesVeiled
namespace Go.Proofs.Ytljmlbidbacdjab
open Go.RowKit Go.Shelf
set_option linter.unusedVariables false
set_option linter.unusedSimpArgs false

attribute [local go_sem] Oper.semAt_some

theorem grownBy.ofBelow {w w' : World} (h : Below w.heap.size w w') (row : Option Nat) : w.grownBy w' row := ⟨h.os, h.tape, h.output, h.size, fun k hk _ => h.block k hk⟩
theorem GdS.start {S : Nat → Prop} {N l : Nat} {w0 W : World} (hk : KeepsS S w0 W) (hS : ∀ k, S k → k < w0.heap.size) (hN : N ≤ W.heap.size) : GdS S N l w0 W.heap.size (W.heap.size + 1) ((W.alloc (.cells #[.func (.yield l) #[] #[]] 111)).alloc (.cells #[.func (.func 79) #[] #[.pointer (some ⟨W.heap.size, 0, none⟩), .pointer (some ⟨W.heap.size + 1, 0, none⟩)]] 111)) ∧ Below W.heap.size W ((W.alloc (.cells #[.func (.yield l) #[] #[]] 111)).alloc (.cells #[.func (.func 79) #[] #[.pointer (some ⟨W.heap.size, 0, none⟩), .pointer (some ⟨W.heap.size + 1, 0, none⟩)]] 111)) := by
  have hb : Below W.heap.size W ((W.alloc (.cells #[.func (.yield l) #[] #[]] 111)).alloc (.cells #[.func (.func 79) #[] #[.pointer (some ⟨W.heap.size, 0, none⟩), .pointer (some ⟨W.heap.size + 1, 0, none⟩)]] 111)) := ((Below.refl _ _).alloc (Nat.le_refl _) _).alloc (by simp) _
  have h2 := heap_alloc_new (W.alloc (.cells #[.func (.yield l) #[] #[]] 111)) (.cells #[.func (.func 79) #[] #[.pointer (some ⟨W.heap.size, 0, none⟩), .pointer (some ⟨W.heap.size + 1, 0, none⟩)]] 111)
  rw [show (W.alloc (.cells #[.func (.yield l) #[] #[]] 111)).heap.size = W.heap.size + 1 by simp] at h2
  refine ⟨⟨hk.trans (KeepsS.of_below hb fun k q => Nat.lt_of_lt_of_le (hS k q) hk.1), hS, ?_, h2, hN, by omega⟩, hb⟩
  rw [Below.heap_alloc _ _ _ (by simp)]
  exact heap_alloc_new W _

set_option maxRecDepth 100000 in
set_option maxHeartbeats 4000000 in
theorem nodes1_in (n : Nat) (S : Nat → Prop) (N l Bp Bt : Nat) (t : VT) (w0 W : World) (hS : ∀ k, S k → k < w0.heap.size) (hk : KeepsS S w0 W) (hN : N ≤ W.heap.size) (hBp : W.cell? ⟨Bp, 0, none⟩ = some (.pointer (some ⟨Bt, 0, none⟩))) (hv : VAt S w0 t Bt 0) (hSb : S Bt) (hsz : t.sz ≤ 4611686018427387904)
    (J Jx : Nat → World → Prop) (hJ : ∀ (k : Nat) (A B : World), J k A → Below A.heap.size A B → J k B) (hY : ∀ (n k : Nat) (h : k < (flatA w0 t 0 Bt 0).length) (W1 : World), J k W1 → YieldAt Fence.wide n Try.prog l (encN (flatA w0 t 0 Bt 0)[k]) W1 fun e W' => (e = .returned (.bool true) ∧ J (k + 1) W' ∧ KpN S N W1 W') ∨ (e = .returned (.bool false) ∧ Jx (k + 1) W')) (h0 : J 0 W) :
    CallsIn Fence.wide n Try.prog 78 #[.func (.yield l) #[] #[], .pointer (some ⟨Bp, 0, none⟩)] W fun e W' => (∃ v, e = .returned v) ∧ (J (flatA w0 t 0 Bt 0).length W' ∨ ∃ k, k ≤ (flatA w0 t 0 Bt 0).length ∧ Jx k W') := by
  obtain ⟨hg, hb⟩ := GdS.start (l := l) hk hS hN
  have hj := hJ 0 _ _ h0 hb
  have hcl := goDown_n S S (fun _ h => h) N l W.heap.size (W.heap.size + 1) w0 (flatA w0 t 0 Bt 0) J Jx hJ hY t.sz 0 t Bt 0 0 0 _ (Nat.le_refl _) (by omega) hv hSb (by rw [Seg, List.drop_zero]; exact List.prefix_rfl) hg hj
  have HC := hide9 (callsIn_wide.1 hcl)
  have hBp2 : ((W.alloc (.cells #[.func (.yield l) #[] #[]] 111)).alloc (.cells #[.func (.func 79) #[] #[.pointer (some ⟨W.heap.size, 0, none⟩), .pointer (some ⟨W.heap.size + 1, 0, none⟩)]] 111)).cell? ⟨Bp, 0, none⟩ = some (.pointer (some ⟨Bt, 0, none⟩)) := (Below.cell hb (p := ⟨Bp, 0, none⟩) (cell_lt hBp)).trans hBp
  have hne : Bp ≠ W.heap.size + 1 := by have : Bp < W.heap.size := cell_lt (p := ⟨Bp, 0, none⟩) hBp; omega
  clear hcl hg hj hb hv
  refine callsIn_wide.2 ?_
  go_enter Try.func78, Try.ntmps78
  go_wp2_with fail
  refine HC.out.mono ?_
  clear HC
  rintro e W3 ⟨bv, rfl, hgp⟩
  have HP := hide9 hgp
  clear hgp
  go_wp2
  go_end0
  refine ⟨⟨_, rfl⟩, ?_⟩
  rcases HP.out with ⟨_, h1, _⟩ | ⟨_, h1⟩
  · left
    rw [flatA_len]
    rw [Nat.zero_add] at h1
    exact h1
  · exact .inr h1

theorem nodes_seq (n : Nat) (S : Nat → Prop) (N Bp Bt : Nat) (t : VT) (w : World) (hS : ∀ k, S k → k < w.heap.size) (hN : N ≤ w.heap.size) (hBp : w.cell? ⟨Bp, 0, none⟩ = some (.pointer (some ⟨Bt, 0, none⟩))) (hv : VAt S w t Bt 0) (hSb : S Bt) (hsz : t.sz ≤ 4611686018427387904) :
    SeqOf n Try.prog 78 #[.pointer (some ⟨Bp, 0, none⟩)] encN (KpN S N) (flatA w t 0 Bt 0) w := fun l J Jx W hW hJ _ hY h0 =>
  nodes1_in n S N l Bp Bt t w W hS (KeepsS.of_below hW hS) (Nat.le_trans hN hW.size) ((hW.cell (p := ⟨Bp, 0, none⟩) (cell_lt hBp)).trans hBp) hv hSb hsz J Jx (fun k A B hA hb => hJ k A B none hA (grownBy.ofBelow hb none) (fun r e => by cases e)) (fun m k h W1 hJ1 => YieldAt.anyD m (hY k h W1 hJ1)) h0

theorem nodes_any (Bt : Nat) (w : World) : Calls Try.prog 52 #[.pointer (some ⟨Bt, 0, none⟩)] w fun e w' => e = .returned (.func (.func 78) #[] #[.pointer (some ⟨w.heap.size, 0, none⟩)]) ∧ w' = w.alloc (.cells #[.pointer (some ⟨Bt, 0, none⟩)] 98) := by
  go_enter Try.func52, Try.ntmps52
  go_wp2
  go_ret
  exact ⟨rfl, rfl⟩

theorem cells_ne {W : World} {k : Nat} {cs : Array Value} {t : TypeId} {fr : Nat × Nat} (h : W.heap[k]? = some (.cells cs t fr)) {row : Option Nat} (hr : ∀ r, row = some r → ∃ o : Obj, W.heap[r]? = some o ∧ o.isCells = false) : row ≠ some k := fun e => by
  obtain ⟨o, h1, h2⟩ := hr k e
  rw [h] at h1
  cases h1
  cases h2
theorem row_own {W W' : World} {k : Nat} {cs : Array Value} {t : TypeId} {fr : Nat × Nat} {row : Option Nat} (h : W.heap[k]? = some (.cells cs t fr)) (hg : W.grownBy W' row) (hr : ∀ r, row = some r → ∃ o : Obj, W.heap[r]? = some o ∧ o.isCells = false) : W'.heap[k]? = some (.cells cs t fr) :=
  (hg.block k (Array.getElem?_eq_some_iff.1 h).1 (fun e => cells_ne h hr e.symm)).trans h
theorem keepsFrom_below {B : Nat} {A C : World} (hb : Below A.heap.size A C) : KeepsFrom B A C := ⟨hb.size, fun k o _ hk _ => (hb.block k (Array.getElem?_eq_some_iff.1 hk).1).trans hk⟩
theorem keepsFrom_set {B : Nat} (A : World) (p : Addr) (v : Value) : KeepsFrom B A (A.setCell p v) := (KeepsOthers.setCell A p v).from B
theorem KpN.of_below {S : Nat → Prop} {N : Nat} {A B : World} (hb : Below A.heap.size A B) (hS : ∀ k, S k → k < A.heap.size) : KpN S N A B := ⟨hb.size, fun k hk => hb.block k (hk.elim (hS k) fun ⟨_, c, f, h⟩ => row_lt h)⟩
theorem KpN.set {S : Nat → Prop} {N : Nat} {A : World} {b i : Nat} {v : Value} (hb : ¬ S b) (hN : b < N) : KpN S N A (A.setCell ⟨b, i, none⟩ v) := ⟨by simp [World.setCell], fun k hk => RowKit.Below.heap_setCell _ _ _ _ (fun (e : k = b) => by
  subst e
  rcases hk with hk | ⟨hk, _⟩
  · exact hb hk
  · omega)⟩
/-- Boxes of the caller's own, while the blocks of S stay. -/
structure RnS (w W2 : World) (S : Nat → Prop) (bx : Nat → Option (Value × TypeId)) (U : World) : Prop where
  box : ∀ b v t, bx b = some (v, t) → U.heap[b]? = some (.cells #[v] t)
  bel : Below w.heap.size w U
  kp : KeepsS S W2 U
  sl : ∀ k, S k → k < W2.heap.size
  ns : ∀ b v t, bx b = some (v, t) → ¬ S b ∧ w.heap.size ≤ b ∧ b < W2.heap.size
  le : w.heap.size ≤ W2.heap.size
section
variable {w W2 U U' : World} {S : Nat → Prop} {bx : Nat → Option (Value × TypeId)}
theorem RnS.below (h : RnS w W2 S bx U) (hb : Below U.heap.size U U') : RnS w W2 S bx U' := ⟨fun b v t e => (hb.block _ (row_lt (h.box b v t e))).trans (h.box b v t e), h.bel.trans (hb.mono h.bel.size), h.kp.trans (KeepsS.of_below hb fun k q => Nat.lt_of_lt_of_le (h.sl k q) h.kp.1), h.sl, h.ns, h.le⟩
theorem RnS.grown (h : RnS w W2 S bx U) {row : Option Nat} (hg : U.grownBy U' row) (hr : ∀ r, row = some r → W2.heap.size ≤ r ∧ ∃ o : Obj, U.heap[r]? = some o ∧ o.isCells = false) : RnS w W2 S bx U' := by
  have hr2 : ∀ r, row = some r → ∃ o : Obj, U.heap[r]? = some o ∧ o.isCells = false := fun r e => (hr r e).2
  refine ⟨fun b v t e => row_own (h.box b v t e) hg hr2, h.bel.grown hg h.bel.size (fun j e => by have := (hr j e).1; have := h.le; omega), h.kp.trans ⟨hg.size, fun k q => hg.block k (Nat.lt_of_lt_of_le (h.sl k q) h.kp.1) (fun e => ?_)⟩, h.sl, h.ns, h.le⟩
  have h1 := (hr k e.symm).1
  have h2 := h.sl k q
  omega
theorem RnS.set (h : RnS w W2 S bx U) {b : Nat} {v0 : Value} {t : TypeId} (hb : bx b = some (v0, t)) (v : Value) : RnS w W2 S (fun k => if k = b then some (v, t) else bx k) (U.setCell ⟨b, 0, none⟩ v) := by
  obtain ⟨n1, n2, n3⟩ := h.ns b v0 t hb
  refine ⟨fun c u ty e => ?_, h.bel.setCell (p := ⟨b, 0, none⟩) n2 _, h.kp.trans ⟨by simp [World.setCell], fun k q => RowKit.Below.heap_setCell _ _ _ _ (fun (e : k = b) => n1 (e ▸ q))⟩, h.sl, fun c u ty e => ?_, h.le⟩
  · by_cases hc : c = b
    · subst hc
      rw [if_pos rfl] at e
      injection e with e
      injection e with e1 e2
      subst e1 e2
      rw [heap_setCell_same U c 0 _ _ _ (h.box c v0 t hb)]
      rfl
    · rw [if_neg hc] at e
      rw [RowKit.Below.heap_setCell _ _ _ _ hc]
      exact h.box c u ty e
  · by_cases hc : c = b
    · subst hc; exact ⟨n1, n2, n3⟩
    · rw [if_neg hc] at e
      exact h.ns c u ty e
theorem RnS.cell (h : RnS w W2 S bx U) {b : Nat} {v : Value} {t : TypeId} (hb : bx b = some (v, t)) : U.cell? ⟨b, 0, none⟩ = some v := by rw [cell_of_row U b 0 _ _ _ (h.box b v t hb)]; rfl
theorem RnS.free (h : RnS w W2 S bx U) {b : Nat} {v : Value} {t : TypeId} (hb : bx b = some (v, t)) : U.frozen? ⟨b, 0, none⟩ = false := frozen_of_row U b 0 _ _ (h.box b v t hb)
end
def B1 (b : Nat) (v : Value) (t : TypeId) : Nat → Option (Value × TypeId) := fun k => if k = b then some (v, t) else none
theorem B1.at (b : Nat) (v : Value) (t : TypeId) : B1 b v t b = some (v, t) := if_pos rfl
theorem B1.set (b : Nat) (v u : Value) (t : TypeId) : (fun k => if k = b then some (u, t) else B1 b v t k) = B1 b u t := by
  funext k
  unfold B1
  split <;> rfl
def B2 (b : Nat) (v : Value) (t : TypeId) (c : Nat) (u : Value) (s : TypeId) : Nat → Option (Value × TypeId) := fun k => if k = b then some (v, t) else if k = c then some (u, s) else none
theorem B2.at1 (b : Nat) (v : Value) (t : TypeId) (c : Nat) (u : Value) (s : TypeId) : B2 b v t c u s b = some (v, t) := if_pos rfl
theorem B2.at2 {b c : Nat} (h : b ≠ c) (v : Value) (t : TypeId) (u : Value) (s : TypeId) : B2 b v t c u s c = some (u, s) := by unfold B2; rw [if_neg (fun e => h e.symm), if_pos rfl]
theorem B2.set1 (b : Nat) (v : Value) (t : TypeId) (c : Nat) (u : Value) (s : TypeId) (x : Value) : (fun k => if k = b then some (x, t) else B2 b v t c u s k) = B2 b x t c u s := by
  funext k
  unfold B2
  split <;> rfl
theorem B2.set2 {b c : Nat} (h : b ≠ c) (v : Value) (t : TypeId) (u : Value) (s : TypeId) (x : Value) : (fun k => if k = c then some (x, s) else B2 b v t c u s k) = B2 b v t c x s := by
  funext k
  unfold B2
  by_cases h1 : k = b
  · subst h1; rw [if_neg h, if_pos rfl, if_pos rfl]
  · rw [if_neg h1, if_neg h1]
    split <;> rfl
theorem RnS.mk1 {w W2 : World} {S : Nat → Prop} {b : Nat} {v : Value} {t : TypeId} (h1 : W2.heap[b]? = some (.cells #[v] t)) (hb : Below w.heap.size w W2) (hS : ∀ k, S k → k < W2.heap.size) (hn : ¬ S b) (hl : w.heap.size ≤ b) : RnS w W2 S (B1 b v t) W2 := by
  have key : ∀ c u s, B1 b v t c = some (u, s) → c = b ∧ u = v ∧ s = t := fun c u s e => by
    unfold B1 at e
    split at e
    · rename_i hc
      injection e with e
      injection e with e1 e2
      exact ⟨hc, e1.symm, e2.symm⟩
    · cases e
  refine ⟨fun c u s e => ?_, hb, KeepsS.refl _ _, hS, fun c u s e => ?_, hb.size⟩
  · obtain ⟨rfl, rfl, rfl⟩ := key c u s e; exact h1
  · obtain ⟨rfl, rfl, rfl⟩ := key c u s e; exact ⟨hn, hl, row_lt h1⟩
theorem RnS.mk2 {w W2 : World} {S : Nat → Prop} {b c : Nat} {v u : Value} {t s : TypeId} (h1 : W2.heap[b]? = some (.cells #[v] t)) (h2 : W2.heap[c]? = some (.cells #[u] s)) (hb : Below w.heap.size w W2) (hS : ∀ k, S k → k < W2.heap.size) (hn : ¬ S b) (hm : ¬ S c) (hl : w.heap.size ≤ b) (hl2 : w.heap.size ≤ c) : RnS w W2 S (B2 b v t c u s) W2 := by
  have key : ∀ d x y, B2 b v t c u s d = some (x, y) → (d = b ∧ x = v ∧ y = t) ∨ (d = c ∧ x = u ∧ y = s) := fun d x y e => by
    unfold B2 at e
    split at e
    · rename_i hc
      injection e with e
      injection e with e1 e2
      exact .inl ⟨hc, e1.symm, e2.symm⟩
    · split at e
      · rename_i hc
        injection e with e
        injection e with e1 e2
        exact .inr ⟨hc, e1.symm, e2.symm⟩
      · cases e
  refine ⟨fun d x y e => ?_, hb, KeepsS.refl _ _, hS, fun d x y e => ?_, hb.size⟩
  · rcases key d x y e with ⟨rfl, rfl, rfl⟩ | ⟨rfl, rfl, rfl⟩
    · exact h1
    · exact h2
  · rcases key d x y e with ⟨rfl, rfl, rfl⟩ | ⟨rfl, rfl, rfl⟩
    · exact ⟨hn, hl, row_lt h1⟩
    · exact ⟨hm, hl2, row_lt h2⟩
/-- A tree that was handed in lies in blocks of S, S all that is there but for boxes of one's own. -/
theorem VAt.boxed {G : Nat → Prop} {w W2 : World} {t : VT} {aa : Option Addr} {ca : Nat} {ak : Option Addr} {ck : Nat} {S : Nat → Prop} (h : FdIs G w (.slice aa t.at_.length ca) (.slice ak t.ks.length ck) t.at_ t.ks) (hb : Below w.heap.size w W2) {Bt : Nat} (hB : W2.heap[Bt]? = some (.cells #[.int .i64 t.k.1, .int .i64 t.k.2, .string t.tg, .string t.tx, .slice aa t.at_.length ca, .slice ak t.ks.length ck] 42)) (hS : ∀ k, k < w.heap.size → S k) : VAt S W2 t Bt 0 := by
  obtain ⟨c0, c1, c2, c3, c4, c5⟩ := row6 hB
  refine VAt_iff.2 ⟨_, _, fun j u hj => ?_, h.turn hb.size fun k _ hlt => ⟨hS k hlt, hb.block k hlt⟩⟩
  rw [Nat.zero_add]
  match j, hj with
  | 0, hj => injection hj with hj; subst hj; exact c0
  | 1, hj => injection hj with hj; subst hj; exact c1
  | 2, hj => injection hj with hj; subst hj; exact c2
  | 3, hj => injection hj with hj; subst hj; exact c3
  | 4, hj => injection hj with hj; subst hj; exact c4
  | 5, hj => injection hj with hj; subst hj; exact c5
  | j + 6, hj => simp [ndC] at hj

end Go.Proofs.Ytljmlbidbacdjab
