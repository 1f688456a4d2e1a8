/- A range whose values are made anew each time, over a function that itself ranges; vtree.Each's iterator. -/
import Derived.Test.YtngglnlphlembaaVtKb
import Derived.OrdersIn
namespace Go.Proofs.Ytngglnlphlembaa
open Go.RowKit Go.Shelf
set_option linter.unusedVariables false
set_option linter.unusedSimpArgs false
attribute [local go_sem] Oper.semAt_some

/-- An iterator that hands out, one by one, values that are those of the list, and goes by loops of its own. -/
def SeqEy {α : Type} (n : Nat) (P : Program) (gf : Nat) (lb : Array Value) (Enc : α → Array Value → World → Prop) (Kp : World → World → Prop) (xs : List α) (w : World) : Prop :=
  ∀ (l : Nat) (J Jx : Nat → World → Prop) (W : World), Below w.heap.size w W → l < W.heap.size → OwnFrom W.heap.size J → OwnFrom W.heap.size Jx →
    (∀ k (h : k < xs.length) W1 u, Enc xs[k] u W1 → J k W1 → YieldAt Fence.wide (n - 1) P l u W1 fun e W' => KeepsFrom W.heap.size W1 W' ∧ ((e = .returned (.bool true) ∧ J (k + 1) W' ∧ Kp W1 W') ∨ (e = .returned (.bool false) ∧ Jx (k + 1) W'))) →
    J 0 W → CallsIn Fence.wide n P gf (#[.func (.yield l) #[] #[]] ++ lb) W fun e W' => (∃ v, e = .returned v) ∧ (J xs.length W' ∨ ∃ k, k ≤ xs.length ∧ Jx k W')
theorem range_ofY {α : Type} {n : Nat} {P : Program} {g : Operand} {ps : Array Tmp} {assign body : Code} {Q : Exit → Act → World → Prop} {a : Act} {w : World} (hn : 1 ≤ n) {gf : Nat} {lb : Array Value} (hg : a.eval g = .func (.func gf) #[] lb) (eg : ∀ args w, (callFunc gf args).run P w = .ok (.enter gf args) w)
    {Enc : α → Array Value → World → Prop} {Kp : World → World → Prop} {xs : List α} {w0 : World} (hseq : SeqEy (n - 1) P gf lb Enc Kp xs w0) (hKt : ∀ {A B C : World}, Kp A B → Kp B C → Kp A C) (hKb : ∀ (W : World) (l : Nat) (o o' : Obj), w.heap.size ≤ l → W.heap[l]? = some o → o.isCells = false → o.isWalk = false → Kp W (W.putObj l o'))
    (hb0 : Below w0.heap.size w0 w) (hps : ∀ x u W, Enc x u W → u.size = ps.size) (I : Nat → World → Prop) (Ix : Code → Nat → World → Prop) (hI : OwnFrom w.heap.size I) (hIx : ∀ c, OwnFrom w.heap.size (Ix c)) (h0 : I 0 w)
    (Ax : α → Act → World → Prop) (hAx : ∀ x a', OwnFrom w.heap.size (fun (_ : Unit) W => Ax x a' W))
    (hassign : ∀ (l k : Nat) (h : k < xs.length) (u : Array Value) (W : World) (K : Act → World → Prop), Enc xs[k] u W → I k W → (∀ a' W', KeepsFrom w.heap.size W W' → Kp W W' → I k W' → Ax xs[k] a' W' → K a' W') →
      assign.wpIn (Fence.wide.inRound l) (n - 1 - 1) P (Exit.then K (fun _ _ _ => False)) { tmps := (ps.zip u).foldl (fun t (p, v) => t.setIfInBounds p v) a.tmps, defers := [] } W)
    (hbody : ∀ (l k : Nat) (h : k < xs.length) (a' : Act) (W : World), w.heap.size ≤ l → I k W → Ax xs[k] a' W → body.wpIn (Fence.wide.inRound l) (n - 1 - 1) P (roundP w.heap.size Kp I Ix (k + 1) W) a' W)
    (hdone : ∀ (D : Nat) (W : World), w.heap.size ≤ D → I xs.length W → W.heap[D]? = some (.deferred (some [])) → Q .normal { a with defers := { target := .collected D, args := #[] } :: a.defers } W)
    (hstop : ∀ (D : Nat) (c : Code) (k : Nat) (W : World), w.heap.size ≤ D → k ≤ xs.length → Ix c k W → W.heap[D]? = some (.deferred (some [])) → c.wpIn Fence.wide n P Q { a with defers := { target := .collected D, args := #[] } :: a.defers } W) :
    (Code.rangeFunc g ps assign body).wpIn Fence.wide n P Q a w := by
  refine wpIn_range_with hn hg eg (fun fn rec hrec => ?_)
  obtain ⟨W1, hW1⟩ : ∃ W1, (w.alloc (.deferred (some []))).alloc (.loop (rec .ready none)) = W1 := ⟨_, rfl⟩
  have hs1 : W1.heap.size = w.heap.size + 2 := by rw [← hW1]; simp
  have hL1 : W1.heap[w.heap.size + 1]? = some (.loop (rec .ready none)) := by
    rw [← hW1]; have := World.alloc_heap_new (w.alloc (.deferred (some []))) (.loop (rec .ready none)); rwa [World.size_alloc] at this
  have hD1 : W1.heap[w.heap.size]? = some (.deferred (some [])) := by
    rw [← hW1]; exact (Below.heap_alloc _ _ _ (by simp)).trans (World.alloc_heap_new w _)
  have hI1 : I 0 W1 := by rw [← hW1]; exact hI.alloc _ (hI.alloc _ h0)
  have hb1 : Below w0.heap.size w0 W1 := by
    rw [← hW1]; exact hb0.trans ((((Below.refl _ w).alloc (Nat.le_refl _) _).alloc (by simp) _).mono hb0.size)
  rw [hW1]
  refine (hseq (w.heap.size + 1) (fun k W => I k W ∧ W.heap[w.heap.size + 1]? = some (.loop (rec .ready none)) ∧ W.heap[w.heap.size]? = some (.deferred (some []))) (fun k W => ∃ c, Ix c k W ∧ W.heap[w.heap.size + 1]? = some (.loop (rec .done (some c))) ∧ W.heap[w.heap.size]? = some (.deferred (some []))) W1 hb1 (by omega) ?_ ?_ ?_ ⟨hI1, hL1, hD1⟩).mono ?_
  · rintro k A B row ⟨h1, h2, h3⟩ hgr hr
    have far : ∀ j, j < W1.heap.size → j < A.heap.size → B.heap[j]? = A.heap[j]? := fun j hj hj2 => hgr.block j hj2 (fun e => by have := (hr j e.symm).1; omega)
    refine ⟨hI k A B row h1 hgr (fun r e => ?_), (far _ (by omega) (Array.getElem?_eq_some_iff.1 h2).1).trans h2, (far _ (by omega) (Array.getElem?_eq_some_iff.1 h3).1).trans h3⟩
    obtain ⟨q1, o, q2, q3⟩ := hr r e
    exact ⟨by omega, o, q2, q3⟩
  · rintro k A B row ⟨c, h1, h2, h3⟩ hgr hr
    have far : ∀ j, j < W1.heap.size → j < A.heap.size → B.heap[j]? = A.heap[j]? := fun j hj hj2 => hgr.block j hj2 (fun e => by have := (hr j e.symm).1; omega)
    refine ⟨c, hIx c k A B row h1 hgr (fun r e => ?_), (far _ (by omega) (Array.getElem?_eq_some_iff.1 h2).1).trans h2, (far _ (by omega) (Array.getElem?_eq_some_iff.1 h3).1).trans h3⟩
    obtain ⟨q1, o, q2, q3⟩ := hr r e
    exact ⟨by omega, o, q2, q3⟩
  · rintro k hk W2 u hu ⟨hi2, hl2, hd2⟩
    have kput : ∀ (A : World) (o : Obj), KeepsFrom W1.heap.size A (A.putObj (w.heap.size + 1) o) := fun A o => ⟨by simp [World.putObj], fun k o2 hB h1 _ => (World.putObj_heap_other (by omega)).trans h1⟩
    have kfr : ∀ {A B : World}, KeepsFrom w.heap.size A B → KeepsFrom W1.heap.size A B := fun h => ⟨h.size, fun k o hB h1 h2 => h.same k o (by omega) h1 h2⟩
    refine yield_round hrec hl2 (hps _ _ _ hu) (hassign (w.heap.size + 1) k hk u W2 _ hu hi2 ?_)
    intro a' W3 hkf hkp hi3 hax
    have hl3 := hkf.same (w.heap.size + 1) _ (by omega) hl2 rfl
    have hd3 := hkf.same w.heap.size _ (Nat.le_refl _) hd2 rfl
    refine ⟨hl3, ?_⟩
    have hi4 := hI.putObj (.loop { rec .ready none with state := .busy }) hi3 (by omega : w.heap.size ≤ w.heap.size + 1) hl3 rfl
    have hax4 := (hAx xs[k] a').putObj (s := ()) (.loop { rec .ready none with state := .busy }) hax (by omega : w.heap.size ≤ w.heap.size + 1) hl3 rfl
    have hkp4 := hKt hkp (hKb W3 (w.heap.size + 1) _ (.loop { rec .ready none with state := .busy }) (by omega) hl3 rfl rfl)
    have hl4 : (W3.putObj (w.heap.size + 1) (.loop { rec .ready none with state := .busy })).heap[w.heap.size + 1]? = some (.loop { rec .ready none with state := .busy }) := World.putObj_heap_same (Array.getElem?_eq_some_iff.1 hl3).1
    have hd4 : (W3.putObj (w.heap.size + 1) (.loop { rec .ready none with state := .busy })).heap[w.heap.size]? = some (.deferred (some [])) := (World.putObj_heap_other (by omega)).trans hd3
    refine wpIn_mono (hbody (w.heap.size + 1) k hk a' _ (by omega) hi4 hax4) ?_
    intro e a5 W5 hp
    cases e with
    | normal =>
      obtain ⟨p1, p2, p3⟩ := hp
      have hl5 := p1.same (w.heap.size + 1) _ (by omega) hl4 rfl
      have hd5 := p1.same w.heap.size _ (Nat.le_refl _) hd4 rfl
      refine ⟨hl5, ((kfr hkf).trans (kput _ _)).trans ((kfr p1).trans (kput _ _)), .inl ⟨rfl, ⟨hI.putObj _ p3 (by omega : w.heap.size ≤ w.heap.size + 1) hl5 rfl, World.putObj_heap_same (Array.getElem?_eq_some_iff.1 hl5).1, (World.putObj_heap_other (by omega)).trans hd5⟩, hKt (hKt hkp4 p2) (hKb W5 (w.heap.size + 1) _ _ (by omega) hl5 rfl rfl)⟩⟩
    | exit id =>
      obtain ⟨p1, p3⟩ := hp
      have hl5 := p1.same (w.heap.size + 1) _ (by omega) hl4 rfl
      have hd5 := p1.same w.heap.size _ (Nat.le_refl _) hd4 rfl
      exact ⟨hl5, ((kfr hkf).trans (kput _ _)).trans ((kfr p1).trans (kput _ _)), .inr ⟨rfl, _, (hIx _).putObj _ p3 (by omega : w.heap.size ≤ w.heap.size + 1) hl5 rfl, World.putObj_heap_same (Array.getElem?_eq_some_iff.1 hl5).1, (World.putObj_heap_other (by omega)).trans hd5⟩⟩
    | ret =>
      obtain ⟨p1, p3⟩ := hp
      have hl5 := p1.same (w.heap.size + 1) _ (by omega) hl4 rfl
      have hd5 := p1.same w.heap.size _ (Nat.le_refl _) hd4 rfl
      exact ⟨hl5, ((kfr hkf).trans (kput _ _)).trans ((kfr p1).trans (kput _ _)), .inr ⟨rfl, _, (hIx _).putObj _ p3 (by omega : w.heap.size ≤ w.heap.size + 1) hl5 rfl, World.putObj_heap_same (Array.getElem?_eq_some_iff.1 hl5).1, (World.putObj_heap_other (by omega)).trans hd5⟩⟩
    | goto t => exact hp.elim
    | panic ch => exact hp.elim
    | outgrown => exact hp.elim
  · rintro e W2 ⟨⟨v, rfl⟩, (⟨h1, h2, h3⟩ | ⟨k, hk, c, h1, h2, h3⟩)⟩
    · exact ⟨⟨v, rfl⟩, .inl ⟨h2, hdone _ _ (Nat.le_refl _) (hI.putObj _ h1 (by omega : w.heap.size ≤ w.heap.size + 1) h2 rfl) ((World.putObj_heap_other (by omega)).trans h3)⟩⟩
    · exact ⟨⟨v, rfl⟩, .inr ⟨c, h2, hstop _ c k _ (Nat.le_refl _) hk ((hIx c).putObj _ h1 (by omega : w.heap.size ≤ w.heap.size + 1) h2 rfl) ((World.putObj_heap_other (by omega)).trans h3)⟩⟩


/-- A region that draws its order, in a round; something in it may yield to a round further out. -/
theorem region_round_any {P : Program} {n id : Nat} {ops : List Oper} {Q : Exit → Act → World → Prop} {a : Act} {w : World} (l : Nat) (hm : P.follows .mixedOrders = true) (hnd : noDefer ops = true)
    (h : wpAnyIn Fence.wide n P .any ops.toArray Q ops.toArray.size (Array.replicate ops.toArray.size false) a w.drew) : (Code.region id ops.toArray true).wpIn (Fence.wide.inRound l) n P Q a w :=
  wpIn_region_draw fun t => ops_round l rfl (noDefer_spec hnd) _ _ _ (by
    simp only [Region.schedule, hm, Bool.true_or, if_true]
    exact wpAnyIn_sound _ _ _ _ _ h)
/-- What a round keeps: the blocks of S, and the boxes of both kinds of yields that are new since N. -/
def KpE (S : Nat → Prop) (N : Nat) (W W' : World) : Prop := W.heap.size ≤ W'.heap.size ∧ ∀ k, (S k ∨ (N ≤ k ∧ ∃ c f, W.heap[k]? = some (.cells c 75 f) ∨ W.heap[k]? = some (.cells c 51 f))) → W'.heap[k]? = W.heap[k]?
section
variable {S : Nat → Prop} {N : Nat} {A B C : World}
theorem KpE.trans (h : KpE S N A B) (k : KpE S N B C) : KpE S N A C := by
  refine ⟨Nat.le_trans h.1 k.1, fun j hj => ?_⟩
  have e := h.2 j hj
  refine (k.2 j ?_).trans e
  rcases hj with hj | ⟨hj, c, f, hc⟩
  · exact .inl hj
  · exact .inr ⟨hj, c, f, hc.imp e.trans e.trans⟩
theorem KpE.toN {N' : Nat} (h : KpE S N A B) (hN : N ≤ N') : KpN S N' A B := ⟨h.1, fun k hk => h.2 k (hk.imp id fun ⟨h1, c, f, h2⟩ => ⟨by omega, c, f, .inl h2⟩)⟩
theorem KpE.keeps (h : KpE S N A B) : KeepsS S A B := ⟨h.1, fun k hk => h.2 k (.inl hk)⟩
theorem KpE.of_below (hb : Below A.heap.size A B) (hS : ∀ k, S k → k < A.heap.size) : KpE S N A B := ⟨hb.size, fun k hk => hb.block k (hk.elim (hS k) fun ⟨_, c, f, h⟩ => h.elim row_lt row_lt)⟩
theorem KpE.obj {l : Nat} {o o' : Obj} (hl : N ≤ l) (hS : ∀ k, S k → k < N) (ho : A.heap[l]? = some o) (hc : o.isCells = false) : KpE S N A (A.putObj l o') := by
  refine ⟨by simp [World.putObj], fun k hk => ?_⟩
  have hne : k ≠ l := fun e => by
    rcases hk with hk | ⟨_, c, f, hq⟩
    · have := hS k hk; omega
    · rw [e, ho] at hq
      rcases hq with hq | hq <;> (injection hq with hq; rw [hq] at hc; cases hc)
  simp [World.putObj, Array.getElem?_setIfInBounds_ne (fun e => hne e.symm)]
end
theorem SepF.typed : ∀ (m : Nat) {W : World} {F : Nat → Prop} {av kv : Value} {t : VT}, SepF m W F av kv t → SepF m W (fun k => F k ∧ ∃ c f, W.heap[k]? = some (.cells c 27 f) ∨ W.heap[k]? = some (.cells c 57 f)) av kv t
  | 0, _, _, _, _, _, h => h.elim
  | m + 1, W, _, _, _, _, h => by
    obtain ⟨E, Fs, h1, h2, h3, h4, h5, h6, h7, h8, h9, h10⟩ := h
    exact ⟨E, fun i k => Fs i k ∧ ∃ c f, W.heap[k]? = some (.cells c 27 f) ∨ W.heap[k]? = some (.cells c 57 f), h1, h2, h3, h4, h5, fun k e => ⟨h6 k e, by obtain ⟨cur, hc⟩ := ownsRow_type h1 k e; exact ⟨cur, _, .inr hc⟩⟩, fun k e => ⟨h7 k e, by obtain ⟨cur, hc⟩ := ownsRow_type h2 k e; exact ⟨cur, _, .inl hc⟩⟩, fun i hi => (h8 i hi).typed m, fun i k hi q => ⟨⟨(h9 i k hi q.1).1, q.2⟩, (h9 i k hi q.1).2⟩, fun i j k hij q q2 => h10 i j k hij q.1 q2.1⟩
/-- A node as the iterator hands it out: how many are above it, and a copy in blocks from N on. -/
def EncX (N : Nat) (x : Nat × VT) (u : Array Value) (W : World) : Prop := ∃ av kv F, u = #[.int .i64 (x.1 : Int), .agg #[.int .i64 x.2.k.1, .int .i64 x.2.k.2, .string x.2.tg, .string x.2.tx, av, kv]] ∧ SepF x.2.sz W F av kv x.2 ∧ ∀ k, F k → N ≤ k ∧ k < W.heap.size ∧ ∃ c f, W.heap[k]? = some (.cells c 27 f) ∨ W.heap[k]? = some (.cells c 57 f)

theorem m_any {m : Nat} {l : Nat} {f : FuncId} {tmps : Array Value} {assign body : Code} {w : World} {R : Ending → World → Prop} (n : Nat) (h : RoundIn Fence.wide m Try.prog l f tmps assign body w R) : RoundIn Fence.wide n Try.prog l f tmps assign body w R := ⟨h.1, fun c cs _ => h.2 c cs (room_wide _)⟩

set_option maxRecDepth 100000 in
set_option maxHeartbeats 8000000 in
theorem each1_in (n : Nat) (hn : 6 ≤ n) (S : Nat → Prop) (N l Bo : Nat) (t : VT) (w0 W : World) (hl : l < W.heap.size) (hS : ∀ k, S k → k < w0.heap.size) (hk : KeepsS S w0 W) (hNW : N ≤ W.heap.size) (hv : VAt S w0 t Bo 0) (hSb : S Bo) (hsz : t.sz ≤ 1048576)
    (J Jx : Nat → World → Prop) (hJ : OwnFrom W.heap.size J) (hJx : OwnFrom W.heap.size Jx) (hY : ∀ k (h : k < (flatD t 0).length) W1 u, EncX N (flatD t 0)[k] u W1 → J k W1 → YieldAt Fence.wide (n - 1) Try.prog l u W1 fun e W' => KeepsFrom W.heap.size W1 W' ∧ ((e = .returned (.bool true) ∧ J (k + 1) W' ∧ KpE S N W1 W') ∨ (e = .returned (.bool false) ∧ Jx (k + 1) W'))) (h0 : J 0 W) :
    CallsIn Fence.wide n Try.prog 17 #[.func (.yield l) #[] #[], .pointer (some ⟨Bo, 0, none⟩)] W fun e W' => (∃ v, e = .returned v) ∧ (J (flatD t 0).length W' ∨ ∃ k, k ≤ (flatD t 0).length ∧ Jx k W') := by
  have hro : Fence.wide.round = none := rfl
  have h1n : 1 ≤ n := by omega
  have HJ : Hid (OwnFrom W.heap.size J ∧ OwnFrom W.heap.size Jx) := ⟨hJ, hJx⟩
  have HY : Hid (∀ k (h : k < (flatD t 0).length) W1 u, EncX N (flatD t 0)[k] u W1 → J k W1 → YieldAt Fence.wide (n - 1) Try.prog l u W1 fun e W' => KeepsFrom W.heap.size W1 W' ∧ ((e = .returned (.bool true) ∧ J (k + 1) W' ∧ KpE S N W1 W') ∨ (e = .returned (.bool false) ∧ Jx (k + 1) W'))) := hY
  clear hJ hJx hY
  refine callsIn_of_wp_marks Try.func17 rfl trivial ?_ hro
  simp only [Try.ntmps17, List.size_toArray, List.length_cons, List.length_nil, Nat.reduceAdd, Nat.reduceSub, Array.replicate_succ, Array.replicate_zero, List.push_toArray, List.append_toArray, List.nil_append, List.cons_append]
  gi_wp2_with fail
  refine ⟨trivial, ?_⟩
  refine (callsIn_wide.2 (nodes_any Bo _)).mono ?_
  rintro e W2 ⟨rfl, hw2⟩
  have hbx : Below W.heap.size W (W.alloc (.cells #[.func (.yield l) #[] #[]] 51)) := (Below.refl _ _).alloc (Nat.le_refl _) _
  have hb2 : Below W.heap.size W W2 := (by rw [hw2]; exact hbx.alloc (by simp) _)
  have hs2 : W2.heap.size = W.heap.size + 2 := (by rw [hw2]; simp)
  have hO0 : W2.heap[W.heap.size]? = some (.cells #[.func (.yield l) #[] #[]] 51) := (by rw [hw2, Below.heap_alloc _ _ _ (by simp)]; exact heap_alloc_new _ _)
  have hO1 : W2.heap[W.heap.size + 1]? = some (.cells #[.pointer (some ⟨Bo, 0, none⟩)] 55) := (by rw [hw2]; have h9 := heap_alloc_new (W.alloc (.cells #[.func (.yield l) #[] #[]] 51)) (.cells #[.pointer (some ⟨Bo, 0, none⟩)] 55); rw [show (W.alloc (.cells #[.func (.yield l) #[] #[]] 51)).heap.size = W.heap.size + 1 by simp] at h9; exact h9)
  obtain ⟨yb, eyb⟩ : ∃ b, b = W.heap.size := ⟨_, rfl⟩
  obtain ⟨pb, epb⟩ : ∃ b, b = W.heap.size + 1 := ⟨_, rfl⟩
  (try rw [show (W.alloc (.cells #[.func (.yield l) #[] #[]] 51)).heap.size = pb by rw [epb]; simp])
  rw [← eyb] at hO0
  rw [← epb] at hO1
  have Hyb := hide9 eyb
  have hSl : ∀ k, S k → k < W2.heap.size := fun k q => by (have := hS k q; have := hk.1; omega)
  have hk2 : KeepsS S w0 W2 := hk.trans (KeepsS.of_below hb2 fun k q => Nat.lt_of_lt_of_le (hS k q) hk.1)
  have hva : VAt S W2 t Bo 0 := hv.turn (G' := S) hk2.1 (fun j q _ => ⟨q, hk2.2 j q⟩) (hk2.2 _ hSb)
  have HSq := nodes_seq (n - 1) S W2.heap.size pb Bo t W2 hSl (Nat.le_refl _) (by rw [cell_of_row _ _ _ _ _ _ hO1]; rfl) hva hSb (by omega)
  have HA0 : (J 0 W2 ∧ W2.heap[yb]? = some (.cells #[.func (.yield l) #[] #[]] 51) ∧ KeepsS S W2 W2) := ⟨HJ.out.1 _ _ _ none h0 (grownBy.ofBelow hb2 none) (fun r e => by cases e), hO0, KeepsS.refl _ _⟩
  obtain ⟨xs, exs⟩ : ∃ xs, xs = flatA W2 t 0 Bo 0 := ⟨_, rfl⟩
  rw [← exs] at HSq
  have hxp : xs.map Nd.p = flatD t 0 := (by rw [exs]; exact flatA_p _ _ _ _ _)
  have HXl : Hid (xs.length = (flatD t 0).length) := (by (show _ = _); rw [← hxp, List.length_map])
  have HAt : Hid (∀ x ∈ xs, VAt S W2 x.t x.b x.o ∧ S x.b) := (by rw [exs]; exact flatA_at hva hSb)
  have HYx : Hid (∀ k (h : k < xs.length) W1 u, EncX N (xs[k].d, xs[k].t) u W1 → J k W1 → YieldAt Fence.wide (n - 1) Try.prog l u W1 fun e W' => KeepsFrom W.heap.size W1 W' ∧ ((e = .returned (.bool true) ∧ J (k + 1) W' ∧ KpE S N W1 W') ∨ (e = .returned (.bool false) ∧ Jx (k + 1) W'))) := fun k h W1 u he hj => HY.out k (by rw [← HXl.out]; exact h) W1 u (by have e9 : (flatD t 0)[k]'(by rw [← HXl.out]; exact h) = (xs[k].d, xs[k].t) := (by simp only [← hxp, List.getElem_map]; rfl); rw [e9]; exact he) hj
  have HN2 : Hid (N ≤ W2.heap.size ∧ W.heap.size + 2 = W2.heap.size) := ⟨by omega, hs2.symm⟩
  have HSl := hide9 hSl
  clear hxp exs hva hO0 hO1 hw2 hbx epb hk hk2 hv h0 hs2 hS HY
  gi_wp2
  (try rw [← eyb])
  clear eyb
  refine range_of h1n (gf := 29) (lb := #[.pointer (some ⟨pb, 0, none⟩)]) rfl (enters_of Try.func29 (by kernel_rfl) rfl) HSq KpN.trans (fun W l o o' hl ho hc _ => KpN.obj hl HSl.out ho hc) (Below.refl _ _) (fun _ => rfl)
    (fun k V => (J k V ∧ V.heap[yb]? = some (.cells #[.func (.yield l) #[] #[]] 51) ∧ KeepsS S W2 V)) (fun c k V => c = .ret ∧ Jx k V)
    (fun k A B row h1 hg hr => ⟨HJ.out.1 _ _ _ row h1.1 hg (fun r e => ⟨by have := (hr r e).1; have := HN2.out.2; omega, (hr r e).2⟩), row_own h1.2.1 hg (fun r e => (hr r e).2), h1.2.2.trans ⟨hg.size, fun j q => hg.block j (by have := HSl.out j q; have := h1.2.2.1; omega) (fun e => by have := (hr j e.symm).1; have := HSl.out j q; omega)⟩⟩) (fun c k A B row h1 hg hr => ⟨h1.1, HJ.out.2 _ _ _ row h1.2 hg (fun r e => ⟨by have := (hr r e).1; have := HN2.out.2; omega, (hr r e).2⟩)⟩) HA0
    (fun x a' V => a' = { tmps := #[.func (.yield l) #[] #[], .pointer (some ⟨Bo, 0, none⟩), .pointer (some ⟨yb, 0, none⟩), .int .i64 (x.d : Int), .pointer (some ⟨x.b, x.o, none⟩), .func (.func 29) #[] #[.pointer (some ⟨pb, 0, none⟩)], .int .i64 (x.d : Int), .pointer (some ⟨x.b, x.o, none⟩), undef, undef, undef, undef, undef, undef, undef, undef], defers := [] }) (fun x a' u A B row h5 _ _ => h5) ?assign ?body ?done ?stop
  clear HA0
  case assign =>
    rintro l1 k hk V K hA hK
    have hfin := hK _ V (KeepsFrom.refl _ _) (KpN.of_below (Below.refl _ _) (fun j q => by have := HSl.out j q; have := hA.2.2.1; omega)) hA rfl
    have HFin := hide9 hfin
    clear hK hfin hA
    generalize xs[k] = x at *
    simp only [encN] at *
    gi_wp2
    first | exact HFin.out | (simp; exact HFin.out)
  case body =>
    rintro l1 k hk a' Wb hlD ⟨hj, hyb, hks⟩ rfl
    obtain ⟨hxv, hxS⟩ := HAt.out xs[k] (List.getElem_mem hk)
    have hyk := HYx.out k hk
    obtain ⟨x, ex⟩ : ∃ x, x = xs[k] := ⟨_, rfl⟩
    rw [← ex] at hxv hxS hyk ⊢
    obtain ⟨W4, eW4⟩ : ∃ X, X = Wb.drew := ⟨_, rfl⟩
    have hb4 : Below Wb.heap.size Wb W4 := by rw [eW4]; exact (Below.refl _ _).drew
    have HYb : Hid (W4.heap[yb]? = some (.cells #[.func (.yield l) #[] #[]] 51)) := (hb4.block _ (row_lt hyb)).trans hyb
    have HJ4 : Hid (J k W4) := HJ.out.1 _ _ _ none hj (grownBy.ofBelow hb4 none) (fun r e => by cases e)
    have HKn : Hid (KpN S W2.heap.size Wb W4) := KpN.of_below hb4 fun j q => by have := HSl.out j q; have := hks.1; omega
    have HKf : Hid (KeepsFrom W2.heap.size Wb W4) := keepsFrom_below hb4
    have hks4 : KeepsS S W2 W4 := hks.trans (KeepsS.of_below hb4 fun j q => by have := HSl.out j q; have := hks.1; omega)
    have HKs := hide9 hks4
    have HW4 : Hid (W2.heap.size ≤ W4.heap.size) := hks4.1
    have HYk := hide9 hyk
    have HNy : Hid (N ≤ yb) := (by show _ ≤ _; rw [Hyb.out]; exact hNW)
    obtain ⟨av0, kv0, hcl, hfd0⟩ := VAt_iff.1 (hxv.turn (G' := S) hks4.1 (fun j q _ => ⟨q, hks4.2 j q⟩) (hks4.2 _ hxS))
    have HV0 : Hid (VIs S W4 (.agg #[.int .i64 x.t.k.1, .int .i64 x.t.k.2, .string x.t.tg, .string x.t.tx, av0, kv0]) x.t) := VIs.of hfd0
    have HCl : Hid (W4.cell? ⟨x.b, x.o, none⟩ = some (.int .i64 x.t.k.1) ∧ W4.cell? ⟨x.b, x.o + 1, none⟩ = some (.int .i64 x.t.k.2) ∧ W4.cell? ⟨x.b, x.o + 2, none⟩ = some (.string x.t.tg) ∧ W4.cell? ⟨x.b, x.o + 3, none⟩ = some (.string x.t.tx) ∧ W4.cell? ⟨x.b, x.o + 4, none⟩ = some av0 ∧ W4.cell? ⟨x.b, x.o + 5, none⟩ = some kv0) := ⟨hcl 0 _ rfl, hcl 1 _ rfl, hcl 2 _ rfl, hcl 3 _ rfl, hcl 4 _ rfl, hcl 5 _ rfl⟩
    clear hxv hxS hyk ex hj hyb hks hks4 hcl hfd0 hb4
    gi_wp2
    refine region_round_any l1 (by kernel_rfl) (by kernel_rfl) ?_
    rw [← eW4]
    clear eW4
    refine wpAnyIn_take (i := 1) (v := ?_) rfl rfl (by kernel_rfl) (by kernel_rfl) (by kernel_rfl) (fun _ _ _ h => h) ⟨Or.inl ⟨by rfl, ?_⟩, fun _ => rfl⟩ ?_
    rotate_left
    · (intro ww; go_simp; try with_reducible rfl)
    (try simp only [Act.put, List.setIfInBounds_toArray, List.set_cons_zero, List.set_cons_succ])
    refine wpAnyIn_take (i := 2) (v := ?_) rfl rfl (by kernel_rfl) (by kernel_rfl) (by kernel_rfl) (fun _ _ _ h => h) ⟨Or.inl ⟨by rfl, ?_⟩, fun _ => rfl⟩ ?_
    rotate_left
    · (intro ww; go_simp; try with_reducible rfl)
    (try simp only [Act.put, List.setIfInBounds_toArray, List.set_cons_zero, List.set_cons_succ])
    refine wpAnyIn_take (i := 3) (v := ?_) rfl rfl (by kernel_rfl) (by kernel_rfl) (by kernel_rfl) (fun _ _ _ h => h) ⟨Or.inl ⟨by rfl, ?_⟩, fun _ => rfl⟩ ?_
    rotate_left
    · (intro ww; go_simp; try with_reducible rfl)
    (try simp only [Act.put, List.setIfInBounds_toArray, List.set_cons_zero, List.set_cons_succ])
    refine wpAnyIn_ready (rs := [0, 4]) (by kernel_rfl) (by simp) ?_
    refine AllReadyIn.cons rfl (fun K hK => ?_) (AllReadyIn.cons rfl (fun K hK => ?_) AllReadyIn.nil)
    · have y0 : W4.cell? ⟨yb, 0, none⟩ = some (.func (.yield l) #[] #[]) := by rw [cell_of_row _ _ _ _ _ _ HYb.out]; rfl
      go_simp
      clear y0
      refine hK _ _ ?_
      clear hK K
      (try simp only [Act.put, List.setIfInBounds_toArray, List.set_cons_zero, List.set_cons_succ])
      refine wpAnyIn_ready (rs := [4]) (by kernel_rfl) (by simp) ?_
      refine AllReadyIn.cons rfl (fun K hK => ?_) AllReadyIn.nil
      obtain ⟨p0, p1, p2, p3, p4, p5⟩ := HCl.out
      go_simp
      clear p0 p1 p2 p3 p4 p5
      refine hK _ _ ?_
      clear hK K
      (try simp only [Act.put, List.setIfInBounds_toArray, List.set_cons_zero, List.set_cons_succ])
      refine wpAnyIn_ready (rs := [5]) (by kernel_rfl) (by simp) ?_
      refine AllReadyIn.cons rfl (fun K hK => ?_) AllReadyIn.nil
      go_simp
      skip
      skip
      first | refine (callsIn_wide.2 (copy_sep S x.t _ _ HV0.out)).mono ?_ | (refine ⟨trivial, ?_⟩; refine (callsIn_wide.2 (copy_sep S x.t _ _ HV0.out)).mono ?_) | (refine ⟨trivial, fun h => (by cases h), ?_⟩; refine (callsIn_wide.2 (copy_sep S x.t _ _ HV0.out)).mono ?_) | (refine ⟨fun h => (by cases h), ?_⟩; refine (callsIn_wide.2 (copy_sep S x.t _ _ HV0.out)).mono ?_)
      rintro e W5 ⟨v', F, rfl, _, hF, hb, av, kv, rfl, hsep⟩
      have HYb5 : Hid (W5.heap[yb]? = some (.cells #[.func (.yield l) #[] #[]] 51)) := (hb.block _ (row_lt HYb.out)).trans HYb.out
      replace HYb := HYb5
      clear HYb5
      have HEn : Hid (EncX N (x.d, x.t) #[.int .i64 (x.d : Int), .agg #[.int .i64 x.t.k.1, .int .i64 x.t.k.2, .string x.t.tg, .string x.t.tx, av, kv]] W5) := ⟨av, kv, _, rfl, hsep.typed _, fun k q => ⟨by have := (hF k q.1).1; have := HW4.out; have := HN2.out.1; omega, (hF k q.1).2, q.2⟩⟩
      have HJ5 : Hid (J k W5) := HJ.out.1 _ _ _ none HJ4.out (grownBy.ofBelow hb none) (fun r e => by cases e)
      have HKn5 : Hid (KpN S W2.heap.size Wb W5) := HKn.out.trans (KpN.of_below hb fun j q => by have := HSl.out j q; have := HW4.out; omega)
      have HKf5 : Hid (KeepsFrom W2.heap.size Wb W5) := HKf.out.trans (keepsFrom_below hb)
      have HKs5 : Hid (KeepsS S W2 W5) := HKs.out.trans (KeepsS.of_below hb fun j q => by have := HSl.out j q; have := HW4.out; omega)
      clear hsep hF hb
      refine hK _ _ ?_
      clear hK K
      (try simp only [Act.put, List.setIfInBounds_toArray, List.set_cons_zero, List.set_cons_succ])
      refine wpAnyIn_ready (rs := [6]) (by kernel_rfl) (by simp) ?_
      refine AllReadyIn.cons rfl (fun K hK => ?_) AllReadyIn.nil
      have hy := HYk.out W5 _ HEn.out HJ5.out
      obtain ⟨fn, tmps, assign, body, hy2, hRd⟩ := hy
      go_simp
      refine ⟨fun h => (by cases h), ?_⟩
      refine RoundIn.mono (m_any _ hRd) ?_
      rintro e W6 ⟨hkf, (⟨rfl, hJ6, hk6⟩ | ⟨rfl, hJ6⟩)⟩
      · have HYb6 : Hid (W6.heap[yb]? = some (.cells #[.func (.yield l) #[] #[]] 51)) := (hk6.2 _ (.inr ⟨HNy.out, _, _, .inr HYb.out⟩)).trans HYb.out
        have HJ6 : Hid (J (k + 1) W6) := hJ6
        have HKn6 : Hid (KpN S W2.heap.size Wb W6) := HKn5.out.trans (hk6.toN HN2.out.1)
        have HKf6 : Hid (KeepsFrom W2.heap.size Wb W6) := HKf5.out.trans ⟨hkf.size, fun j o hB h1 h2 => hkf.same j o (by have := HN2.out.2; omega) h1 h2⟩
        have HKs6 : Hid (KeepsS S W2 W6) := HKs5.out.trans hk6.keeps
        clear hkf hJ6 hk6 hy2
        refine hK _ _ ?_
        clear hK K
        (try simp only [Act.put, List.setIfInBounds_toArray, List.set_cons_zero, List.set_cons_succ])
        refine wpAnyIn_take (i := 7) (v := ?_) rfl rfl (by kernel_rfl) (by kernel_rfl) (by kernel_rfl) (fun _ _ _ h => h) ⟨Or.inl ⟨by rfl, ?_⟩, fun _ => rfl⟩ ?_
        rotate_left
        · (intro ww; go_simp; try with_reducible rfl)
        (try simp only [Act.put, List.setIfInBounds_toArray, List.set_cons_zero, List.set_cons_succ])
        refine wpAnyIn_done (by kernel_rfl) ?_ _
        gi_wp2
        exact ⟨HKf6.out, HKn6.out, HJ6.out, HYb6.out, HKs6.out⟩
      · have HJ6 : Hid (Jx (k + 1) W6) := hJ6
        have HKf6 : Hid (KeepsFrom W2.heap.size Wb W6) := HKf5.out.trans ⟨hkf.size, fun j o hB h1 h2 => hkf.same j o (by have := HN2.out.2; omega) h1 h2⟩
        clear hkf hJ6 hy2
        refine hK _ _ ?_
        clear hK K
        (try simp only [Act.put, List.setIfInBounds_toArray, List.set_cons_zero, List.set_cons_succ])
        refine wpAnyIn_take (i := 7) (v := ?_) rfl rfl (by kernel_rfl) (by kernel_rfl) (by kernel_rfl) (fun _ _ _ h => h) ⟨Or.inl ⟨by rfl, ?_⟩, fun _ => rfl⟩ ?_
        rotate_left
        · (intro ww; go_simp; try with_reducible rfl)
        (try simp only [Act.put, List.setIfInBounds_toArray, List.set_cons_zero, List.set_cons_succ])
        refine wpAnyIn_done (by kernel_rfl) ?_ _
        gi_wp2
        exact ⟨HKf6.out, rfl, HJ6.out⟩
    · obtain ⟨p0, p1, p2, p3, p4, p5⟩ := HCl.out
      go_simp
      clear p0 p1 p2 p3 p4 p5
      refine hK _ _ ?_
      clear hK K
      (try simp only [Act.put, List.setIfInBounds_toArray, List.set_cons_zero, List.set_cons_succ])
      refine wpAnyIn_ready (rs := [0, 5]) (by kernel_rfl) (by simp) ?_
      refine AllReadyIn.cons rfl (fun K hK => ?_) (AllReadyIn.cons rfl (fun K hK => ?_) AllReadyIn.nil)
      · have y0 : W4.cell? ⟨yb, 0, none⟩ = some (.func (.yield l) #[] #[]) := by rw [cell_of_row _ _ _ _ _ _ HYb.out]; rfl
        go_simp
        clear y0
        refine hK _ _ ?_
        clear hK K
        (try simp only [Act.put, List.setIfInBounds_toArray, List.set_cons_zero, List.set_cons_succ])
        refine wpAnyIn_ready (rs := [5]) (by kernel_rfl) (by simp) ?_
        refine AllReadyIn.cons rfl (fun K hK => ?_) AllReadyIn.nil
        go_simp
        skip
        skip
        first | refine (callsIn_wide.2 (copy_sep S x.t _ _ HV0.out)).mono ?_ | (refine ⟨trivial, ?_⟩; refine (callsIn_wide.2 (copy_sep S x.t _ _ HV0.out)).mono ?_) | (refine ⟨trivial, fun h => (by cases h), ?_⟩; refine (callsIn_wide.2 (copy_sep S x.t _ _ HV0.out)).mono ?_) | (refine ⟨fun h => (by cases h), ?_⟩; refine (callsIn_wide.2 (copy_sep S x.t _ _ HV0.out)).mono ?_)
        rintro e W5 ⟨v', F, rfl, _, hF, hb, av, kv, rfl, hsep⟩
        have HYb5 : Hid (W5.heap[yb]? = some (.cells #[.func (.yield l) #[] #[]] 51)) := (hb.block _ (row_lt HYb.out)).trans HYb.out
        replace HYb := HYb5
        clear HYb5
        have HEn : Hid (EncX N (x.d, x.t) #[.int .i64 (x.d : Int), .agg #[.int .i64 x.t.k.1, .int .i64 x.t.k.2, .string x.t.tg, .string x.t.tx, av, kv]] W5) := ⟨av, kv, _, rfl, hsep.typed _, fun k q => ⟨by have := (hF k q.1).1; have := HW4.out; have := HN2.out.1; omega, (hF k q.1).2, q.2⟩⟩
        have HJ5 : Hid (J k W5) := HJ.out.1 _ _ _ none HJ4.out (grownBy.ofBelow hb none) (fun r e => by cases e)
        have HKn5 : Hid (KpN S W2.heap.size Wb W5) := HKn.out.trans (KpN.of_below hb fun j q => by have := HSl.out j q; have := HW4.out; omega)
        have HKf5 : Hid (KeepsFrom W2.heap.size Wb W5) := HKf.out.trans (keepsFrom_below hb)
        have HKs5 : Hid (KeepsS S W2 W5) := HKs.out.trans (KeepsS.of_below hb fun j q => by have := HSl.out j q; have := HW4.out; omega)
        clear hsep hF hb
        refine hK _ _ ?_
        clear hK K
        (try simp only [Act.put, List.setIfInBounds_toArray, List.set_cons_zero, List.set_cons_succ])
        refine wpAnyIn_ready (rs := [6]) (by kernel_rfl) (by simp) ?_
        refine AllReadyIn.cons rfl (fun K hK => ?_) AllReadyIn.nil
        have hy := HYk.out W5 _ HEn.out HJ5.out
        obtain ⟨fn, tmps, assign, body, hy2, hRd⟩ := hy
        go_simp
        refine ⟨fun h => (by cases h), ?_⟩
        refine RoundIn.mono (m_any _ hRd) ?_
        rintro e W6 ⟨hkf, (⟨rfl, hJ6, hk6⟩ | ⟨rfl, hJ6⟩)⟩
        · have HYb6 : Hid (W6.heap[yb]? = some (.cells #[.func (.yield l) #[] #[]] 51)) := (hk6.2 _ (.inr ⟨HNy.out, _, _, .inr HYb.out⟩)).trans HYb.out
          have HJ6 : Hid (J (k + 1) W6) := hJ6
          have HKn6 : Hid (KpN S W2.heap.size Wb W6) := HKn5.out.trans (hk6.toN HN2.out.1)
          have HKf6 : Hid (KeepsFrom W2.heap.size Wb W6) := HKf5.out.trans ⟨hkf.size, fun j o hB h1 h2 => hkf.same j o (by have := HN2.out.2; omega) h1 h2⟩
          have HKs6 : Hid (KeepsS S W2 W6) := HKs5.out.trans hk6.keeps
          clear hkf hJ6 hk6 hy2
          refine hK _ _ ?_
          clear hK K
          (try simp only [Act.put, List.setIfInBounds_toArray, List.set_cons_zero, List.set_cons_succ])
          refine wpAnyIn_take (i := 7) (v := ?_) rfl rfl (by kernel_rfl) (by kernel_rfl) (by kernel_rfl) (fun _ _ _ h => h) ⟨Or.inl ⟨by rfl, ?_⟩, fun _ => rfl⟩ ?_
          rotate_left
          · (intro ww; go_simp; try with_reducible rfl)
          (try simp only [Act.put, List.setIfInBounds_toArray, List.set_cons_zero, List.set_cons_succ])
          refine wpAnyIn_done (by kernel_rfl) ?_ _
          gi_wp2
          exact ⟨HKf6.out, HKn6.out, HJ6.out, HYb6.out, HKs6.out⟩
        · have HJ6 : Hid (Jx (k + 1) W6) := hJ6
          have HKf6 : Hid (KeepsFrom W2.heap.size Wb W6) := HKf5.out.trans ⟨hkf.size, fun j o hB h1 h2 => hkf.same j o (by have := HN2.out.2; omega) h1 h2⟩
          clear hkf hJ6 hy2
          refine hK _ _ ?_
          clear hK K
          (try simp only [Act.put, List.setIfInBounds_toArray, List.set_cons_zero, List.set_cons_succ])
          refine wpAnyIn_take (i := 7) (v := ?_) rfl rfl (by kernel_rfl) (by kernel_rfl) (by kernel_rfl) (fun _ _ _ h => h) ⟨Or.inl ⟨by rfl, ?_⟩, fun _ => rfl⟩ ?_
          rotate_left
          · (intro ww; go_simp; try with_reducible rfl)
          (try simp only [Act.put, List.setIfInBounds_toArray, List.set_cons_zero, List.set_cons_succ])
          refine wpAnyIn_done (by kernel_rfl) ?_ _
          gi_wp2
          exact ⟨HKf6.out, rfl, HJ6.out⟩
      · go_simp
        skip
        skip
        first | refine (callsIn_wide.2 (copy_sep S x.t _ _ HV0.out)).mono ?_ | (refine ⟨trivial, ?_⟩; refine (callsIn_wide.2 (copy_sep S x.t _ _ HV0.out)).mono ?_) | (refine ⟨trivial, fun h => (by cases h), ?_⟩; refine (callsIn_wide.2 (copy_sep S x.t _ _ HV0.out)).mono ?_) | (refine ⟨fun h => (by cases h), ?_⟩; refine (callsIn_wide.2 (copy_sep S x.t _ _ HV0.out)).mono ?_)
        rintro e W5 ⟨v', F, rfl, _, hF, hb, av, kv, rfl, hsep⟩
        have HYb5 : Hid (W5.heap[yb]? = some (.cells #[.func (.yield l) #[] #[]] 51)) := (hb.block _ (row_lt HYb.out)).trans HYb.out
        replace HYb := HYb5
        clear HYb5
        have HEn : Hid (EncX N (x.d, x.t) #[.int .i64 (x.d : Int), .agg #[.int .i64 x.t.k.1, .int .i64 x.t.k.2, .string x.t.tg, .string x.t.tx, av, kv]] W5) := ⟨av, kv, _, rfl, hsep.typed _, fun k q => ⟨by have := (hF k q.1).1; have := HW4.out; have := HN2.out.1; omega, (hF k q.1).2, q.2⟩⟩
        have HJ5 : Hid (J k W5) := HJ.out.1 _ _ _ none HJ4.out (grownBy.ofBelow hb none) (fun r e => by cases e)
        have HKn5 : Hid (KpN S W2.heap.size Wb W5) := HKn.out.trans (KpN.of_below hb fun j q => by have := HSl.out j q; have := HW4.out; omega)
        have HKf5 : Hid (KeepsFrom W2.heap.size Wb W5) := HKf.out.trans (keepsFrom_below hb)
        have HKs5 : Hid (KeepsS S W2 W5) := HKs.out.trans (KeepsS.of_below hb fun j q => by have := HSl.out j q; have := HW4.out; omega)
        clear hsep hF hb
        refine hK _ _ ?_
        clear hK K
        (try simp only [Act.put, List.setIfInBounds_toArray, List.set_cons_zero, List.set_cons_succ])
        refine wpAnyIn_ready (rs := [0]) (by kernel_rfl) (by simp) ?_
        refine AllReadyIn.cons rfl (fun K hK => ?_) AllReadyIn.nil
        have y0 : W5.cell? ⟨yb, 0, none⟩ = some (.func (.yield l) #[] #[]) := by rw [cell_of_row _ _ _ _ _ _ HYb.out]; rfl
        go_simp
        clear y0
        refine hK _ _ ?_
        clear hK K
        (try simp only [Act.put, List.setIfInBounds_toArray, List.set_cons_zero, List.set_cons_succ])
        refine wpAnyIn_ready (rs := [6]) (by kernel_rfl) (by simp) ?_
        refine AllReadyIn.cons rfl (fun K hK => ?_) AllReadyIn.nil
        have hy := HYk.out W5 _ HEn.out HJ5.out
        obtain ⟨fn, tmps, assign, body, hy2, hRd⟩ := hy
        go_simp
        refine ⟨fun h => (by cases h), ?_⟩
        refine RoundIn.mono (m_any _ hRd) ?_
        rintro e W6 ⟨hkf, (⟨rfl, hJ6, hk6⟩ | ⟨rfl, hJ6⟩)⟩
        · have HYb6 : Hid (W6.heap[yb]? = some (.cells #[.func (.yield l) #[] #[]] 51)) := (hk6.2 _ (.inr ⟨HNy.out, _, _, .inr HYb.out⟩)).trans HYb.out
          have HJ6 : Hid (J (k + 1) W6) := hJ6
          have HKn6 : Hid (KpN S W2.heap.size Wb W6) := HKn5.out.trans (hk6.toN HN2.out.1)
          have HKf6 : Hid (KeepsFrom W2.heap.size Wb W6) := HKf5.out.trans ⟨hkf.size, fun j o hB h1 h2 => hkf.same j o (by have := HN2.out.2; omega) h1 h2⟩
          have HKs6 : Hid (KeepsS S W2 W6) := HKs5.out.trans hk6.keeps
          clear hkf hJ6 hk6 hy2
          refine hK _ _ ?_
          clear hK K
          (try simp only [Act.put, List.setIfInBounds_toArray, List.set_cons_zero, List.set_cons_succ])
          refine wpAnyIn_take (i := 7) (v := ?_) rfl rfl (by kernel_rfl) (by kernel_rfl) (by kernel_rfl) (fun _ _ _ h => h) ⟨Or.inl ⟨by rfl, ?_⟩, fun _ => rfl⟩ ?_
          rotate_left
          · (intro ww; go_simp; try with_reducible rfl)
          (try simp only [Act.put, List.setIfInBounds_toArray, List.set_cons_zero, List.set_cons_succ])
          refine wpAnyIn_done (by kernel_rfl) ?_ _
          gi_wp2
          exact ⟨HKf6.out, HKn6.out, HJ6.out, HYb6.out, HKs6.out⟩
        · have HJ6 : Hid (Jx (k + 1) W6) := hJ6
          have HKf6 : Hid (KeepsFrom W2.heap.size Wb W6) := HKf5.out.trans ⟨hkf.size, fun j o hB h1 h2 => hkf.same j o (by have := HN2.out.2; omega) h1 h2⟩
          clear hkf hJ6 hy2
          refine hK _ _ ?_
          clear hK K
          (try simp only [Act.put, List.setIfInBounds_toArray, List.set_cons_zero, List.set_cons_succ])
          refine wpAnyIn_take (i := 7) (v := ?_) rfl rfl (by kernel_rfl) (by kernel_rfl) (by kernel_rfl) (fun _ _ _ h => h) ⟨Or.inl ⟨by rfl, ?_⟩, fun _ => rfl⟩ ?_
          rotate_left
          · (intro ww; go_simp; try with_reducible rfl)
          (try simp only [Act.put, List.setIfInBounds_toArray, List.set_cons_zero, List.set_cons_succ])
          refine wpAnyIn_done (by kernel_rfl) ?_ _
          gi_wp2
          exact ⟨HKf6.out, rfl, HJ6.out⟩
  case done =>
    rintro D V hD hA hDf
    have HA := hide9 hA
    have HDf := hide9 hDf
    clear hA hDf
    gi_wp2
    refine ⟨by simp, .inl ⟨_, _, rfl, run_takeDeferred HDf.out, ?_⟩⟩
    refine ⟨_, results_none rfl _ _ _, ⟨_, rfl⟩, .inl ?_⟩
    rw [← HXl.out]
    exact HJ.out.1.putObj _ HA.out.1 (by have := HN2.out.2; omega) HDf.out rfl
  case stop =>
    rintro D c k V hD hk ⟨rfl, hA⟩ hDf
    have HA := hide9 hA
    have HDf := hide9 hDf
    clear hA hDf
    gi_wp2
    refine ⟨by simp, .inl ⟨_, _, rfl, run_takeDeferred HDf.out, ?_⟩⟩
    refine ⟨_, results_none rfl _ _ _, ⟨_, rfl⟩, .inr ⟨k, by rw [← HXl.out]; exact hk, ?_⟩⟩
    exact HJ.out.2.putObj _ HA.out (by have := HN2.out.2; omega) HDf.out rfl

theorem each1_seq (n : Nat) (hn : 6 ≤ n) (S : Nat → Prop) (N Bo : Nat) (t : VT) (w : World) (hS : ∀ k, S k → k < w.heap.size) (hN : N ≤ w.heap.size) (hv : VAt S w t Bo 0) (hSb : S Bo) (hsz : t.sz ≤ 1048576) :
    SeqEy n Try.prog 17 #[.pointer (some ⟨Bo, 0, none⟩)] (EncX N) (KpE S N) (flatD t 0) w := fun l J Jx W hW hl hJ hJx hY h0 =>
  each1_in n hn S N l Bo t w W hl hS (KeepsS.of_below hW hS) (Nat.le_trans hN hW.size) hv hSb hsz J Jx hJ hJx hY h0

end Go.Proofs.Ytngglnlphlembaa
