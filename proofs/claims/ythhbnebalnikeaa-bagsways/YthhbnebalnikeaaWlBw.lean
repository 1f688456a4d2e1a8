/- BagsWays: the links that have frames gone over, as the net was at the call; left in the midst, and gone over again. -/
import Derived.Test.YthhbnebalnikeaaDsR
namespace Go.Proofs.Ythhbnebalnikeaa
open Go.RowKit Go.Shelf
set_option linter.unusedVariables false
set_option linter.unusedSimpArgs false

attribute [local go_sem] Oper.semAt_some

def BxC (b : Nat) (cs : List Value) (T : TypeId) (W : World) : Prop := W.heap[b]? = some (.cells cs.toArray T)
section
variable {b : Nat} {cs : List Value} {T : TypeId} {W W' : World}
theorem BxC.lt (h : BxC b cs T W) : b < W.heap.size := row_lt h
theorem BxC.keep (h : BxC b cs T W) (hk : W'.heap[b]? = W.heap[b]?) : BxC b cs T W' := hk.trans h
theorem BxC.below (h : BxC b cs T W) (hb : Below W.heap.size W W') : BxC b cs T W' := h.keep (hb.block b h.lt)
theorem BxC.touch (h : BxC b cs T W) {G : Nat → Prop} (ht : Touch G W W') (hG : ¬ G b) : BxC b cs T W' := h.keep (ht.block b h.lt hG)
theorem BxC.cell (h : BxC b cs T W) (i : Nat) (v : Value) (hv : cs[i]? = some v) : W.cell? ⟨b, i, none⟩ = some v := by
  rw [cell_of_row W b i _ _ _ h, List.getElem?_toArray]
  exact hv
theorem BxC.free (h : BxC b cs T W) (i : Nat) : W.frozen? ⟨b, i, none⟩ = false := frozen_of_row W b i _ _ h
theorem BxC.new (w : World) (cs : List Value) (T : TypeId) : BxC w.heap.size cs T (w.alloc (.cells cs.toArray T)) := heap_alloc_new w _
theorem BxC.new2 (w : World) (cs ds : List Value) (T U : TypeId) : BxC w.heap.size cs T ((w.alloc (.cells cs.toArray T)).alloc (.cells ds.toArray U)) ∧ BxC (w.heap.size + 1) ds U ((w.alloc (.cells cs.toArray T)).alloc (.cells ds.toArray U)) := by
  refine ⟨(Below.heap_alloc _ _ _ (by simp)).trans (heap_alloc_new w _), ?_⟩
  have := heap_alloc_new (w.alloc (.cells cs.toArray T)) (.cells ds.toArray U)
  simpa [BxC] using this
end
def bodyPostN (F : Fence) (n : Nat) (P : Program) (fn : Func) (R : Ending → World → Prop) : Exit → Act → World → Prop
  | .normal, a, w | .ret, a, w => LeavesInM F n P fn a.tmps R a.defers .returning w
  | _, _, _ => False
theorem callsIn_of_wp_marksN {F : Fence} {n : Nat} {P : Program} {f : FuncId} {fn : Func} {c : Code} {args : Array Value} {w : World} {R : Ending → World → Prop}
    (hf : P.funcs[f]? = some fn) (hb : fn.body = some c) (hF : F.fn f)
    (h : c.wpIn F n P (bodyPostN F n P fn R) { tmps := args ++ Array.replicate (fn.ntmps - args.size) undef, defers := [] } w) (hro : F.round = none := by rfl) : CallsIn F n P f args w R := by
  refine callsIn_of_wp_marks hf hb hF (wpIn_mono h ?_) hro
  intro e a w h
  cases e with
  | normal => exact h
  | ret => exact h
  | exit id => exact h.elim
  | goto t => exact h.elim
  | panic ch => exact h.elim
  | outgrown => exact h.elim
theorem row_lt_touch {F : Nat → Prop} {X X' : World} {b : Nat} {o : Obj} (h : X'.heap[b]? = some o) (ht : Touch F X X') (hb : b < X.heap.size) : b < X.heap.size := hb
def wyCells (x : Nat × Nat × Nat) : List Value := [.int .i64 (x.1 : Int), .int .i64 (x.2.1 : Int), .int .i64 (x.2.2 : Int)]
theorem equalWy (a b : Nat × Nat × Nat) (w : World) : (Op.equalIn 10000 47 (.agg (wyCells a).toArray) (.agg (wyCells b).toArray)).run Try.prog w = .ok (decide (a = b)) w := by
  obtain ⟨a1, a2, a3⟩ := a
  obtain ⟨b1, b2, b3⟩ := b
  have hS : Try.prog.underlying 47 = some (.struct (Try.prog.fieldsOf 47)) := by kernel_rfl
  have hp : Try.prog.stoodInHeld 47 = false := by kernel_rfl
  rw [show (10000 : Nat) = 9999 + 1 from rfl, run_equalIn_agg w 9999 47 _ _ hS hp]
  simp only [Program.fieldsOf, Try.underlying47, wyCells]
  clear hS hp
  go_simp
  by_cases h1 : a1 = b1
  · by_cases h2 : a2 = b2
    · by_cases h3 : a3 = b3 <;> (simp [h1, h2, h3] <;> omega)
    · simp [h1, h2] <;> omega
  · simp [h1] <;> omega
theorem execNeqW {ev : Operand → Value} {d : Option Nat} {x y : Operand} {t t2 : TypeId} {o3 : String} {o4 : Array Edge} {o5 : Option (Nat × Bool)} {p : Nat × Nat × Nat} (hx : ev x = .agg #[.int .i64 (p.1 : Int), .int .i64 (p.2.1 : Int), .int .i64 (p.2.2 : Int)]) (hy : ev y = .agg #[.int .i64 (p.1 : Int), .int .i64 (p.2.1 : Int), .int .i64 (p.2.2 : Int)]) (w : World) : (execOp ev ⟨d, .binOp .neq 47 x y t2, t, o3, o4, o5⟩).run Try.prog w = .ok (.value (.bool false)) w := by
  have h1 : (eqGuard .neq 47 x y (.agg (wyCells p).toArray) (.agg (wyCells p).toArray)).run Try.prog w = .ok () w := run_eqGuard_agg w .neq 47 x y _ _ (by kernel_rfl)
  have h2 : (binOp .neq 47 (.agg (wyCells p).toArray) (.agg (wyCells p).toArray)).run Try.prog w = .ok (.bool false) w := by
    rw [run_neq_struct, equalWy p p w]
    simp
    try rfl
  unfold execOp
  simp only [wyCells] at h1 h2
  simp only [hx, hy, Sem.run_bind, h1, h2, Result.andThen_ok]
  rfl
theorem OwnV.keep {b : Nat} {w w' : World} {v : Value} {D : List (Nat × Nat × Nat)} (h : OwnV b w v D) (hk : ∀ k, v.ownBlock = some k → w'.heap[k]? = w.heap[k]?) : OwnV b w' v D := ownsRow_keep h hk
theorem OwnV.waysIn {b : Nat} {w : World} {a : Option Addr} {c : Nat} {D : List (Nat × Nat × Nat)} {S : Nat → Prop} (h : OwnV b w (.slice a D.length c) D) (hS : ∀ k, (Value.slice a D.length c).ownBlock = some k → S k) : WaysIn S w a D := by
  have h0 := h
  rcases h.2 with ⟨e, hn⟩ | ⟨g, cap, cur, e, hg, hc, hcap, rest⟩
  · exact .inl (List.eq_nil_of_length_eq_zero hn)
  · injection e with e1 _ e3
    subst e1 e3
    refine .inr ⟨g, rfl, hS g rfl, fun i hi => ?_⟩
    have hf := flatW_get D i hi
    exact ⟨(World.ownsRow.cellAt h0 (i * 3) (by omega)).trans hf.1, (World.ownsRow.cellAt h0 (i * 3 + 1) (by omega)).trans hf.2.1, (World.ownsRow.cellAt h0 (i * 3 + 2) (by omega)).trans hf.2.2⟩
/-- What stands until the end: the boxes of stop, of the result, of the list that is wanted, of the iterator; both lists. -/
structure AskF (w : World) (b3 b4 b9 B1 : Nat) (stop : Int) (D : List (Nat × Nat × Nat)) (wv ev : Value) (U : World) : Prop where
  b3 : BxC b3 [.int .i64 stop] 3 U
  b4 : BxC b4 [.bool false] 4 U
  b9 : BxC b9 [wv] 44 U
  e1 : BxC B1 [ev] 44 U
  w2 : OwnV 0 U wv D
  e2 : OwnV 0 U ev D
  bel : Below w.heap.size w U
/-- Their blocks are of S. -/
structure AskIn (b3 b4 b9 B1 : Nat) (wv ev : Value) (S : Nat → Prop) : Prop where
  b3 : S b3
  b4 : S b4
  b9 : S b9
  e1 : S B1
  w2 : ∀ k, wv.ownBlock = some k → S k
  e2 : ∀ k, ev.ownBlock = some k → S k
/-- A box that counts; S lies as it lay. -/
structure AkS (w W0 : World) (S : Nat → Prop) (bn n : Nat) (U : World) : Prop where
  box : BxC bn [.int .i64 (n : Int)] 3 U
  kp : KeepsS S W0 U
  kl : ∀ k, S k → k < W0.heap.size
  nb : ¬ S bn
  b1 : w.heap.size ≤ bn
  b2 : bn < W0.heap.size
  bel : Below w.heap.size w U
section
variable {w W0 U U' : World} {b3 b4 b9 B1 bn n : Nat} {stop : Int} {D : List (Nat × Nat × Nat)} {wv ev : Value} {S : Nat → Prop}
theorem AskF.below (h : AskF w b3 b4 b9 B1 stop D wv ev U) (hb : Below U.heap.size U U') : AskF w b3 b4 b9 B1 stop D wv ev U' := ⟨h.b3.below hb, h.b4.below hb, h.b9.below hb, h.e1.below hb, h.w2.below hb, h.e2.below hb, h.bel.trans (hb.mono h.bel.size)⟩
theorem AskF.inn (h : AskF w b3 b4 b9 B1 stop D wv ev U) (hS : ∀ k, k < U.heap.size → S k) : AskIn b3 b4 b9 B1 wv ev S := ⟨hS _ h.b3.lt, hS _ h.b4.lt, hS _ h.b9.lt, hS _ h.e1.lt, fun k e => hS k (World.ownsRow.lt h.w2 k e).2, fun k e => hS k (World.ownsRow.lt h.e2 k e).2⟩
theorem AskF.keep (h : AskF w b3 b4 b9 B1 stop D wv ev U) (hk : KeepsS S U U') (hS : AskIn b3 b4 b9 B1 wv ev S) (hb : Below w.heap.size w U') : AskF w b3 b4 b9 B1 stop D wv ev U' :=
  ⟨h.b3.keep (hk.2 _ hS.b3), h.b4.keep (hk.2 _ hS.b4), h.b9.keep (hk.2 _ hS.b9), h.e1.keep (hk.2 _ hS.e1), h.w2.keep fun k e => hk.2 k (hS.w2 k e), h.e2.keep fun k e => hk.2 k (hS.e2 k e), hb⟩
theorem AskF.row (h : AskF w b3 b4 b9 B1 stop D wv ev U) (hS : AskIn b3 b4 b9 B1 wv ev S) (hl : D.length ≤ 4096) {k : Nat} (hk : k < D.length) : ∃ b c, wv = .slice (some ⟨b, 0, none⟩) D.length c ∧ ∀ X, KeepsS S U X → X.cell? ⟨b, k * 3, none⟩ = some (.int .i64 (D[k].1 : Int)) ∧ X.cell? ⟨b, k * 3 + 1, none⟩ = some (.int .i64 (D[k].2.1 : Int)) ∧ X.cell? ⟨b, k * 3 + 2, none⟩ = some (.int .i64 (D[k].2.2 : Int)) := by
  obtain ⟨a, c, e⟩ := h.w2.form
  have h2 := h.w2
  have h3 := hS.w2
  rw [e] at h2 h3
  obtain ⟨b, rfl, hSb, hr⟩ := (h2.waysIn h3).resolve_left (by intro e; subst e; simp at hk)
  exact ⟨b, c, e, fun X hX => ⟨(hX.cell (p := ⟨b, _, none⟩) hSb).trans (hr k hk).1, (hX.cell (p := ⟨b, _, none⟩) hSb).trans (hr k hk).2.1, (hX.cell (p := ⟨b, _, none⟩) hSb).trans (hr k hk).2.2⟩⟩
theorem AkS.size (h : AkS w W0 S bn n U) : W0.heap.size ≤ U.heap.size := h.kp.1
theorem AkS.below (h : AkS w W0 S bn n U) (hb : Below U.heap.size U U') : AkS w W0 S bn n U' := ⟨h.box.below hb, h.kp.trans (KeepsS.of_below hb fun k hk => Nat.lt_of_lt_of_le (h.kl k hk) h.kp.1), h.kl, h.nb, h.b1, h.b2, h.bel.trans (hb.mono h.bel.size)⟩
theorem AkS.grown (h : AkS w W0 S bn n U) {row : Option Nat} (hg : U.grownBy U' row) (hr : ∀ r, row = some r → W0.heap.size ≤ r ∧ ∃ o : Obj, U.heap[r]? = some o ∧ o.isCells = false) : AkS w W0 S bn n U' := by
  have hr2 : ∀ r, row = some r → ∃ o : Obj, U.heap[r]? = some o ∧ o.isCells = false := fun r e => (hr r e).2
  have h1 := h.b1
  have h2 := h.b2
  exact ⟨row_own h.box hg hr2, h.kp.trans ⟨hg.size, fun k hk => hg.block k (Nat.lt_of_lt_of_le (h.kl k hk) h.size) (fun e => by have := (hr k e.symm).1; have := h.kl k hk; omega)⟩, h.kl, h.nb, h.b1, h.b2, h.bel.grown hg h.bel.size (fun j e => by have := (hr j e).1; omega)⟩
theorem AkS.set (h : AkS w W0 S bn n U) (m : Nat) : AkS w W0 S bn m (U.setCell ⟨bn, 0, none⟩ (.int .i64 (m : Int))) ∧ KeepsS S U (U.setCell ⟨bn, 0, none⟩ (.int .i64 (m : Int))) := by
  have hk : KeepsS S U (U.setCell ⟨bn, 0, none⟩ (.int .i64 (m : Int))) := ⟨by simp [World.setCell], fun k hk => RowKit.Below.heap_setCell _ _ _ _ (fun e => h.nb (by rw [← show k = bn from e]; exact hk))⟩
  refine ⟨⟨?_, h.kp.trans hk, h.kl, h.nb, h.b1, h.b2, h.bel.setCell (p := ⟨bn, 0, none⟩) h.b1 _⟩, hk⟩
  have := heap_setCell_same U bn 0 _ _ (.int .i64 (m : Int)) h.box
  simpa [BxC] using this
end
theorem eql_nilFunc (B1 : Nat) (w : World) : (binOp .eql 42 (.func (.func 40) #[] #[.pointer (some ⟨B1, 0, none⟩)]) .nilFunc).run Try.prog w = .ok (.bool false) w := by kernel_rfl
theorem results_boolCell {fn : Func} (hr : fn.results = #[.cell 4 4]) (tmps : Array Value) (R : Nat) (w : World) (b : Bool) (hp : tmps.getD 4 undef = .pointer (some ⟨R, 0, none⟩)) (hc : w.cell? ⟨R, 0, none⟩ = some (.bool b)) : (results fn tmps).run Try.prog w = .ok (.bool b) w := by
  have hp' : tmps[4]?.getD undef = .pointer (some ⟨R, 0, none⟩) := by simpa using hp
  simp [results, hr, hp', asAddr, loadVar, isAgg, run_underlying Try.underlying4, load, go_sem]
  simp [Sem.run, hc]
theorem two_marks {w Wz : World} {b6 Dd De : Nat} (hb : BxC b6 [.bool false] 4 Wz) (bel : Below w.heap.size w Wz) (h1 : Wz.heap[Dd]? = some (.deferred (some []))) (h2 : Wz.heap[De]? = some (.deferred (some []))) (hne : Dd < De) (l1 : w.heap.size ≤ b6) (l2 : w.heap.size ≤ Dd) :
    (Wz.setCell ⟨b6, 0, none⟩ (.bool true)).heap[De]? = some (.deferred (some [])) ∧ ((Wz.setCell ⟨b6, 0, none⟩ (.bool true)).putObj De (.deferred none)).heap[Dd]? = some (.deferred (some [])) ∧ (((Wz.setCell ⟨b6, 0, none⟩ (.bool true)).putObj De (.deferred none)).putObj Dd (.deferred none)).cell? ⟨b6, 0, none⟩ = some (.bool true) ∧ Below w.heap.size w (((Wz.setCell ⟨b6, 0, none⟩ (.bool true)).putObj De (.deferred none)).putObj Dd (.deferred none)) := by
  have n1 : Dd ≠ b6 := fun e => by rw [e, hb] at h1; cases h1
  have n2 : De ≠ b6 := fun e => by rw [e, hb] at h2; cases h2
  have k1 : (Wz.setCell ⟨b6, 0, none⟩ (.bool true)).heap[De]? = some (.deferred (some [])) := (Below.heap_setCell _ _ _ _ (by show De ≠ b6; exact n2)).trans h2
  have k1' : (Wz.setCell ⟨b6, 0, none⟩ (.bool true)).heap[Dd]? = some (.deferred (some [])) := (Below.heap_setCell _ _ _ _ (by show Dd ≠ b6; exact n1)).trans h1
  have k2 : ((Wz.setCell ⟨b6, 0, none⟩ (.bool true)).putObj De (.deferred none)).heap[Dd]? = some (.deferred (some [])) := ((grownBy_putObj' _ De _).block Dd (row_lt k1') (fun e => by have := Option.some.inj e; omega)).trans k1'
  have b1 : (Wz.setCell ⟨b6, 0, none⟩ (.bool true)).heap[b6]? = some (.cells #[.bool true] 4) := by
    have := heap_setCell_same Wz b6 0 _ _ (.bool true) hb
    simpa using this
  have b2 := row_own b1 (grownBy_putObj' (Wz.setCell ⟨b6, 0, none⟩ (.bool true)) De (.deferred none)) (fun r e => by cases e; exact ⟨_, k1, rfl⟩)
  have b3 := row_own b2 (grownBy_putObj' ((Wz.setCell ⟨b6, 0, none⟩ (.bool true)).putObj De (.deferred none)) Dd (.deferred none)) (fun r e => by cases e; exact ⟨_, k2, rfl⟩)
  have bel7 : Below w.heap.size w (Wz.setCell ⟨b6, 0, none⟩ (.bool true)) := bel.setCell (p := ⟨b6, 0, none⟩) (by show w.heap.size ≤ b6; omega) _
  have bel8 := bel7.trans (belowK_b (w := w) (Nat.le_refl _) _ De _ (.deferred none) (by omega) k1 rfl rfl)
  have bel9 := bel8.trans (belowK_b (w := w) (Nat.le_refl _) _ Dd _ (.deferred none) (by omega) k2 rfl rfl)
  exact ⟨k1, k2, BxC.cell (cs := [.bool true]) (T := 4) b3 0 _ rfl, bel9⟩

set_option maxRecDepth 100000 in
set_option maxHeartbeats 16000000 in
theorem bagsWays_in (n0 : Nat) (hn : 9 ≤ n0) (v : Value) (l : List Ac) (stop : Int) (w : World) (h : IsA w v l) :
    CallsIn Fence.wide n0 Try.prog 4 #[v, .int .i64 stop] w fun e w' => e = .returned (.bool true) ∧ Below w.heap.size w w' := by
  have hro : Fence.wide.round = none := rfl
  have h1n : 1 ≤ n0 := by omega
  obtain ⟨al, cl, el, _⟩ := id h
  subst el
  obtain ⟨w0, eW⟩ : ∃ X, X = (w.alloc (.cells [.int .i64 stop].toArray 3)).alloc (.cells [.bool false].toArray 4) := ⟨_, rfl⟩
  have hn3 : BxC w.heap.size [.int .i64 stop] 3 w0 ∧ BxC (w.heap.size + 1) [.bool false] 4 w0 := by rw [eW]; exact BxC.new2 w _ _ _ _
  have hb0 : Below w.heap.size w w0 := by rw [eW]; exact ((Below.refl _ _).alloc (Nat.le_refl _) _).alloc (by simp) _
  have HBx : Hid (BxC w.heap.size [.int .i64 stop] 3 w0 ∧ BxC (w.heap.size + 1) [.bool false] 4 w0) := hn3
  have HB0 : Hid (Below w.heap.size w w0) := hb0
  have HIs : Hid (IsA w0 (.slice al l.length cl) l) := h.below hb0
  have HE : Hid (w0 = (w.alloc (.cells [.int .i64 stop].toArray 3)).alloc (.cells [.bool false].toArray 4)) := eW
  clear h hb0 hn3 eW
  refine callsIn_of_wp_marksN Try.func4 rfl trivial ?_ hro
  refine wpIn_wide.2 ?_
  simp only [Try.ntmps4, List.size_toArray, List.length_cons, List.length_nil, Nat.reduceAdd, Nat.reduceSub, Array.replicate_succ, Array.replicate_zero, List.push_toArray, List.append_toArray, List.nil_append, List.cons_append]
  go_wp2_with fail
  have HE2 := HE.out
  rw [← HE2]
  clear HE2 HE
  refine (new_any 4 _).mono ?_
  rintro e w1 ⟨hnp, hb1⟩
  obtain ⟨k, hk3, _, _, nb, F0, rfl, hN, hF⟩ := hnp.resolve_left (by rintro ⟨h, _⟩; omega)
  obtain rfl : k = 4 := by omega
  obtain ⟨w2, ew2⟩ : ∃ X, X = w1.alloc (.cells #[.int .i64 4, .slice none 0 0] 30) := ⟨_, rfl⟩
  obtain ⟨yb, eyb⟩ : ∃ x, x = w1.heap.size := ⟨_, rfl⟩
  have HS0 : Hid (PyS w0 yb nb 4 F0 (fun _ => False) noB (.slice none 0 0) (.slice none 0 0) [] w2) := (by rw [ew2, eyb]; exact PyS.start hN hF hb1)
  have HE2 := hide9 (And.intro ew2 eyb)
  clear ew2 eyb hN hF hb1 hnp hk3
  go_wp2
  rw [← HE2.out.1, ← HE2.out.2]
  clear HE2
  go_loopw [8] (fun iv wr => ∃ (i : Nat) (F G : Nat → Prop) (B : Nat → List Pc) (v : Value) (L : List Sn), i ≤ l.length ∧ iv = .int .i64 (i : Int) ∧ Hid (PyS w0 yb nb 4 F G B v v L wr) ∧ Hid (L.length ≤ i ∧ i ≤ 200)) (fun iv _ => l.length - (intOf iv).toNat)
  case atStart => exact ⟨0, F0, _, _, _, [], Nat.zero_le _, rfl, HS0, ⟨Nat.le_refl _, by omega⟩⟩
  case round =>
    clear HS0
    obtain ⟨i, F, G, B, v, L, hi, rfl, HS, HLi⟩ := hrel
    obtain ⟨av, cv, ev⟩ := HS.out.doc.isS.form
    subst ev
    have hi2 := HLi.out.2
    have REST : ∀ (Q : Exit → Act → World → Prop) (a : Act), True := fun _ _ => trivial
    clear REST
    by_cases hlt : i < l.length
    · have k1 : (i : Int) < (l.length : Int) := by omega
      by_cases h2 : i < 200
      · have k2 : (i : Int) < 200 := by omega
        have k0 : (0 : Int) ≤ (i : Int) := by omega
        obtain ⟨_, _, e9, _, _, hrow9⟩ := HIs.out
        injection e9 with e91 e92 e93
        subst e91
        obtain ⟨b, o, rfl, hr9⟩ := hrow9.resolve_left (by intro e; rw [e] at hlt; simp at hlt)
        obtain ⟨x, ex⟩ : ∃ x, x = l[i] := ⟨_, rfl⟩
        have hx9 := hr9 i hlt
        rw [← ex] at hx9
        have HbL : Hid (b < w0.heap.size) := hx9.lt
        obtain ⟨xpv, hxc, hxB, hxO⟩ := hx9
        obtain ⟨apx, cpx, epx⟩ := hxB.form
        subst epx
        have HxB : Hid (IsB w0 (.slice apx x.p.length cpx) x.p) := hxB
        have HxO : Hid (AcOk x) := hxO
        have Hxc : Hid (∀ j u, (acCells x (.slice apx x.p.length cpx))[j]? = some u → wr.drew.cell? ⟨b, o + i * 7 + j, none⟩ = some u) := fun j u hj => (HS.out.bel.cell (p := ⟨b, _, none⟩) HbL.out).trans (hxc j u hj)
        have HLl : Hid (L.length ≤ i ∧ i < 200) := ⟨HLi.out.1, h2⟩
        clear hxc hxB hxO hrow9 hr9 ex e92 e93
        go_upto_region 8 with fail
        refine wp_region_held_drew (S := fun W' => W'.heap[yb]? = some (.cells #[.int .i64 ((4 : Nat) : Int), (.slice av L.length cv)] 30) ∧ (∀ j u, (acCells x (.slice apx x.p.length cpx))[j]? = some u → W'.cell? ⟨b, o + i * 7 + j, none⟩ = some u)) (by kernel_rfl) ⟨HS.out.ybx, fun j u hj => Hxc.out j u hj⟩ (fun hHeld => ?_)
        obtain ⟨Uy5u0, eW⟩ : ∃ X, X = wr.drew := ⟨_, rfl⟩
        have hb : Below wr.heap.size wr Uy5u0 := by rw [eW]; exact (Below.refl _ _).drew
        replace HS : Hid (PyS w0 yb nb 4 F G B (.slice av L.length cv) (.slice av L.length cv) L Uy5u0) := HS.out.below hb
        rw [← eW] at hHeld ⊢
        clear eW hb
        refine tkW 0 (some 39) (v := ?_) ?_ hHeld ?_
        rotate_left
        · (intro ww _; go_simp; try with_reducible rfl)
        refine tkW 1 (some 40) (v := ?_) ?_ hHeld ?_
        rotate_left
        · (intro ww hSw; (try dsimp only at hSw); obtain ⟨y_0, y_1, _, _⟩ := row2_cells hSw.1; have x0 : ww.cell? ⟨b, o + i * 7, none⟩ = some (.int .i64 x.kind) := hSw.2 0 _ rfl; have x1 : ww.cell? ⟨b, o + i * 7 + 1, none⟩ = some (.int .i64 x.fr) := hSw.2 1 _ rfl; have x2 : ww.cell? ⟨b, o + i * 7 + 2, none⟩ = some (.int .i64 x.to) := hSw.2 2 _ rfl; have x3 : ww.cell? ⟨b, o + i * 7 + 3, none⟩ = some (.int .i64 x.i) := hSw.2 3 _ rfl; have x4 : ww.cell? ⟨b, o + i * 7 + 4, none⟩ = some (.int .i64 x.at_) := hSw.2 4 _ rfl; have x5 : ww.cell? ⟨b, o + i * 7 + 5, none⟩ = some (.int .i64 x.mask) := hSw.2 5 _ rfl; have x6 : ww.cell? ⟨b, o + i * 7 + 6, none⟩ = some (.slice apx x.p.length cpx) := hSw.2 6 _ rfl; clear hSw; go_simp; try with_reducible rfl)
        refine tkW 2 (some 41) (v := ?_) ?_ hHeld ?_
        rotate_left
        · (intro ww _; go_simp; try with_reducible rfl)
        refine tkW 3 (some 42) (v := ?_) ?_ hHeld ?_
        rotate_left
        · (intro ww _; go_simp; try with_reducible rfl)
        refine tkW 4 (some 43) (v := ?_) ?_ hHeld ?_
        rotate_left
        · (intro ww hSw; (try dsimp only at hSw); obtain ⟨y_0, y_1, _, _⟩ := row2_cells hSw.1; have x0 : ww.cell? ⟨b, o + i * 7, none⟩ = some (.int .i64 x.kind) := hSw.2 0 _ rfl; have x1 : ww.cell? ⟨b, o + i * 7 + 1, none⟩ = some (.int .i64 x.fr) := hSw.2 1 _ rfl; have x2 : ww.cell? ⟨b, o + i * 7 + 2, none⟩ = some (.int .i64 x.to) := hSw.2 2 _ rfl; have x3 : ww.cell? ⟨b, o + i * 7 + 3, none⟩ = some (.int .i64 x.i) := hSw.2 3 _ rfl; have x4 : ww.cell? ⟨b, o + i * 7 + 4, none⟩ = some (.int .i64 x.at_) := hSw.2 4 _ rfl; have x5 : ww.cell? ⟨b, o + i * 7 + 5, none⟩ = some (.int .i64 x.mask) := hSw.2 5 _ rfl; have x6 : ww.cell? ⟨b, o + i * 7 + 6, none⟩ = some (.slice apx x.p.length cpx) := hSw.2 6 _ rfl; clear hSw; go_simp; try with_reducible rfl)
        refine tkW 5 (some 44) (v := ?_) ?_ hHeld ?_
        rotate_left
        · (intro ww hSw; (try dsimp only at hSw); obtain ⟨y_0, y_1, _, _⟩ := row2_cells hSw.1; have x0 : ww.cell? ⟨b, o + i * 7, none⟩ = some (.int .i64 x.kind) := hSw.2 0 _ rfl; have x1 : ww.cell? ⟨b, o + i * 7 + 1, none⟩ = some (.int .i64 x.fr) := hSw.2 1 _ rfl; have x2 : ww.cell? ⟨b, o + i * 7 + 2, none⟩ = some (.int .i64 x.to) := hSw.2 2 _ rfl; have x3 : ww.cell? ⟨b, o + i * 7 + 3, none⟩ = some (.int .i64 x.i) := hSw.2 3 _ rfl; have x4 : ww.cell? ⟨b, o + i * 7 + 4, none⟩ = some (.int .i64 x.at_) := hSw.2 4 _ rfl; have x5 : ww.cell? ⟨b, o + i * 7 + 5, none⟩ = some (.int .i64 x.mask) := hSw.2 5 _ rfl; have x6 : ww.cell? ⟨b, o + i * 7 + 6, none⟩ = some (.slice apx x.p.length cpx) := hSw.2 6 _ rfl; clear hSw; go_simp; try with_reducible rfl)
        refine wpAnyH_ready (rs := [6, 10]) (by kernel_rfl) (by simp) ?_
        refine AllReadyH.cons (o := ⟨some 45, _, _, _, _, _⟩) rfl (fun K hK => ?_) (AllReadyH.cons (o := ⟨some 9, _, _, _, _, _⟩) rfl (fun K hK => ?_) AllReadyH.nil)
        · go_simp
          refine (HS.out.play (by have := HLl.out; omega) x (.slice apx x.p.length cpx) HxB.out HxO.out).mono ?_
          rintro e Uy5u1 ⟨v3, B3, F3, L3, G3, rfl, hpy, hln, hto, hel, hdo, hnf, hng⟩
          (try go_wp2_with fail)
          obtain ⟨av3, cv3, ev3⟩ := hpy.doc.isS.form
          subst ev3
          have hS6 : Uy5u1.heap[yb]? = some (.cells #[.int .i64 ((4 : Nat) : Int), (.slice av L.length cv)] 30) ∧ (∀ j u, (acCells x (.slice apx x.p.length cpx))[j]? = some u → Uy5u1.cell? ⟨b, o + i * 7 + j, none⟩ = some u) := ⟨hpy.ybx, fun j u hj => (World.cell?_of_block (w := Uy5u0) (hto.block b (Nat.lt_of_lt_of_le HbL.out HS.out.bel.size) (fun q => by have h1 := HS.out.fhi b q; have := HbL.out; omega))).trans (hHeld.2 j u hj)⟩
          have HM : Hid (PyS w0 yb nb 4 F3 G3 B3 (.slice av3 L3.length cv3) (.slice av L.length cv) L3 Uy5u1) := hpy
          have HL3 : Hid (L3.length ≤ L.length + 1) := hln
          clear hpy hln hel hdo hnf hng hto HS
          refine hK.out _ _ (hS6) (fun hHeld2 => ?_)
          clear hK K hHeld
          have hHeld := hHeld2
          clear hHeld2
          (try simp only [Act.put, List.setIfInBounds_toArray, List.set_cons_zero, List.set_cons_succ])
          clear hS6
          refine tkW 7 (some 38) (v := ?_) ?_ hHeld ?_
          rotate_left
          · (intro ww _; go_simp; try with_reducible rfl)
          refine tkW 8 (some 46) (v := ?_) ?_ hHeld ?_
          rotate_left
          · (intro ww _; go_simp; try with_reducible rfl)
          refine tkW 9 (some 47) (v := ?_) ?_ hHeld ?_
          rotate_left
          · (intro ww _; go_simp; try with_reducible rfl)
          refine wpAnyH_ready (rs := [10]) (by kernel_rfl) (by simp) ?_
          refine AllReadyH.cons (o := ⟨some 9, _, _, _, _, _⟩) rfl (fun K hK => ?_) AllReadyH.nil
          have HM0 := HM
          have hbx : Below Uy5u1.heap.size Uy5u1 (Uy5u1.alloc (.cells #[.int .i64 0, .slice none 0 0] 30)) := (Below.refl _ _).alloc (Nat.le_refl _) _
          go_simp
          refine hK.out _ _ (⟨(hbx.block _ (row_lt hHeld.1)).trans hHeld.1, fun j u hj => (hbx.cell (p := ⟨b, _, none⟩) (Nat.lt_of_lt_of_le HbL.out HM.out.bel.size)).trans (hHeld.2 j u hj)⟩) (fun hHeld2 => ?_)
          clear hK K hHeld
          have hHeld := hHeld2
          clear hHeld2
          (try simp only [Act.put, List.setIfInBounds_toArray, List.set_cons_zero, List.set_cons_succ])
          obtain ⟨Uy5u2, eW⟩ : ∃ X, X = Uy5u1.alloc (.cells #[.int .i64 0, .slice none 0 0] 30) := ⟨_, rfl⟩
          have hb : Below Uy5u1.heap.size Uy5u1 Uy5u2 := by rw [eW]; exact (Below.refl _ _).alloc (Nat.le_refl _) _
          replace HM : Hid (PyS w0 yb nb 4 F3 G3 B3 (.slice av3 L3.length cv3) (.slice av L.length cv) L3 Uy5u2) := HM.out.below hb
          have HZ : Hid (Uy5u2.heap[Uy5u1.heap.size]? = some (.cells #[.int .i64 0, .slice none 0 0] 30)) := by rw [eW]; exact heap_alloc_new _ _
          rw [← eW] at hHeld ⊢
          clear eW
          clear hbx
          obtain ⟨zb, enb⟩ : ∃ b, b = Uy5u1.heap.size := ⟨_, rfl⟩
          have HZn : Hid (¬ F3 zb ∧ ¬ G3 zb ∧ yb ≠ zb ∧ w0.heap.size ≤ zb) := (by have h1 := HM.out.bel.size; have h2 := row_lt HM0.out.ybx; rw [enb]; exact ⟨fun q => by (have := HM0.out.net.lt _ q; omega), fun q => by (have := HM0.out.doc.1 _ q; omega), by omega, HM0.out.bel.size⟩)
          rw [← enb] at HZ ⊢
          clear enb
          clear HM0
          clear hb
          refine wpAnyH_ready (rs := [11]) (by kernel_rfl) (by simp) ?_
          refine AllReadyH.cons (o := ⟨none, _, _, _, _, _⟩) rfl (fun K hK => ?_) AllReadyH.nil
          obtain ⟨z_0, z_1, z_2, z_3⟩ := row2_cells HZ.out
          go_simp
          refine hK.out _ _ (⟨row_set_other (row_set_other hHeld.1 HZn.out.2.2.1) HZn.out.2.2.1, fun j u hj => (World.cell?_of_block (w := Uy5u2) ((RowKit.Below.heap_setCell _ _ _ _ (by show b ≠ zb; have := HZn.out.2.2.2; have := HbL.out; omega)).trans (RowKit.Below.heap_setCell _ _ _ _ (by show b ≠ zb; have := HZn.out.2.2.2; have := HbL.out; omega)))).trans (hHeld.2 j u hj)⟩) (fun hHeld2 => ?_)
          clear hK K hHeld
          have hHeld := hHeld2
          clear hHeld2
          (try simp only [Act.put, List.setIfInBounds_toArray, List.set_cons_zero, List.set_cons_succ])
          obtain ⟨Uy5u3, eWn⟩ : ∃ X, X = ((Uy5u2.setCell ⟨zb, 0, none⟩ (.int .i64 4)).setCell ⟨zb, 1, none⟩ (.slice av3 L3.length cv3)) := ⟨_, rfl⟩
          rw [← eWn] at hHeld ⊢
          replace HM : Hid (PyS w0 yb nb 4 F3 G3 B3 (.slice av3 L3.length cv3) (.slice av L.length cv) L3 Uy5u3) := (by rw [eWn]; exact HM.out.set2 HZn.out.1 HZn.out.2.1 HZn.out.2.2.1 HZn.out.2.2.2)
          have HZr : Hid (Uy5u3.heap[zb]? = some (.cells #[.int .i64 ((4 : Nat) : Int), (.slice av3 L3.length cv3)] 30)) := (by rw [eWn]; exact row_set2 HZ.out)
          clear z_0 z_1 z_2 z_3 eWn HZ
          refine tkW 12 (some 10) (v := ?_) ?_ hHeld ?_
          rotate_left
          · (intro ww _; go_simp; try with_reducible rfl)
          refine wpAnyH_done (by kernel_rfl) ?_ _
          clear hHeld
          obtain ⟨q_0, q_1, _, _⟩ := row2_cells HZr.out
          obtain ⟨r_0, r_1, r_2, r_3⟩ := row2_cells HM.out.ybx
          have HSn := hide9 HM.out.setY
          have n1 : IntKind.i64.wrap ((i : Int) + 1) = (i : Int) + 1 := by rw [IntKind.wrap_i64]; omega
          go_wp2
          go_roundw
          case rel => exact ⟨i + 1, F3, G3, B3, _, L3, by omega, by go_num, HSn, (show L3.length ≤ i + 1 ∧ i + 1 ≤ 200 by have h1 := HL3.out; have h2 := HLl.out; omega)⟩
          case measure => simp [intOf]; omega
        · have HS0 := HS
          have hbx : Below Uy5u0.heap.size Uy5u0 (Uy5u0.alloc (.cells #[.int .i64 0, .slice none 0 0] 30)) := (Below.refl _ _).alloc (Nat.le_refl _) _
          go_simp
          refine hK.out _ _ (⟨(hbx.block _ (row_lt hHeld.1)).trans hHeld.1, fun j u hj => (hbx.cell (p := ⟨b, _, none⟩) (Nat.lt_of_lt_of_le HbL.out HS.out.bel.size)).trans (hHeld.2 j u hj)⟩) (fun hHeld2 => ?_)
          clear hK K hHeld
          have hHeld := hHeld2
          clear hHeld2
          (try simp only [Act.put, List.setIfInBounds_toArray, List.set_cons_zero, List.set_cons_succ])
          obtain ⟨Uy5u4, eW⟩ : ∃ X, X = Uy5u0.alloc (.cells #[.int .i64 0, .slice none 0 0] 30) := ⟨_, rfl⟩
          have hb : Below Uy5u0.heap.size Uy5u0 Uy5u4 := by rw [eW]; exact (Below.refl _ _).alloc (Nat.le_refl _) _
          replace HS : Hid (PyS w0 yb nb 4 F G B (.slice av L.length cv) (.slice av L.length cv) L Uy5u4) := HS.out.below hb
          have HZ : Hid (Uy5u4.heap[Uy5u0.heap.size]? = some (.cells #[.int .i64 0, .slice none 0 0] 30)) := by rw [eW]; exact heap_alloc_new _ _
          rw [← eW] at hHeld ⊢
          clear eW
          clear hbx
          obtain ⟨zb, enb⟩ : ∃ b, b = Uy5u0.heap.size := ⟨_, rfl⟩
          have HZn : Hid (¬ F zb ∧ ¬ G zb ∧ yb ≠ zb ∧ w0.heap.size ≤ zb) := (by have h1 := HS.out.bel.size; have h2 := row_lt HS0.out.ybx; rw [enb]; exact ⟨fun q => by (have := HS0.out.net.lt _ q; omega), fun q => by (have := HS0.out.doc.1 _ q; omega), by omega, HS0.out.bel.size⟩)
          have HZs : Hid (zb < Uy5u4.heap.size) := (by rw [enb]; exact row_lt HZ.out)
          rw [← enb] at HZ ⊢
          clear enb
          clear HS0
          clear hb
          refine wpAnyH_ready (rs := [6]) (by kernel_rfl) (by simp) ?_
          refine AllReadyH.cons (o := ⟨some 45, _, _, _, _, _⟩) rfl (fun K hK => ?_) AllReadyH.nil
          go_simp
          refine (HS.out.play (by have := HLl.out; omega) x (.slice apx x.p.length cpx) HxB.out HxO.out).mono ?_
          rintro e Uy5u5 ⟨v3, B3, F3, L3, G3, rfl, hpy, hln, hto, hel, hdo, hnf, hng⟩
          (try go_wp2_with fail)
          obtain ⟨av3, cv3, ev3⟩ := hpy.doc.isS.form
          subst ev3
          have hS6 : Uy5u5.heap[yb]? = some (.cells #[.int .i64 ((4 : Nat) : Int), (.slice av L.length cv)] 30) ∧ (∀ j u, (acCells x (.slice apx x.p.length cpx))[j]? = some u → Uy5u5.cell? ⟨b, o + i * 7 + j, none⟩ = some u) := ⟨hpy.ybx, fun j u hj => (World.cell?_of_block (w := Uy5u4) (hto.block b (Nat.lt_of_lt_of_le HbL.out HS.out.bel.size) (fun q => by have h1 := HS.out.fhi b q; have := HbL.out; omega))).trans (hHeld.2 j u hj)⟩
          have HM : Hid (PyS w0 yb nb 4 F3 G3 B3 (.slice av3 L3.length cv3) (.slice av L.length cv) L3 Uy5u5) := hpy
          have HL3 : Hid (L3.length ≤ L.length + 1) := hln
          replace HZ : Hid (Uy5u5.heap[zb]? = some (.cells #[.int .i64 0, .slice none 0 0] 30)) := row_touch HZ.out hto HZn.out.1
          replace HZn : Hid (¬ F3 zb ∧ ¬ G3 zb ∧ yb ≠ zb ∧ w0.heap.size ≤ zb) := ⟨hnf zb (row_lt_touch HZ.out hto HZs.out) HZn.out.1, hng zb (row_lt_touch HZ.out hto HZs.out) HZn.out.2.1, HZn.out.2.2.1, HZn.out.2.2.2⟩
          clear hpy hln hel hdo hnf hng hto HS
          refine hK.out _ _ (hS6) (fun hHeld2 => ?_)
          clear hK K hHeld
          have hHeld := hHeld2
          clear hHeld2
          (try simp only [Act.put, List.setIfInBounds_toArray, List.set_cons_zero, List.set_cons_succ])
          clear hS6
          refine tkW 7 (some 38) (v := ?_) ?_ hHeld ?_
          rotate_left
          · (intro ww _; go_simp; try with_reducible rfl)
          refine tkW 8 (some 46) (v := ?_) ?_ hHeld ?_
          rotate_left
          · (intro ww _; go_simp; try with_reducible rfl)
          refine tkW 9 (some 47) (v := ?_) ?_ hHeld ?_
          rotate_left
          · (intro ww _; go_simp; try with_reducible rfl)
          refine wpAnyH_ready (rs := [11]) (by kernel_rfl) (by simp) ?_
          refine AllReadyH.cons (o := ⟨none, _, _, _, _, _⟩) rfl (fun K hK => ?_) AllReadyH.nil
          obtain ⟨z_0, z_1, z_2, z_3⟩ := row2_cells HZ.out
          go_simp
          refine hK.out _ _ (⟨row_set_other (row_set_other hHeld.1 HZn.out.2.2.1) HZn.out.2.2.1, fun j u hj => (World.cell?_of_block (w := Uy5u5) ((RowKit.Below.heap_setCell _ _ _ _ (by show b ≠ zb; have := HZn.out.2.2.2; have := HbL.out; omega)).trans (RowKit.Below.heap_setCell _ _ _ _ (by show b ≠ zb; have := HZn.out.2.2.2; have := HbL.out; omega)))).trans (hHeld.2 j u hj)⟩) (fun hHeld2 => ?_)
          clear hK K hHeld
          have hHeld := hHeld2
          clear hHeld2
          (try simp only [Act.put, List.setIfInBounds_toArray, List.set_cons_zero, List.set_cons_succ])
          obtain ⟨Uy5u6, eWn⟩ : ∃ X, X = ((Uy5u5.setCell ⟨zb, 0, none⟩ (.int .i64 4)).setCell ⟨zb, 1, none⟩ (.slice av3 L3.length cv3)) := ⟨_, rfl⟩
          rw [← eWn] at hHeld ⊢
          replace HM : Hid (PyS w0 yb nb 4 F3 G3 B3 (.slice av3 L3.length cv3) (.slice av L.length cv) L3 Uy5u6) := (by rw [eWn]; exact HM.out.set2 HZn.out.1 HZn.out.2.1 HZn.out.2.2.1 HZn.out.2.2.2)
          have HZr : Hid (Uy5u6.heap[zb]? = some (.cells #[.int .i64 ((4 : Nat) : Int), (.slice av3 L3.length cv3)] 30)) := (by rw [eWn]; exact row_set2 HZ.out)
          clear z_0 z_1 z_2 z_3 eWn HZ
          refine tkW 12 (some 10) (v := ?_) ?_ hHeld ?_
          rotate_left
          · (intro ww _; go_simp; try with_reducible rfl)
          refine wpAnyH_done (by kernel_rfl) ?_ _
          clear hHeld
          obtain ⟨q_0, q_1, _, _⟩ := row2_cells HZr.out
          obtain ⟨r_0, r_1, r_2, r_3⟩ := row2_cells HM.out.ybx
          have HSn := hide9 HM.out.setY
          have n1 : IntKind.i64.wrap ((i : Int) + 1) = (i : Int) + 1 := by rw [IntKind.wrap_i64]; omega
          go_wp2
          go_roundw
          case rel => exact ⟨i + 1, F3, G3, B3, _, L3, by omega, by go_num, HSn, (show L3.length ≤ i + 1 ∧ i + 1 ≤ 200 by have h1 := HL3.out; have h2 := HLl.out; omega)⟩
          case measure => simp [intOf]; omega
      · have k2 : ¬ (i : Int) < 200 := by omega
        have k3 : decide ((i : Int) < 200) = false := decide_eq_false k2
        obtain ⟨y_0, y_1, _, _⟩ := row2_cells HS.out.ybx
        go_wp2_with fail
        clear y_0 y_1
        refine (ways_any F nb 4 B _ HS.out.net).mono ?_
        rintro e w2 ⟨ue, rfl, hwv, hb⟩
        have HFl : Hid (∀ k, F k → k < wr.heap.size) := fun k q => HS.out.net.lt k q
        obtain ⟨D, eD⟩ : ∃ D, D = wall 4 B 4 := ⟨_, rfl⟩
        rw [← eD] at hwv
        have HD : Hid (wall 4 B 4 = D) := eD.symm
        have HDl : Hid (D.length ≤ 4096) := (by show _ ≤ _; rw [eD]; exact Nat.le_trans (wall_len 4 B 4) (by decide))
        obtain ⟨B1, ae, ce, rfl, hB1, hxe, hoe⟩ := hwv
        have HXe : Hid (BxC B1 [(.slice ae D.length ce)] 44 w2 ∧ OwnV wr.heap.size w2 (.slice ae D.length ce) D ∧ wr.heap.size ≤ B1) := ⟨hxe, hoe, hB1⟩
        replace HS : Hid (PyS w0 yb nb 4 F G B (.slice av L.length cv) (.slice av L.length cv) L w2) := HS.out.below hb
        clear hb hxe hoe hB1 eD
        have kc := conv_lit w2 #[.int .u8 108, .int .u8 97, .int .u8 116, .int .u8 101, .int .u8 114] 5 5 w2.heap.size rfl
        have HI : Hid (IsB (w2.alloc (.cells #[.int .u8 108, .int .u8 97, .int .u8 116, .int .u8 101, .int .u8 114] 5 (5, 6))) (.slice (some ⟨w2.heap.size, 0, none⟩) 5 5) [108, 97, 116, 101, 114]) := IsB.lit w2 [108, 97, 116, 101, 114] #[.int .u8 108, .int .u8 97, .int .u8 116, .int .u8 101, .int .u8 114] (by simp [cellsB]) (by simp) _
        have HB2 : Hid (Below w2.heap.size w2 (w2.alloc (.cells #[.int .u8 108, .int .u8 97, .int .u8 116, .int .u8 101, .int .u8 114] 5 (5, 6)))) := (Below.refl _ _).alloc (Nat.le_refl _) _
        have en := eql_nilFunc
        go_wp2_with fail
        clear kc en
        refine (send_any F nb 4 B 3 2 _ [108, 97, 116, 101, 114] _ (HS.out.net.below HB2.out) HI.out).mono ?_
        rintro e w4 ⟨rfl, hp⟩
        obtain ⟨F2, _, _, _, hto⟩ := hp
        have HS3 : Hid (PyS w0 yb nb 4 F G B (.slice av L.length cv) (.slice av L.length cv) L (w2.alloc (.cells #[.int .u8 108, .int .u8 97, .int .u8 116, .int .u8 101, .int .u8 114] 5 (5, 6)))) := HS.out.below HB2.out
        have hbl := hto.below HS.out.fhi HS3.out.bel.size
        have HB1 : Hid (BxC w.heap.size [.int .i64 stop] 3 w4 ∧ BxC (w.heap.size + 1) [.bool false] 4 w4) := ⟨(HBx.out.1.below HS3.out.bel).touch hto (fun q => by have h1 := HS.out.fhi _ q; have h2 := HBx.out.1.lt; omega), (HBx.out.2.below HS3.out.bel).touch hto (fun q => by have h1 := HS.out.fhi _ q; have h2 := HBx.out.2.lt; omega)⟩
        have HXf : Hid (BxC B1 [(.slice ae D.length ce)] 44 w4 ∧ OwnV 0 w4 (.slice ae D.length ce) D) := ⟨(HXe.out.1.below HB2.out).touch hto (fun q => by have h1 := HFl.out _ q; have h2 := HXe.out.2.2; omega), ((HXe.out.2.1.below HB2.out).keep (fun k e => hto.block k (World.ownsRow.lt (HXe.out.2.1.below HB2.out) k e).2 (fun q => by have h1 := HFl.out _ q; have h2 := (World.ownsRow.lt HXe.out.2.1 k e).1; omega))).le (Nat.zero_le _)⟩
        have HY : Hid (w4.heap[yb]? = some (.cells #[.int .i64 ((4 : Nat) : Int), (.slice av L.length cv)] 30)) := row_touch HS3.out.ybx hto HS.out.nfy
        have HIy : Hid (IsS w4 (.slice av L.length cv) L) := (HS3.out.doc.keep hto.size (fun k q => hto.block k (HS3.out.doc.1 k q) (fun f => HS.out.ap k f q))).isS
        have HBz : Hid (Below w.heap.size w w4) := HB0.out.trans ((HS3.out.bel.trans hbl).mono HB0.out.size)
        have HRl : Hid (Rel 4 B L) := HS.out.rel
        clear hto hbl HS HS3 HI HB2 HFl HXe
        obtain ⟨y_0, y_1, _, _⟩ := row2_cells HY.out
        go_wp2_with fail
        clear y_0 y_1
        refine (refWays_any 4 _ L B _ HIy.out HRl.out (by decide)).mono ?_
        rintro e w5 ⟨wv, rfl, ho6, hb⟩
        rw [HD.out] at ho6
        obtain ⟨aw, cu, ewv⟩ := ho6.form
        subst ewv
        obtain ⟨w10, ew10⟩ : ∃ X, X = w5.alloc (.cells [(.slice aw D.length cu)].toArray 44) := ⟨_, rfl⟩
        have hb2 : Below w5.heap.size w5 w10 := by rw [ew10]; exact (Below.refl _ _).alloc (Nat.le_refl _) _
        have hb3 := hb.trans (hb2.mono hb.size)
        obtain ⟨b9, eb9⟩ : ∃ b, b = w5.heap.size := ⟨_, rfl⟩
        have HX9 : Hid (BxC b9 [(.slice aw D.length cu)] 44 w10) := by rw [ew10, eb9]; exact BxC.new _ _ _
        have HF0 : Hid (AskF w w.heap.size (w.heap.size + 1) b9 B1 stop D (.slice aw D.length cu) (.slice ae D.length ce) w10) := ⟨HB1.out.1.below hb3, HB1.out.2.below hb3, HX9.out, HXf.out.1.below hb3, (ho6.below hb2).le (Nat.zero_le _), HXf.out.2.below hb3, HBz.out.trans (hb3.mono HBz.out.size)⟩
        have hsz9 : w10.heap.size = w5.heap.size + 1 := by rw [ew10]; simp
        have HE9 := hide9 (And.intro ew10 (And.intro eb9 hsz9))
        clear hb hb2 hb3 ho6 ew10 eb9 hsz9 HX9 HB1 HXf HY HIy HRl HD HBz
        obtain ⟨b3, eb3⟩ : ∃ b, b = w.heap.size := ⟨_, rfl⟩
        obtain ⟨b4, eb4⟩ : ∃ b, b = w.heap.size + 1 := ⟨_, rfl⟩
        have HG6 : Hid (w.heap.size ≤ b3 ∧ w.heap.size ≤ b4) := (by refine ⟨?_, ?_⟩ <;> omega)
        have HFq : Hid (AskF w b3 b4 b9 B1 stop D (.slice aw D.length cu) (.slice ae D.length ce) w10) := (by rw [eb3, eb4]; exact HF0.out)
        have HE3 : Hid (b3 = w.heap.size ∧ b4 = w.heap.size + 1) := ⟨eb3, eb4⟩
        clear eb3 eb4 HF0
        have HF0 : Hid (AskF w b3 b4 b9 B1 stop D (.slice aw D.length cu) (.slice ae D.length ce) w10) := HFq
        clear HFq
        obtain ⟨W11, eW11⟩ : ∃ X, X = w10.alloc (.cells [.int .i64 ((0 : Nat) : Int)].toArray 3) := ⟨_, rfl⟩
        have hb : Below w10.heap.size w10 W11 := by rw [eW11]; exact (Below.refl _ _).alloc (Nat.le_refl _) _
        obtain ⟨b10, eb15⟩ : ∃ b, b = w10.heap.size := ⟨_, rfl⟩
        have HX15 : Hid (BxC b10 [.int .i64 ((0 : Nat) : Int)] 3 W11) := by rw [eW11, eb15]; exact BxC.new _ _ _
        have HF1 : Hid (AskF w b3 b4 b9 B1 stop D (.slice aw D.length cu) (.slice ae D.length ce) W11) := HF0.out.below hb
        obtain ⟨S1, eS1⟩ : ∃ S : Nat → Prop, S = fun k => k < W11.heap.size ∧ k ≠ b10 := ⟨_, rfl⟩
        have HSl1 : Hid (∀ k, S1 k → k < W11.heap.size) := fun k hk => by (rw [eS1] at hk; exact hk.1)
        have HSw : Hid (∀ k, k < w10.heap.size → S1 k) := fun k hk => by (rw [eS1]; have := hb.size; exact ⟨by omega, by omega⟩)
        have HSF1 : Hid (AskIn b3 b4 b9 B1 (.slice aw D.length cu) (.slice ae D.length ce) S1) := HF0.out.inn HSw.out
        have HA1 : Hid (AkS w W11 S1 b10 0 W11) := ⟨HX15.out, KeepsS.refl _ _, HSl1.out, fun hk => by (rw [eS1] at hk; exact hk.2 rfl), by rw [eb15]; exact HF0.out.bel.size, HX15.out.lt, HF1.out.bel⟩
        have HSq1 := values_seq (n0 - 1) (by omega) B1 ce S1 ae D W11 HSF1.out.e1 HSl1.out (HF1.out.e1.cell 0 _ rfl) (HF1.out.e2.waysIn HSF1.out.e2) (by have := HDl.out; omega)
        have eW12 : W11 = w10.alloc (.cells #[.int .i64 0] 3) := eW11
        have HE12 : Hid (W11 = w10.alloc (.cells #[.int .i64 0] 3) ∧ b10 = w5.heap.size + 1) := ⟨eW12, by rw [eb15]; exact HE9.out.2.2⟩
        clear hb eS1 eW11 HF0 HX15 HSw eW12 eb15
        go_wp2
        rw [← HE9.out.1, ← HE12.out.1, ← HE12.out.2, ← HE9.out.2.1, ← HE3.out.2, ← HE3.out.1]
        clear HE12 HE3 HE9
        refine (wpIn_wide (n := n0)).1 ?_
        refine range_of (by omega) (gf := 40) (lb := #[.pointer (some ⟨B1, 0, none⟩)]) rfl (enters_of Try.func40 (by kernel_rfl) rfl) HSq1 KeepsS.trans (keepsSK_b HSl1.out) (Below.refl _ _) (fun _ => rfl)
          (fun k W => AkS w W11 S1 b10 k W) (fun c k W => c = .exit 2 ∧ ∃ m, k = m + 1 ∧ (m : Int) = stop ∧ m < D.length ∧ AkS w W11 S1 b10 m W)
          (fun k A B row h1 hg hr => h1.grown hg hr) (fun c k A B row ⟨h1, m, h2, h3, h4, h5⟩ hg hr => ⟨h1, m, h2, h3, h4, h5.grown hg hr⟩) HA1.out
          (fun x a' W => ∃ Bx, W11.heap.size ≤ Bx ∧ BxC Bx (wyCells x) 47 W ∧ ∃ u : Nat → Value, a' = { tmps := #[u 0, u 1, u 2, .pointer (some ⟨b3, 0, none⟩), .pointer (some ⟨b4, 0, none⟩), u 5, u 6, u 7, u 8, u 9, u 10, u 11, .pointer (some ⟨b9, 0, none⟩), .pointer (some ⟨b10, 0, none⟩), .pointer (some ⟨Bx, 0, none⟩), u 15, u 16, u 17, u 18, u 19, u 20, u 21, u 22, u 23, u 24, u 25, u 26, u 27, u 28, u 29, u 30, u 31, u 32, u 33, u 34, u 35, u 36, u 37, u 38, u 39, u 40, u 41, u 42, u 43, u 44, u 45, u 46, u 47, u 48, u 49, u 50, u 51, u 52, u 53, u 54, u 55, u 56, u 57, u 58, u 59, u 60, u 61, u 62, u 63, u 64, u 65, u 66, u 67, u 68, u 69, u 70, u 71, u 72, u 73, u 74, u 75, u 76, u 77, u 78, u 79, u 80, u 81, u 82, u 83, u 84, u 85, u 86, u 87, u 88, u 89, u 90, u 91, u 92, u 93, u 94, u 95, u 96, u 97, u 98, u 99, u 100, u 101, u 102, u 103, u 104, u 105, u 106, u 107, u 108, u 109, u 110, u 111], defers := [] })
          (fun x a' u A B row ⟨Bx, h1, h2, h5⟩ hg hr => ⟨Bx, h1, row_own h2 hg (fun r e => (hr r e).2), h5⟩)
          ?assign1 ?body1 ?done1 ?stop1
        case assign1 =>
          rintro l k hk Wa K hA hK
          obtain ⟨x, hx⟩ : ∃ x, x = D[k] := ⟨_, rfl⟩
          rw [← hx] at hK ⊢
          clear hx
          have hb : Below Wa.heap.size Wa (Wa.alloc (.cells (wyCells x).toArray 47)) := (Below.refl _ _).alloc (Nat.le_refl _) _
          have HFin : Hid (∀ a', (∃ u : Nat → Value, a' = { tmps := #[u 0, u 1, u 2, .pointer (some ⟨b3, 0, none⟩), .pointer (some ⟨b4, 0, none⟩), u 5, u 6, u 7, u 8, u 9, u 10, u 11, .pointer (some ⟨b9, 0, none⟩), .pointer (some ⟨b10, 0, none⟩), .pointer (some ⟨Wa.heap.size, 0, none⟩), u 15, u 16, u 17, u 18, u 19, u 20, u 21, u 22, u 23, u 24, u 25, u 26, u 27, u 28, u 29, u 30, u 31, u 32, u 33, u 34, u 35, u 36, u 37, u 38, u 39, u 40, u 41, u 42, u 43, u 44, u 45, u 46, u 47, u 48, u 49, u 50, u 51, u 52, u 53, u 54, u 55, u 56, u 57, u 58, u 59, u 60, u 61, u 62, u 63, u 64, u 65, u 66, u 67, u 68, u 69, u 70, u 71, u 72, u 73, u 74, u 75, u 76, u 77, u 78, u 79, u 80, u 81, u 82, u 83, u 84, u 85, u 86, u 87, u 88, u 89, u 90, u 91, u 92, u 93, u 94, u 95, u 96, u 97, u 98, u 99, u 100, u 101, u 102, u 103, u 104, u 105, u 106, u 107, u 108, u 109, u 110, u 111], defers := [] }) → K a' (Wa.alloc (.cells (wyCells x).toArray 47))) := fun a' e5 => hK a' (Wa.alloc (.cells (wyCells x).toArray 47)) (keepsFrom_below hb) (KeepsS.of_below hb (fun j hj => Nat.lt_of_lt_of_le (HSl1.out j hj) hA.size)) (hA.below hb) ⟨Wa.heap.size, hA.size, BxC.new _ _ _, e5⟩
          have HFin2 : Hid (∀ a' : Act, a' = { tmps := #[a'.tmps.getD 0 undef, a'.tmps.getD 1 undef, a'.tmps.getD 2 undef, .pointer (some ⟨b3, 0, none⟩), .pointer (some ⟨b4, 0, none⟩), a'.tmps.getD 5 undef, a'.tmps.getD 6 undef, a'.tmps.getD 7 undef, a'.tmps.getD 8 undef, a'.tmps.getD 9 undef, a'.tmps.getD 10 undef, a'.tmps.getD 11 undef, .pointer (some ⟨b9, 0, none⟩), .pointer (some ⟨b10, 0, none⟩), .pointer (some ⟨Wa.heap.size, 0, none⟩), a'.tmps.getD 15 undef, a'.tmps.getD 16 undef, a'.tmps.getD 17 undef, a'.tmps.getD 18 undef, a'.tmps.getD 19 undef, a'.tmps.getD 20 undef, a'.tmps.getD 21 undef, a'.tmps.getD 22 undef, a'.tmps.getD 23 undef, a'.tmps.getD 24 undef, a'.tmps.getD 25 undef, a'.tmps.getD 26 undef, a'.tmps.getD 27 undef, a'.tmps.getD 28 undef, a'.tmps.getD 29 undef, a'.tmps.getD 30 undef, a'.tmps.getD 31 undef, a'.tmps.getD 32 undef, a'.tmps.getD 33 undef, a'.tmps.getD 34 undef, a'.tmps.getD 35 undef, a'.tmps.getD 36 undef, a'.tmps.getD 37 undef, a'.tmps.getD 38 undef, a'.tmps.getD 39 undef, a'.tmps.getD 40 undef, a'.tmps.getD 41 undef, a'.tmps.getD 42 undef, a'.tmps.getD 43 undef, a'.tmps.getD 44 undef, a'.tmps.getD 45 undef, a'.tmps.getD 46 undef, a'.tmps.getD 47 undef, a'.tmps.getD 48 undef, a'.tmps.getD 49 undef, a'.tmps.getD 50 undef, a'.tmps.getD 51 undef, a'.tmps.getD 52 undef, a'.tmps.getD 53 undef, a'.tmps.getD 54 undef, a'.tmps.getD 55 undef, a'.tmps.getD 56 undef, a'.tmps.getD 57 undef, a'.tmps.getD 58 undef, a'.tmps.getD 59 undef, a'.tmps.getD 60 undef, a'.tmps.getD 61 undef, a'.tmps.getD 62 undef, a'.tmps.getD 63 undef, a'.tmps.getD 64 undef, a'.tmps.getD 65 undef, a'.tmps.getD 66 undef, a'.tmps.getD 67 undef, a'.tmps.getD 68 undef, a'.tmps.getD 69 undef, a'.tmps.getD 70 undef, a'.tmps.getD 71 undef, a'.tmps.getD 72 undef, a'.tmps.getD 73 undef, a'.tmps.getD 74 undef, a'.tmps.getD 75 undef, a'.tmps.getD 76 undef, a'.tmps.getD 77 undef, a'.tmps.getD 78 undef, a'.tmps.getD 79 undef, a'.tmps.getD 80 undef, a'.tmps.getD 81 undef, a'.tmps.getD 82 undef, a'.tmps.getD 83 undef, a'.tmps.getD 84 undef, a'.tmps.getD 85 undef, a'.tmps.getD 86 undef, a'.tmps.getD 87 undef, a'.tmps.getD 88 undef, a'.tmps.getD 89 undef, a'.tmps.getD 90 undef, a'.tmps.getD 91 undef, a'.tmps.getD 92 undef, a'.tmps.getD 93 undef, a'.tmps.getD 94 undef, a'.tmps.getD 95 undef, a'.tmps.getD 96 undef, a'.tmps.getD 97 undef, a'.tmps.getD 98 undef, a'.tmps.getD 99 undef, a'.tmps.getD 100 undef, a'.tmps.getD 101 undef, a'.tmps.getD 102 undef, a'.tmps.getD 103 undef, a'.tmps.getD 104 undef, a'.tmps.getD 105 undef, a'.tmps.getD 106 undef, a'.tmps.getD 107 undef, a'.tmps.getD 108 undef, a'.tmps.getD 109 undef, a'.tmps.getD 110 undef, a'.tmps.getD 111 undef], defers := [] } → K a' (Wa.alloc (.cells (wyCells x).toArray 47))) := fun a' e => HFin.out a' ⟨fun k => a'.tmps.getD k undef, e⟩
          clear hK hb hA HFin
          simp only [encW]
          gi_wp2
          exact HFin2.out _ rfl
        case body1 =>
          rintro l k hk a' Wb hlD hA ⟨Bx, hx1, hx2, u, rfl⟩
          obtain ⟨x, hx⟩ : ∃ x, x = D[k] := ⟨_, rfl⟩
          rw [← hx] at hx2
          have HA : Hid (AkS w W11 S1 b10 k Wb) := hA
          have HFb : Hid (AskF w b3 b4 b9 B1 stop D (.slice aw D.length cu) (.slice ae D.length ce) Wb) := HF1.out.keep hA.kp HSF1.out hA.bel
          obtain ⟨bW, cW, evW, hrow⟩ := HFb.out.row HSF1.out HDl.out hk
          rw [← hx] at hrow
          have HxB : Hid (BxC Bx (wyCells x) 47 Wb) := hx2
          have hDl := HDl.out
          have k1 : (k : Int) < (D.length : Int) := by omega
          have k0 : (0 : Int) ≤ (k : Int) := by omega
          have HW0 : Hid (∀ X, KeepsS S1 Wb X → X.cell? ⟨bW, k * 3, none⟩ = some (.int .i64 (x.1 : Int)) ∧ X.cell? ⟨bW, k * 3 + 1, none⟩ = some (.int .i64 (x.2.1 : Int)) ∧ X.cell? ⟨bW, k * 3 + 2, none⟩ = some (.int .i64 (x.2.2 : Int))) := hrow
          clear hx hA hx2 hrow
          have HKd : Hid (KeepsFrom W11.heap.size Wb Wb.drew ∧ KeepsS S1 Wb Wb.drew) := ⟨keepsFrom_below (Below.refl _ _).drew, KeepsS.of_below (Below.refl _ _).drew (fun j hj => Nat.lt_of_lt_of_le (HSl1.out j hj) HA.out.size)⟩
          have HW13 : Hid (BxC b9 [.slice (some ⟨bW, 0, none⟩) D.length cW] 44 Wb) := (by have h9 := HFb.out.b9; rw [evW] at h9; exact h9)
          clear evW
          have c3 := HFb.out.b3.cell 0 _ rfl
          have cn := HA.out.box.cell 0 _ rfl
          by_cases hst : (k : Int) = stop
          · have q : ((k : Int) == stop) = true := by simp [hst]
            have HSt : Hid ((k : Int) = stop) := hst
            have hkD : k < D.length := hk
            clear hst
            gi_wp2
            exact ⟨KeepsFrom.refl _ _, rfl, k, rfl, HSt.out, hkD, HA.out⟩
          · have q : ((k : Int) == stop) = false := by simpa using hst
            clear hst
            gi_wp2
            clear c3 cn q
            refine region_round_held (S := fun W' => AkS w W11 S1 b10 k W' ∧ KeepsS S1 Wb W' ∧ BxC Bx (wyCells x) 47 W' ∧ BxC b9 [.slice (some ⟨bW, 0, none⟩) D.length cW] 44 W') l (by kernel_rfl) (by kernel_rfl) (lets_then (lets_then (lets_block lets_round))) ⟨HA.out.below (Below.refl _ _).drew, HKd.out.2, HxB.out.below (Below.refl _ _).drew, HW13.out.below (Below.refl _ _).drew⟩ (fun hHeld => ?_)
            obtain ⟨Ur16u0, eW⟩ : ∃ X, X = Wb.drew := ⟨_, rfl⟩
            have hb : Below Wb.heap.size Wb Ur16u0 := by rw [eW]; exact (Below.refl _ _).drew
            have HeD : Hid (Ur16u0 = Wb.drew) := eW
            have HAd : Hid (AkS w W11 S1 b10 k Ur16u0) := (by rw [eW]; exact HA.out.below (Below.refl _ _).drew)
            rw [← eW] at hHeld ⊢
            clear eW hb
            refine tkW 0 (some 64) (v := ?_) ?_ hHeld ?_
            rotate_left
            · (intro ww hSw; (try dsimp only at hSw); have n0 := hSw.1.box.cell 0 _ rfl; go_simp; try with_reducible rfl)
            refine tkW 1 (some 65) (v := ?_) ?_ hHeld ?_
            rotate_left
            · (intro ww hSw; (try dsimp only at hSw); have s0 := hSw.2.2.2.cell 0 _ rfl; go_simp; try with_reducible rfl)
            refine tkW 2 (some 66) (v := ?_) ?_ hHeld ?_
            rotate_left
            · (intro ww hSw; (try dsimp only at hSw); go_simp; try with_reducible rfl)
            refine tkW 3 (some 67) (v := .bool false) ?_ hHeld ?_
            · (intro ww hSw; (try dsimp only at hSw); go_simp; try omega)
            refine tkW 4 (some 68) (v := ?_) ?_ hHeld ?_
            rotate_left
            · (intro ww _; go_simp; try with_reducible rfl)
            refine tkW 5 (some 69) (v := ?_) ?_ hHeld ?_
            rotate_left
            · (intro ww hSw; (try dsimp only at hSw); have v0 := hSw.2.2.1.cell 0 _ rfl; have v1 := hSw.2.2.1.cell 1 _ rfl; have v2 := hSw.2.2.1.cell 2 _ rfl; go_simp; try with_reducible rfl)
            refine tkW 6 (some 70) (v := ?_) ?_ hHeld ?_
            rotate_left
            · (intro ww hSw; (try dsimp only at hSw); have s0 := hSw.2.2.2.cell 0 _ rfl; go_simp; try with_reducible rfl)
            refine tkW 7 (some 71) (v := ?_) ?_ hHeld ?_
            rotate_left
            · (intro ww hSw; (try dsimp only at hSw); have n0 := hSw.1.box.cell 0 _ rfl; go_simp; try with_reducible rfl)
            refine tkW 8 (some 72) (v := ?_) ?_ hHeld ?_
            rotate_left
            · (intro ww hSw; (try dsimp only at hSw); go_simp; try with_reducible rfl)
            refine tkW 9 (some 73) (v := ?_) ?_ hHeld ?_
            rotate_left
            · (intro ww hSw; (try dsimp only at hSw); have y0 := (HW0.out ww hSw.2.1).1; have y1 := (HW0.out ww hSw.2.1).2.1; have y2 := (HW0.out ww hSw.2.1).2.2; go_simp; try with_reducible rfl)
            refine tkW 10 (some 74) (v := .bool false) ?_ hHeld ?_
            · (intro ww hSw; (try dsimp only at hSw); exact execNeqW (p := x) rfl rfl ww)
            refine tkW 11 (some 75) (v := ?_) ?_ hHeld ?_
            rotate_left
            · (intro ww _; go_simp; try with_reducible rfl)
            refine wpAnyH_done (by kernel_rfl) ?_ _
            clear hHeld
            have cn := HAd.out.box.cell 0 _ rfl
            have fn := HAd.out.box.free 0
            have n1 : IntKind.i64.wrap ((k : Int) + 1) = (k : Int) + 1 := by rw [IntKind.wrap_i64]; omega
            gi_wp2
            have hst := HAd.out.set (k + 1)
            exact ⟨HKd.out.1.trans (by rw [← HeD.out]; exact keepsFrom_set _ _ _), HKd.out.2.trans (by rw [← HeD.out]; exact hst.2), hst.1⟩
        case done1 =>
          rintro Dd Wd hDd hA hDf
          obtain ⟨nn, enn⟩ : ∃ n, n = D.length := ⟨_, rfl⟩
          have HNN : Hid (nn ≤ D.length ∧ (nn = D.length ∨ (nn : Int) = stop)) := ⟨by omega, .inl enn⟩
          rw [← enn] at hA
          clear enn
          have HFd : Hid (AskF w b3 b4 b9 B1 stop D (.slice aw D.length cu) (.slice ae D.length ce) Wd) := HF1.out.keep hA.kp HSF1.out hA.bel
          have HDf0 : Hid (Wd.heap[Dd]? = some (.deferred (some []))) := hDf
          have HAd0 : Hid (AkS w W11 S1 b10 nn Wd) := hA
          clear hA hDf
          obtain ⟨W18, eW18⟩ : ∃ X, X = Wd.alloc (.cells [.int .i64 ((0 : Nat) : Int)].toArray 3) := ⟨_, rfl⟩
          have hb : Below Wd.heap.size Wd W18 := by rw [eW18]; exact (Below.refl _ _).alloc (Nat.le_refl _) _
          obtain ⟨b12, eb17⟩ : ∃ b, b = Wd.heap.size := ⟨_, rfl⟩
          have HX17 : Hid (BxC b12 [.int .i64 ((0 : Nat) : Int)] 3 W18) := by rw [eW18, eb17]; exact BxC.new _ _ _
          have HF2 : Hid (AskF w b3 b4 b9 B1 stop D (.slice aw D.length cu) (.slice ae D.length ce) W18) := HFd.out.below hb
          have HN15 : Hid (BxC b10 [.int .i64 (nn : Int)] 3 W18) := HAd0.out.box.below hb
          have HDf : Hid (W18.heap[Dd]? = some (.deferred (some []))) := (hb.block _ (row_lt HDf0.out)).trans HDf0.out
          obtain ⟨S2, eS2⟩ : ∃ S : Nat → Prop, S = fun k => k < W18.heap.size ∧ k ≠ b12 := ⟨_, rfl⟩
          have HSl2 : Hid (∀ k, S2 k → k < W18.heap.size) := fun k hk => by (rw [eS2] at hk; exact hk.1)
          have HSw : Hid (∀ k, k < Wd.heap.size → S2 k) := fun k hk => by (rw [eS2]; have := hb.size; exact ⟨by omega, by omega⟩)
          have HSF2 : Hid (AskIn b3 b4 b9 B1 (.slice aw D.length cu) (.slice ae D.length ce) S2) := HFd.out.inn HSw.out
          have HSD : Hid (S2 Dd) := HSw.out _ (row_lt HDf0.out)
          have HS15 : Hid (S2 b10) := HSw.out _ HAd0.out.box.lt
          have HA2 : Hid (AkS w W18 S2 b12 0 W18) := ⟨HX17.out, KeepsS.refl _ _, HSl2.out, fun hk => by (rw [eS2] at hk; exact hk.2 rfl), by rw [eb17]; exact HFd.out.bel.size, HX17.out.lt, HF2.out.bel⟩
          have HSq2 := values_seq (n0 - 1) (by omega) B1 ce S2 ae D W18 HSF2.out.e1 HSl2.out (HF2.out.e1.cell 0 _ rfl) (HF2.out.e2.waysIn HSF2.out.e2) (by have := HDl.out; omega)
          have eW19 : W18 = Wd.alloc (.cells #[.int .i64 0] 3) := eW18
          have HE19 : Hid (W18 = Wd.alloc (.cells #[.int .i64 0] 3) ∧ b12 = Wd.heap.size) := ⟨eW19, eb17⟩
          have HLo2 : Hid (W11.heap.size ≤ Dd ∧ Wd.heap.size ≤ W18.heap.size ∧ Dd < Wd.heap.size) := ⟨hDd, hb.size, row_lt HDf0.out⟩
          clear hb eS2 eW18 HFd HX17 HSw HAd0 HDf0 eW19 eb17
          gi_wp2
          refine (wpIn_wide (n := n0)).1 ?_
          gi_wp2
          rw [← HE19.out.1, ← HE19.out.2]
          clear HE19
          refine range_of (by omega) (gf := 40) (lb := #[.pointer (some ⟨B1, 0, none⟩)]) rfl (enters_of Try.func40 (by kernel_rfl) rfl) HSq2 KeepsS.trans (keepsSK_b HSl2.out) (Below.refl _ _) (fun _ => rfl)
            (fun k W => AkS w W18 S2 b12 k W) (fun _ _ _ => False)
            (fun k A B row h1 hg hr => h1.grown hg hr) (fun c k A B row hf _ _ => hf) HA2.out
            (fun x a' W => ∃ Bx, W18.heap.size ≤ Bx ∧ BxC Bx (wyCells x) 47 W ∧ ∃ u : Nat → Value, a' = { tmps := #[u 0, u 1, u 2, u 3, .pointer (some ⟨b4, 0, none⟩), u 5, u 6, u 7, u 8, u 9, u 10, u 11, .pointer (some ⟨b9, 0, none⟩), u 13, u 14, .pointer (some ⟨b12, 0, none⟩), .pointer (some ⟨Bx, 0, none⟩), u 17, u 18, u 19, u 20, u 21, u 22, u 23, u 24, u 25, u 26, u 27, u 28, u 29, u 30, u 31, u 32, u 33, u 34, u 35, u 36, u 37, u 38, u 39, u 40, u 41, u 42, u 43, u 44, u 45, u 46, u 47, u 48, u 49, u 50, u 51, u 52, u 53, u 54, u 55, u 56, u 57, u 58, u 59, u 60, u 61, u 62, u 63, u 64, u 65, u 66, u 67, u 68, u 69, u 70, u 71, u 72, u 73, u 74, u 75, u 76, u 77, u 78, u 79, u 80, u 81, u 82, u 83, u 84, u 85, u 86, u 87, u 88, u 89, u 90, u 91, u 92, u 93, u 94, u 95, u 96, u 97, u 98, u 99, u 100, u 101, u 102, u 103, u 104, u 105, u 106, u 107, u 108, u 109, u 110, u 111], defers := [] })
            (fun x a' u A B row ⟨Bx, h1, h2, h5⟩ hg hr => ⟨Bx, h1, row_own h2 hg (fun r e => (hr r e).2), h5⟩)
            ?assign2 ?body2 ?done2 ?stop2
          case assign2 =>
            rintro l k hk Wa K hA hK
            obtain ⟨x, hx⟩ : ∃ x, x = D[k] := ⟨_, rfl⟩
            rw [← hx] at hK ⊢
            clear hx
            have hb : Below Wa.heap.size Wa (Wa.alloc (.cells (wyCells x).toArray 47)) := (Below.refl _ _).alloc (Nat.le_refl _) _
            have HFin : Hid (∀ a', (∃ u : Nat → Value, a' = { tmps := #[u 0, u 1, u 2, u 3, .pointer (some ⟨b4, 0, none⟩), u 5, u 6, u 7, u 8, u 9, u 10, u 11, .pointer (some ⟨b9, 0, none⟩), u 13, u 14, .pointer (some ⟨b12, 0, none⟩), .pointer (some ⟨Wa.heap.size, 0, none⟩), u 17, u 18, u 19, u 20, u 21, u 22, u 23, u 24, u 25, u 26, u 27, u 28, u 29, u 30, u 31, u 32, u 33, u 34, u 35, u 36, u 37, u 38, u 39, u 40, u 41, u 42, u 43, u 44, u 45, u 46, u 47, u 48, u 49, u 50, u 51, u 52, u 53, u 54, u 55, u 56, u 57, u 58, u 59, u 60, u 61, u 62, u 63, u 64, u 65, u 66, u 67, u 68, u 69, u 70, u 71, u 72, u 73, u 74, u 75, u 76, u 77, u 78, u 79, u 80, u 81, u 82, u 83, u 84, u 85, u 86, u 87, u 88, u 89, u 90, u 91, u 92, u 93, u 94, u 95, u 96, u 97, u 98, u 99, u 100, u 101, u 102, u 103, u 104, u 105, u 106, u 107, u 108, u 109, u 110, u 111], defers := [] }) → K a' (Wa.alloc (.cells (wyCells x).toArray 47))) := fun a' e5 => hK a' (Wa.alloc (.cells (wyCells x).toArray 47)) (keepsFrom_below hb) (KeepsS.of_below hb (fun j hj => Nat.lt_of_lt_of_le (HSl2.out j hj) hA.size)) (hA.below hb) ⟨Wa.heap.size, hA.size, BxC.new _ _ _, e5⟩
            have HFin2 : Hid (∀ a' : Act, a' = { tmps := #[a'.tmps.getD 0 undef, a'.tmps.getD 1 undef, a'.tmps.getD 2 undef, a'.tmps.getD 3 undef, .pointer (some ⟨b4, 0, none⟩), a'.tmps.getD 5 undef, a'.tmps.getD 6 undef, a'.tmps.getD 7 undef, a'.tmps.getD 8 undef, a'.tmps.getD 9 undef, a'.tmps.getD 10 undef, a'.tmps.getD 11 undef, .pointer (some ⟨b9, 0, none⟩), a'.tmps.getD 13 undef, a'.tmps.getD 14 undef, .pointer (some ⟨b12, 0, none⟩), .pointer (some ⟨Wa.heap.size, 0, none⟩), a'.tmps.getD 17 undef, a'.tmps.getD 18 undef, a'.tmps.getD 19 undef, a'.tmps.getD 20 undef, a'.tmps.getD 21 undef, a'.tmps.getD 22 undef, a'.tmps.getD 23 undef, a'.tmps.getD 24 undef, a'.tmps.getD 25 undef, a'.tmps.getD 26 undef, a'.tmps.getD 27 undef, a'.tmps.getD 28 undef, a'.tmps.getD 29 undef, a'.tmps.getD 30 undef, a'.tmps.getD 31 undef, a'.tmps.getD 32 undef, a'.tmps.getD 33 undef, a'.tmps.getD 34 undef, a'.tmps.getD 35 undef, a'.tmps.getD 36 undef, a'.tmps.getD 37 undef, a'.tmps.getD 38 undef, a'.tmps.getD 39 undef, a'.tmps.getD 40 undef, a'.tmps.getD 41 undef, a'.tmps.getD 42 undef, a'.tmps.getD 43 undef, a'.tmps.getD 44 undef, a'.tmps.getD 45 undef, a'.tmps.getD 46 undef, a'.tmps.getD 47 undef, a'.tmps.getD 48 undef, a'.tmps.getD 49 undef, a'.tmps.getD 50 undef, a'.tmps.getD 51 undef, a'.tmps.getD 52 undef, a'.tmps.getD 53 undef, a'.tmps.getD 54 undef, a'.tmps.getD 55 undef, a'.tmps.getD 56 undef, a'.tmps.getD 57 undef, a'.tmps.getD 58 undef, a'.tmps.getD 59 undef, a'.tmps.getD 60 undef, a'.tmps.getD 61 undef, a'.tmps.getD 62 undef, a'.tmps.getD 63 undef, a'.tmps.getD 64 undef, a'.tmps.getD 65 undef, a'.tmps.getD 66 undef, a'.tmps.getD 67 undef, a'.tmps.getD 68 undef, a'.tmps.getD 69 undef, a'.tmps.getD 70 undef, a'.tmps.getD 71 undef, a'.tmps.getD 72 undef, a'.tmps.getD 73 undef, a'.tmps.getD 74 undef, a'.tmps.getD 75 undef, a'.tmps.getD 76 undef, a'.tmps.getD 77 undef, a'.tmps.getD 78 undef, a'.tmps.getD 79 undef, a'.tmps.getD 80 undef, a'.tmps.getD 81 undef, a'.tmps.getD 82 undef, a'.tmps.getD 83 undef, a'.tmps.getD 84 undef, a'.tmps.getD 85 undef, a'.tmps.getD 86 undef, a'.tmps.getD 87 undef, a'.tmps.getD 88 undef, a'.tmps.getD 89 undef, a'.tmps.getD 90 undef, a'.tmps.getD 91 undef, a'.tmps.getD 92 undef, a'.tmps.getD 93 undef, a'.tmps.getD 94 undef, a'.tmps.getD 95 undef, a'.tmps.getD 96 undef, a'.tmps.getD 97 undef, a'.tmps.getD 98 undef, a'.tmps.getD 99 undef, a'.tmps.getD 100 undef, a'.tmps.getD 101 undef, a'.tmps.getD 102 undef, a'.tmps.getD 103 undef, a'.tmps.getD 104 undef, a'.tmps.getD 105 undef, a'.tmps.getD 106 undef, a'.tmps.getD 107 undef, a'.tmps.getD 108 undef, a'.tmps.getD 109 undef, a'.tmps.getD 110 undef, a'.tmps.getD 111 undef], defers := [] } → K a' (Wa.alloc (.cells (wyCells x).toArray 47))) := fun a' e => HFin.out a' ⟨fun k => a'.tmps.getD k undef, e⟩
            clear hK hb hA HFin
            simp only [encW]
            gi_wp2
            exact HFin2.out _ rfl
          case body2 =>
            rintro l k hk a' Wb hlD hA ⟨Bx, hx1, hx2, u, rfl⟩
            obtain ⟨x, hx⟩ : ∃ x, x = D[k] := ⟨_, rfl⟩
            rw [← hx] at hx2
            have HA : Hid (AkS w W18 S2 b12 k Wb) := hA
            have HFb : Hid (AskF w b3 b4 b9 B1 stop D (.slice aw D.length cu) (.slice ae D.length ce) Wb) := HF2.out.keep hA.kp HSF2.out hA.bel
            obtain ⟨bW, cW, evW, hrow⟩ := HFb.out.row HSF2.out HDl.out hk
            rw [← hx] at hrow
            have HxB : Hid (BxC Bx (wyCells x) 47 Wb) := hx2
            have hDl := HDl.out
            have k1 : (k : Int) < (D.length : Int) := by omega
            have k0 : (0 : Int) ≤ (k : Int) := by omega
            have HW0 : Hid (∀ X, KeepsS S2 Wb X → X.cell? ⟨bW, k * 3, none⟩ = some (.int .i64 (x.1 : Int)) ∧ X.cell? ⟨bW, k * 3 + 1, none⟩ = some (.int .i64 (x.2.1 : Int)) ∧ X.cell? ⟨bW, k * 3 + 2, none⟩ = some (.int .i64 (x.2.2 : Int))) := hrow
            clear hx hA hx2 hrow
            have HKd : Hid (KeepsFrom W18.heap.size Wb Wb.drew ∧ KeepsS S2 Wb Wb.drew) := ⟨keepsFrom_below (Below.refl _ _).drew, KeepsS.of_below (Below.refl _ _).drew (fun j hj => Nat.lt_of_lt_of_le (HSl2.out j hj) HA.out.size)⟩
            have HW13 : Hid (BxC b9 [.slice (some ⟨bW, 0, none⟩) D.length cW] 44 Wb) := (by have h9 := HFb.out.b9; rw [evW] at h9; exact h9)
            clear evW
            gi_wp2
            refine region_round_held (S := fun W' => AkS w W18 S2 b12 k W' ∧ KeepsS S2 Wb W' ∧ BxC Bx (wyCells x) 47 W' ∧ BxC b9 [.slice (some ⟨bW, 0, none⟩) D.length cW] 44 W') l (by kernel_rfl) (by kernel_rfl) (lets_then (lets_then (lets_block lets_round))) ⟨HA.out.below (Below.refl _ _).drew, HKd.out.2, HxB.out.below (Below.refl _ _).drew, HW13.out.below (Below.refl _ _).drew⟩ (fun hHeld => ?_)
            obtain ⟨Ur27u0, eW⟩ : ∃ X, X = Wb.drew := ⟨_, rfl⟩
            have hb : Below Wb.heap.size Wb Ur27u0 := by rw [eW]; exact (Below.refl _ _).drew
            have HeD : Hid (Ur27u0 = Wb.drew) := eW
            have HAd : Hid (AkS w W18 S2 b12 k Ur27u0) := (by rw [eW]; exact HA.out.below (Below.refl _ _).drew)
            rw [← eW] at hHeld ⊢
            clear eW hb
            refine tkW 0 (some 80) (v := ?_) ?_ hHeld ?_
            rotate_left
            · (intro ww hSw; (try dsimp only at hSw); have n0 := hSw.1.box.cell 0 _ rfl; go_simp; try with_reducible rfl)
            refine tkW 1 (some 81) (v := ?_) ?_ hHeld ?_
            rotate_left
            · (intro ww hSw; (try dsimp only at hSw); have s0 := hSw.2.2.2.cell 0 _ rfl; go_simp; try with_reducible rfl)
            refine tkW 2 (some 82) (v := ?_) ?_ hHeld ?_
            rotate_left
            · (intro ww hSw; (try dsimp only at hSw); go_simp; try with_reducible rfl)
            refine tkW 3 (some 83) (v := .bool false) ?_ hHeld ?_
            · (intro ww hSw; (try dsimp only at hSw); go_simp; try omega)
            refine tkW 4 (some 84) (v := ?_) ?_ hHeld ?_
            rotate_left
            · (intro ww _; go_simp; try with_reducible rfl)
            refine tkW 5 (some 85) (v := ?_) ?_ hHeld ?_
            rotate_left
            · (intro ww hSw; (try dsimp only at hSw); have v0 := hSw.2.2.1.cell 0 _ rfl; have v1 := hSw.2.2.1.cell 1 _ rfl; have v2 := hSw.2.2.1.cell 2 _ rfl; go_simp; try with_reducible rfl)
            refine tkW 6 (some 86) (v := ?_) ?_ hHeld ?_
            rotate_left
            · (intro ww hSw; (try dsimp only at hSw); have s0 := hSw.2.2.2.cell 0 _ rfl; go_simp; try with_reducible rfl)
            refine tkW 7 (some 87) (v := ?_) ?_ hHeld ?_
            rotate_left
            · (intro ww hSw; (try dsimp only at hSw); have n0 := hSw.1.box.cell 0 _ rfl; go_simp; try with_reducible rfl)
            refine tkW 8 (some 88) (v := ?_) ?_ hHeld ?_
            rotate_left
            · (intro ww hSw; (try dsimp only at hSw); go_simp; try with_reducible rfl)
            refine tkW 9 (some 89) (v := ?_) ?_ hHeld ?_
            rotate_left
            · (intro ww hSw; (try dsimp only at hSw); have y0 := (HW0.out ww hSw.2.1).1; have y1 := (HW0.out ww hSw.2.1).2.1; have y2 := (HW0.out ww hSw.2.1).2.2; go_simp; try with_reducible rfl)
            refine tkW 10 (some 90) (v := .bool false) ?_ hHeld ?_
            · (intro ww hSw; (try dsimp only at hSw); exact execNeqW (p := x) rfl rfl ww)
            refine tkW 11 (some 91) (v := ?_) ?_ hHeld ?_
            rotate_left
            · (intro ww _; go_simp; try with_reducible rfl)
            refine wpAnyH_done (by kernel_rfl) ?_ _
            clear hHeld
            have cn := HAd.out.box.cell 0 _ rfl
            have fn := HAd.out.box.free 0
            have n1 : IntKind.i64.wrap ((k : Int) + 1) = (k : Int) + 1 := by rw [IntKind.wrap_i64]; omega
            gi_wp2
            have hst := HAd.out.set (k + 1)
            exact ⟨HKd.out.1.trans (by rw [← HeD.out]; exact keepsFrom_set _ _ _), HKd.out.2.trans (by rw [← HeD.out]; exact hst.2), hst.1⟩
          case done2 =>
            rintro De We hDe hA2 hDf2
            have HFe : Hid (AskF w b3 b4 b9 B1 stop D (.slice aw D.length cu) (.slice ae D.length ce) We) := HF2.out.keep hA2.kp HSF2.out hA2.bel
            have HDe2 : Hid (We.heap[De]? = some (.deferred (some []))) := hDf2
            have HDe1 : Hid (We.heap[Dd]? = some (.deferred (some []))) := (hA2.kp.2 _ HSD.out).trans HDf.out
            have HN15 : Hid (BxC b10 [.int .i64 (nn : Int)] 3 We) := HN15.out.keep (hA2.kp.2 _ HS15.out)
            have HA9 : Hid (AkS w W18 S2 b12 D.length We) := hA2
            have hDl := HDl.out
            have HDe : Hid (W18.heap.size ≤ De) := hDe
            clear hA2 hDf2
            have c12 := HA9.out.box.cell 0 _ rfl
            have cw := HFe.out.b9.cell 0 _ rfl
            have cn := HN15.out.cell 0 _ rfl
            have c3 := HFe.out.b3.cell 0 _ rfl
            by_cases hnn : nn = D.length
            · have q1 : ((nn : Int) == (D.length : Int)) = true := by simp [hnn]
              clear hnn
              gi_wp2_with fail
              clear c12 cw cn c3
              refine ⟨trivial, (callsIn_wide.2 (awake_any _)).mono ?_⟩
              rintro e Wz ⟨rfl, hb⟩
              replace HFe : Hid (AskF w b3 b4 b9 B1 stop D (.slice aw D.length cu) (.slice ae D.length ce) Wz) := HFe.out.below hb
              replace HDe2 : Hid (Wz.heap[De]? = some (.deferred (some []))) := (hb.block _ (row_lt HDe2.out)).trans HDe2.out
              replace HDe1 : Hid (Wz.heap[Dd]? = some (.deferred (some []))) := (hb.block _ (row_lt HDe1.out)).trans HDe1.out
              clear hb
              have c4 := HFe.out.b4.cell 0 _ rfl
              have f4 := HFe.out.b4.free 0
              have HEn := hide9 (two_marks HFe.out.b4 HFe.out.bel HDe1.out HDe2.out (by have := HLo2.out; have := HDe.out; omega) HG6.out.2 (by have := HLo2.out; have := HF1.out.bel.size; omega))
              gi_wp2
              obtain ⟨k1, k2, k3, k4⟩ := HEn.out
              refine ⟨by simp, .inl ⟨_, _, rfl, run_takeDeferred k1, ?_⟩⟩
              refine ⟨by simp, .inl ⟨_, _, rfl, run_takeDeferred k2, ?_⟩⟩
              exact ⟨_, results_boolCell rfl _ _ _ true rfl k3, rfl, k4⟩
            · have q1 : ((nn : Int) == (D.length : Int)) = false := by (simp; omega)
              have q2 : ((nn : Int) == stop) = true := by simpa using HNN.out.2.resolve_left hnn
              clear hnn
              gi_wp2_with fail
              clear c12 cw cn c3
              refine ⟨trivial, (callsIn_wide.2 (awake_any _)).mono ?_⟩
              rintro e Wz ⟨rfl, hb⟩
              replace HFe : Hid (AskF w b3 b4 b9 B1 stop D (.slice aw D.length cu) (.slice ae D.length ce) Wz) := HFe.out.below hb
              replace HDe2 : Hid (Wz.heap[De]? = some (.deferred (some []))) := (hb.block _ (row_lt HDe2.out)).trans HDe2.out
              replace HDe1 : Hid (Wz.heap[Dd]? = some (.deferred (some []))) := (hb.block _ (row_lt HDe1.out)).trans HDe1.out
              clear hb
              have c4 := HFe.out.b4.cell 0 _ rfl
              have f4 := HFe.out.b4.free 0
              have HEn := hide9 (two_marks HFe.out.b4 HFe.out.bel HDe1.out HDe2.out (by have := HLo2.out; have := HDe.out; omega) HG6.out.2 (by have := HLo2.out; have := HF1.out.bel.size; omega))
              gi_wp2
              obtain ⟨k1, k2, k3, k4⟩ := HEn.out
              refine ⟨by simp, .inl ⟨_, _, rfl, run_takeDeferred k1, ?_⟩⟩
              refine ⟨by simp, .inl ⟨_, _, rfl, run_takeDeferred k2, ?_⟩⟩
              exact ⟨_, results_boolCell rfl _ _ _ true rfl k3, rfl, k4⟩
          case stop2 => rintro D c k W hD hk hf; exact hf.elim
        case stop1 =>
          rintro Dd c k Wd hDd hk ⟨rfl, nn, rfl, h3, h4, hA⟩ hDf
          have HNN : Hid (nn ≤ D.length ∧ (nn = D.length ∨ (nn : Int) = stop)) := ⟨by omega, .inr h3⟩
          clear h3 h4 hk
          have HFd : Hid (AskF w b3 b4 b9 B1 stop D (.slice aw D.length cu) (.slice ae D.length ce) Wd) := HF1.out.keep hA.kp HSF1.out hA.bel
          have HDf0 : Hid (Wd.heap[Dd]? = some (.deferred (some []))) := hDf
          have HAd0 : Hid (AkS w W11 S1 b10 nn Wd) := hA
          clear hA hDf
          obtain ⟨W18, eW18⟩ : ∃ X, X = Wd.alloc (.cells [.int .i64 ((0 : Nat) : Int)].toArray 3) := ⟨_, rfl⟩
          have hb : Below Wd.heap.size Wd W18 := by rw [eW18]; exact (Below.refl _ _).alloc (Nat.le_refl _) _
          obtain ⟨b12, eb17⟩ : ∃ b, b = Wd.heap.size := ⟨_, rfl⟩
          have HX17 : Hid (BxC b12 [.int .i64 ((0 : Nat) : Int)] 3 W18) := by rw [eW18, eb17]; exact BxC.new _ _ _
          have HF2 : Hid (AskF w b3 b4 b9 B1 stop D (.slice aw D.length cu) (.slice ae D.length ce) W18) := HFd.out.below hb
          have HN15 : Hid (BxC b10 [.int .i64 (nn : Int)] 3 W18) := HAd0.out.box.below hb
          have HDf : Hid (W18.heap[Dd]? = some (.deferred (some []))) := (hb.block _ (row_lt HDf0.out)).trans HDf0.out
          obtain ⟨S2, eS2⟩ : ∃ S : Nat → Prop, S = fun k => k < W18.heap.size ∧ k ≠ b12 := ⟨_, rfl⟩
          have HSl2 : Hid (∀ k, S2 k → k < W18.heap.size) := fun k hk => by (rw [eS2] at hk; exact hk.1)
          have HSw : Hid (∀ k, k < Wd.heap.size → S2 k) := fun k hk => by (rw [eS2]; have := hb.size; exact ⟨by omega, by omega⟩)
          have HSF2 : Hid (AskIn b3 b4 b9 B1 (.slice aw D.length cu) (.slice ae D.length ce) S2) := HFd.out.inn HSw.out
          have HSD : Hid (S2 Dd) := HSw.out _ (row_lt HDf0.out)
          have HS15 : Hid (S2 b10) := HSw.out _ HAd0.out.box.lt
          have HA2 : Hid (AkS w W18 S2 b12 0 W18) := ⟨HX17.out, KeepsS.refl _ _, HSl2.out, fun hk => by (rw [eS2] at hk; exact hk.2 rfl), by rw [eb17]; exact HFd.out.bel.size, HX17.out.lt, HF2.out.bel⟩
          have HSq2 := values_seq (n0 - 1) (by omega) B1 ce S2 ae D W18 HSF2.out.e1 HSl2.out (HF2.out.e1.cell 0 _ rfl) (HF2.out.e2.waysIn HSF2.out.e2) (by have := HDl.out; omega)
          have eW19 : W18 = Wd.alloc (.cells #[.int .i64 0] 3) := eW18
          have HE19 : Hid (W18 = Wd.alloc (.cells #[.int .i64 0] 3) ∧ b12 = Wd.heap.size) := ⟨eW19, eb17⟩
          have HLo2 : Hid (W11.heap.size ≤ Dd ∧ Wd.heap.size ≤ W18.heap.size ∧ Dd < Wd.heap.size) := ⟨hDd, hb.size, row_lt HDf0.out⟩
          clear hb eS2 eW18 HFd HX17 HSw HAd0 HDf0 eW19 eb17
          gi_wp2
          refine (wpIn_wide (n := n0)).1 ?_
          gi_wp2
          rw [← HE19.out.1, ← HE19.out.2]
          clear HE19
          refine range_of (by omega) (gf := 40) (lb := #[.pointer (some ⟨B1, 0, none⟩)]) rfl (enters_of Try.func40 (by kernel_rfl) rfl) HSq2 KeepsS.trans (keepsSK_b HSl2.out) (Below.refl _ _) (fun _ => rfl)
            (fun k W => AkS w W18 S2 b12 k W) (fun _ _ _ => False)
            (fun k A B row h1 hg hr => h1.grown hg hr) (fun c k A B row hf _ _ => hf) HA2.out
            (fun x a' W => ∃ Bx, W18.heap.size ≤ Bx ∧ BxC Bx (wyCells x) 47 W ∧ ∃ u : Nat → Value, a' = { tmps := #[u 0, u 1, u 2, u 3, .pointer (some ⟨b4, 0, none⟩), u 5, u 6, u 7, u 8, u 9, u 10, u 11, .pointer (some ⟨b9, 0, none⟩), u 13, u 14, .pointer (some ⟨b12, 0, none⟩), .pointer (some ⟨Bx, 0, none⟩), u 17, u 18, u 19, u 20, u 21, u 22, u 23, u 24, u 25, u 26, u 27, u 28, u 29, u 30, u 31, u 32, u 33, u 34, u 35, u 36, u 37, u 38, u 39, u 40, u 41, u 42, u 43, u 44, u 45, u 46, u 47, u 48, u 49, u 50, u 51, u 52, u 53, u 54, u 55, u 56, u 57, u 58, u 59, u 60, u 61, u 62, u 63, u 64, u 65, u 66, u 67, u 68, u 69, u 70, u 71, u 72, u 73, u 74, u 75, u 76, u 77, u 78, u 79, u 80, u 81, u 82, u 83, u 84, u 85, u 86, u 87, u 88, u 89, u 90, u 91, u 92, u 93, u 94, u 95, u 96, u 97, u 98, u 99, u 100, u 101, u 102, u 103, u 104, u 105, u 106, u 107, u 108, u 109, u 110, u 111], defers := [] })
            (fun x a' u A B row ⟨Bx, h1, h2, h5⟩ hg hr => ⟨Bx, h1, row_own h2 hg (fun r e => (hr r e).2), h5⟩)
            ?assign2 ?body2 ?done2 ?stop2
          case assign2 =>
            rintro l k hk Wa K hA hK
            obtain ⟨x, hx⟩ : ∃ x, x = D[k] := ⟨_, rfl⟩
            rw [← hx] at hK ⊢
            clear hx
            have hb : Below Wa.heap.size Wa (Wa.alloc (.cells (wyCells x).toArray 47)) := (Below.refl _ _).alloc (Nat.le_refl _) _
            have HFin : Hid (∀ a', (∃ u : Nat → Value, a' = { tmps := #[u 0, u 1, u 2, u 3, .pointer (some ⟨b4, 0, none⟩), u 5, u 6, u 7, u 8, u 9, u 10, u 11, .pointer (some ⟨b9, 0, none⟩), u 13, u 14, .pointer (some ⟨b12, 0, none⟩), .pointer (some ⟨Wa.heap.size, 0, none⟩), u 17, u 18, u 19, u 20, u 21, u 22, u 23, u 24, u 25, u 26, u 27, u 28, u 29, u 30, u 31, u 32, u 33, u 34, u 35, u 36, u 37, u 38, u 39, u 40, u 41, u 42, u 43, u 44, u 45, u 46, u 47, u 48, u 49, u 50, u 51, u 52, u 53, u 54, u 55, u 56, u 57, u 58, u 59, u 60, u 61, u 62, u 63, u 64, u 65, u 66, u 67, u 68, u 69, u 70, u 71, u 72, u 73, u 74, u 75, u 76, u 77, u 78, u 79, u 80, u 81, u 82, u 83, u 84, u 85, u 86, u 87, u 88, u 89, u 90, u 91, u 92, u 93, u 94, u 95, u 96, u 97, u 98, u 99, u 100, u 101, u 102, u 103, u 104, u 105, u 106, u 107, u 108, u 109, u 110, u 111], defers := [] }) → K a' (Wa.alloc (.cells (wyCells x).toArray 47))) := fun a' e5 => hK a' (Wa.alloc (.cells (wyCells x).toArray 47)) (keepsFrom_below hb) (KeepsS.of_below hb (fun j hj => Nat.lt_of_lt_of_le (HSl2.out j hj) hA.size)) (hA.below hb) ⟨Wa.heap.size, hA.size, BxC.new _ _ _, e5⟩
            have HFin2 : Hid (∀ a' : Act, a' = { tmps := #[a'.tmps.getD 0 undef, a'.tmps.getD 1 undef, a'.tmps.getD 2 undef, a'.tmps.getD 3 undef, .pointer (some ⟨b4, 0, none⟩), a'.tmps.getD 5 undef, a'.tmps.getD 6 undef, a'.tmps.getD 7 undef, a'.tmps.getD 8 undef, a'.tmps.getD 9 undef, a'.tmps.getD 10 undef, a'.tmps.getD 11 undef, .pointer (some ⟨b9, 0, none⟩), a'.tmps.getD 13 undef, a'.tmps.getD 14 undef, .pointer (some ⟨b12, 0, none⟩), .pointer (some ⟨Wa.heap.size, 0, none⟩), a'.tmps.getD 17 undef, a'.tmps.getD 18 undef, a'.tmps.getD 19 undef, a'.tmps.getD 20 undef, a'.tmps.getD 21 undef, a'.tmps.getD 22 undef, a'.tmps.getD 23 undef, a'.tmps.getD 24 undef, a'.tmps.getD 25 undef, a'.tmps.getD 26 undef, a'.tmps.getD 27 undef, a'.tmps.getD 28 undef, a'.tmps.getD 29 undef, a'.tmps.getD 30 undef, a'.tmps.getD 31 undef, a'.tmps.getD 32 undef, a'.tmps.getD 33 undef, a'.tmps.getD 34 undef, a'.tmps.getD 35 undef, a'.tmps.getD 36 undef, a'.tmps.getD 37 undef, a'.tmps.getD 38 undef, a'.tmps.getD 39 undef, a'.tmps.getD 40 undef, a'.tmps.getD 41 undef, a'.tmps.getD 42 undef, a'.tmps.getD 43 undef, a'.tmps.getD 44 undef, a'.tmps.getD 45 undef, a'.tmps.getD 46 undef, a'.tmps.getD 47 undef, a'.tmps.getD 48 undef, a'.tmps.getD 49 undef, a'.tmps.getD 50 undef, a'.tmps.getD 51 undef, a'.tmps.getD 52 undef, a'.tmps.getD 53 undef, a'.tmps.getD 54 undef, a'.tmps.getD 55 undef, a'.tmps.getD 56 undef, a'.tmps.getD 57 undef, a'.tmps.getD 58 undef, a'.tmps.getD 59 undef, a'.tmps.getD 60 undef, a'.tmps.getD 61 undef, a'.tmps.getD 62 undef, a'.tmps.getD 63 undef, a'.tmps.getD 64 undef, a'.tmps.getD 65 undef, a'.tmps.getD 66 undef, a'.tmps.getD 67 undef, a'.tmps.getD 68 undef, a'.tmps.getD 69 undef, a'.tmps.getD 70 undef, a'.tmps.getD 71 undef, a'.tmps.getD 72 undef, a'.tmps.getD 73 undef, a'.tmps.getD 74 undef, a'.tmps.getD 75 undef, a'.tmps.getD 76 undef, a'.tmps.getD 77 undef, a'.tmps.getD 78 undef, a'.tmps.getD 79 undef, a'.tmps.getD 80 undef, a'.tmps.getD 81 undef, a'.tmps.getD 82 undef, a'.tmps.getD 83 undef, a'.tmps.getD 84 undef, a'.tmps.getD 85 undef, a'.tmps.getD 86 undef, a'.tmps.getD 87 undef, a'.tmps.getD 88 undef, a'.tmps.getD 89 undef, a'.tmps.getD 90 undef, a'.tmps.getD 91 undef, a'.tmps.getD 92 undef, a'.tmps.getD 93 undef, a'.tmps.getD 94 undef, a'.tmps.getD 95 undef, a'.tmps.getD 96 undef, a'.tmps.getD 97 undef, a'.tmps.getD 98 undef, a'.tmps.getD 99 undef, a'.tmps.getD 100 undef, a'.tmps.getD 101 undef, a'.tmps.getD 102 undef, a'.tmps.getD 103 undef, a'.tmps.getD 104 undef, a'.tmps.getD 105 undef, a'.tmps.getD 106 undef, a'.tmps.getD 107 undef, a'.tmps.getD 108 undef, a'.tmps.getD 109 undef, a'.tmps.getD 110 undef, a'.tmps.getD 111 undef], defers := [] } → K a' (Wa.alloc (.cells (wyCells x).toArray 47))) := fun a' e => HFin.out a' ⟨fun k => a'.tmps.getD k undef, e⟩
            clear hK hb hA HFin
            simp only [encW]
            gi_wp2
            exact HFin2.out _ rfl
          case body2 =>
            rintro l k hk a' Wb hlD hA ⟨Bx, hx1, hx2, u, rfl⟩
            obtain ⟨x, hx⟩ : ∃ x, x = D[k] := ⟨_, rfl⟩
            rw [← hx] at hx2
            have HA : Hid (AkS w W18 S2 b12 k Wb) := hA
            have HFb : Hid (AskF w b3 b4 b9 B1 stop D (.slice aw D.length cu) (.slice ae D.length ce) Wb) := HF2.out.keep hA.kp HSF2.out hA.bel
            obtain ⟨bW, cW, evW, hrow⟩ := HFb.out.row HSF2.out HDl.out hk
            rw [← hx] at hrow
            have HxB : Hid (BxC Bx (wyCells x) 47 Wb) := hx2
            have hDl := HDl.out
            have k1 : (k : Int) < (D.length : Int) := by omega
            have k0 : (0 : Int) ≤ (k : Int) := by omega
            have HW0 : Hid (∀ X, KeepsS S2 Wb X → X.cell? ⟨bW, k * 3, none⟩ = some (.int .i64 (x.1 : Int)) ∧ X.cell? ⟨bW, k * 3 + 1, none⟩ = some (.int .i64 (x.2.1 : Int)) ∧ X.cell? ⟨bW, k * 3 + 2, none⟩ = some (.int .i64 (x.2.2 : Int))) := hrow
            clear hx hA hx2 hrow
            have HKd : Hid (KeepsFrom W18.heap.size Wb Wb.drew ∧ KeepsS S2 Wb Wb.drew) := ⟨keepsFrom_below (Below.refl _ _).drew, KeepsS.of_below (Below.refl _ _).drew (fun j hj => Nat.lt_of_lt_of_le (HSl2.out j hj) HA.out.size)⟩
            have HW13 : Hid (BxC b9 [.slice (some ⟨bW, 0, none⟩) D.length cW] 44 Wb) := (by have h9 := HFb.out.b9; rw [evW] at h9; exact h9)
            clear evW
            gi_wp2
            refine region_round_held (S := fun W' => AkS w W18 S2 b12 k W' ∧ KeepsS S2 Wb W' ∧ BxC Bx (wyCells x) 47 W' ∧ BxC b9 [.slice (some ⟨bW, 0, none⟩) D.length cW] 44 W') l (by kernel_rfl) (by kernel_rfl) (lets_then (lets_then (lets_block lets_round))) ⟨HA.out.below (Below.refl _ _).drew, HKd.out.2, HxB.out.below (Below.refl _ _).drew, HW13.out.below (Below.refl _ _).drew⟩ (fun hHeld => ?_)
            obtain ⟨Ur28u0, eW⟩ : ∃ X, X = Wb.drew := ⟨_, rfl⟩
            have hb : Below Wb.heap.size Wb Ur28u0 := by rw [eW]; exact (Below.refl _ _).drew
            have HeD : Hid (Ur28u0 = Wb.drew) := eW
            have HAd : Hid (AkS w W18 S2 b12 k Ur28u0) := (by rw [eW]; exact HA.out.below (Below.refl _ _).drew)
            rw [← eW] at hHeld ⊢
            clear eW hb
            refine tkW 0 (some 80) (v := ?_) ?_ hHeld ?_
            rotate_left
            · (intro ww hSw; (try dsimp only at hSw); have n0 := hSw.1.box.cell 0 _ rfl; go_simp; try with_reducible rfl)
            refine tkW 1 (some 81) (v := ?_) ?_ hHeld ?_
            rotate_left
            · (intro ww hSw; (try dsimp only at hSw); have s0 := hSw.2.2.2.cell 0 _ rfl; go_simp; try with_reducible rfl)
            refine tkW 2 (some 82) (v := ?_) ?_ hHeld ?_
            rotate_left
            · (intro ww hSw; (try dsimp only at hSw); go_simp; try with_reducible rfl)
            refine tkW 3 (some 83) (v := .bool false) ?_ hHeld ?_
            · (intro ww hSw; (try dsimp only at hSw); go_simp; try omega)
            refine tkW 4 (some 84) (v := ?_) ?_ hHeld ?_
            rotate_left
            · (intro ww _; go_simp; try with_reducible rfl)
            refine tkW 5 (some 85) (v := ?_) ?_ hHeld ?_
            rotate_left
            · (intro ww hSw; (try dsimp only at hSw); have v0 := hSw.2.2.1.cell 0 _ rfl; have v1 := hSw.2.2.1.cell 1 _ rfl; have v2 := hSw.2.2.1.cell 2 _ rfl; go_simp; try with_reducible rfl)
            refine tkW 6 (some 86) (v := ?_) ?_ hHeld ?_
            rotate_left
            · (intro ww hSw; (try dsimp only at hSw); have s0 := hSw.2.2.2.cell 0 _ rfl; go_simp; try with_reducible rfl)
            refine tkW 7 (some 87) (v := ?_) ?_ hHeld ?_
            rotate_left
            · (intro ww hSw; (try dsimp only at hSw); have n0 := hSw.1.box.cell 0 _ rfl; go_simp; try with_reducible rfl)
            refine tkW 8 (some 88) (v := ?_) ?_ hHeld ?_
            rotate_left
            · (intro ww hSw; (try dsimp only at hSw); go_simp; try with_reducible rfl)
            refine tkW 9 (some 89) (v := ?_) ?_ hHeld ?_
            rotate_left
            · (intro ww hSw; (try dsimp only at hSw); have y0 := (HW0.out ww hSw.2.1).1; have y1 := (HW0.out ww hSw.2.1).2.1; have y2 := (HW0.out ww hSw.2.1).2.2; go_simp; try with_reducible rfl)
            refine tkW 10 (some 90) (v := .bool false) ?_ hHeld ?_
            · (intro ww hSw; (try dsimp only at hSw); exact execNeqW (p := x) rfl rfl ww)
            refine tkW 11 (some 91) (v := ?_) ?_ hHeld ?_
            rotate_left
            · (intro ww _; go_simp; try with_reducible rfl)
            refine wpAnyH_done (by kernel_rfl) ?_ _
            clear hHeld
            have cn := HAd.out.box.cell 0 _ rfl
            have fn := HAd.out.box.free 0
            have n1 : IntKind.i64.wrap ((k : Int) + 1) = (k : Int) + 1 := by rw [IntKind.wrap_i64]; omega
            gi_wp2
            have hst := HAd.out.set (k + 1)
            exact ⟨HKd.out.1.trans (by rw [← HeD.out]; exact keepsFrom_set _ _ _), HKd.out.2.trans (by rw [← HeD.out]; exact hst.2), hst.1⟩
          case done2 =>
            rintro De We hDe hA2 hDf2
            have HFe : Hid (AskF w b3 b4 b9 B1 stop D (.slice aw D.length cu) (.slice ae D.length ce) We) := HF2.out.keep hA2.kp HSF2.out hA2.bel
            have HDe2 : Hid (We.heap[De]? = some (.deferred (some []))) := hDf2
            have HDe1 : Hid (We.heap[Dd]? = some (.deferred (some []))) := (hA2.kp.2 _ HSD.out).trans HDf.out
            have HN15 : Hid (BxC b10 [.int .i64 (nn : Int)] 3 We) := HN15.out.keep (hA2.kp.2 _ HS15.out)
            have HA9 : Hid (AkS w W18 S2 b12 D.length We) := hA2
            have hDl := HDl.out
            have HDe : Hid (W18.heap.size ≤ De) := hDe
            clear hA2 hDf2
            have c12 := HA9.out.box.cell 0 _ rfl
            have cw := HFe.out.b9.cell 0 _ rfl
            have cn := HN15.out.cell 0 _ rfl
            have c3 := HFe.out.b3.cell 0 _ rfl
            by_cases hnn : nn = D.length
            · have q1 : ((nn : Int) == (D.length : Int)) = true := by simp [hnn]
              clear hnn
              gi_wp2_with fail
              clear c12 cw cn c3
              refine ⟨trivial, (callsIn_wide.2 (awake_any _)).mono ?_⟩
              rintro e Wz ⟨rfl, hb⟩
              replace HFe : Hid (AskF w b3 b4 b9 B1 stop D (.slice aw D.length cu) (.slice ae D.length ce) Wz) := HFe.out.below hb
              replace HDe2 : Hid (Wz.heap[De]? = some (.deferred (some []))) := (hb.block _ (row_lt HDe2.out)).trans HDe2.out
              replace HDe1 : Hid (Wz.heap[Dd]? = some (.deferred (some []))) := (hb.block _ (row_lt HDe1.out)).trans HDe1.out
              clear hb
              have c4 := HFe.out.b4.cell 0 _ rfl
              have f4 := HFe.out.b4.free 0
              have HEn := hide9 (two_marks HFe.out.b4 HFe.out.bel HDe1.out HDe2.out (by have := HLo2.out; have := HDe.out; omega) HG6.out.2 (by have := HLo2.out; have := HF1.out.bel.size; omega))
              gi_wp2
              obtain ⟨k1, k2, k3, k4⟩ := HEn.out
              refine ⟨by simp, .inl ⟨_, _, rfl, run_takeDeferred k1, ?_⟩⟩
              refine ⟨by simp, .inl ⟨_, _, rfl, run_takeDeferred k2, ?_⟩⟩
              exact ⟨_, results_boolCell rfl _ _ _ true rfl k3, rfl, k4⟩
            · have q1 : ((nn : Int) == (D.length : Int)) = false := by (simp; omega)
              have q2 : ((nn : Int) == stop) = true := by simpa using HNN.out.2.resolve_left hnn
              clear hnn
              gi_wp2_with fail
              clear c12 cw cn c3
              refine ⟨trivial, (callsIn_wide.2 (awake_any _)).mono ?_⟩
              rintro e Wz ⟨rfl, hb⟩
              replace HFe : Hid (AskF w b3 b4 b9 B1 stop D (.slice aw D.length cu) (.slice ae D.length ce) Wz) := HFe.out.below hb
              replace HDe2 : Hid (Wz.heap[De]? = some (.deferred (some []))) := (hb.block _ (row_lt HDe2.out)).trans HDe2.out
              replace HDe1 : Hid (Wz.heap[Dd]? = some (.deferred (some []))) := (hb.block _ (row_lt HDe1.out)).trans HDe1.out
              clear hb
              have c4 := HFe.out.b4.cell 0 _ rfl
              have f4 := HFe.out.b4.free 0
              have HEn := hide9 (two_marks HFe.out.b4 HFe.out.bel HDe1.out HDe2.out (by have := HLo2.out; have := HDe.out; omega) HG6.out.2 (by have := HLo2.out; have := HF1.out.bel.size; omega))
              gi_wp2
              obtain ⟨k1, k2, k3, k4⟩ := HEn.out
              refine ⟨by simp, .inl ⟨_, _, rfl, run_takeDeferred k1, ?_⟩⟩
              refine ⟨by simp, .inl ⟨_, _, rfl, run_takeDeferred k2, ?_⟩⟩
              exact ⟨_, results_boolCell rfl _ _ _ true rfl k3, rfl, k4⟩
          case stop2 => rintro D c k W hD hk hf; exact hf.elim
    · have k1 : ¬ (i : Int) < (l.length : Int) := by omega
      have k3 : decide ((i : Int) < (l.length : Int)) = false := decide_eq_false k1
      obtain ⟨y_0, y_1, _, _⟩ := row2_cells HS.out.ybx
      go_wp2_with fail
      clear y_0 y_1
      refine (ways_any F nb 4 B _ HS.out.net).mono ?_
      rintro e w2 ⟨ue, rfl, hwv, hb⟩
      have HFl : Hid (∀ k, F k → k < wr.heap.size) := fun k q => HS.out.net.lt k q
      obtain ⟨D, eD⟩ : ∃ D, D = wall 4 B 4 := ⟨_, rfl⟩
      rw [← eD] at hwv
      have HD : Hid (wall 4 B 4 = D) := eD.symm
      have HDl : Hid (D.length ≤ 4096) := (by show _ ≤ _; rw [eD]; exact Nat.le_trans (wall_len 4 B 4) (by decide))
      obtain ⟨B1, ae, ce, rfl, hB1, hxe, hoe⟩ := hwv
      have HXe : Hid (BxC B1 [(.slice ae D.length ce)] 44 w2 ∧ OwnV wr.heap.size w2 (.slice ae D.length ce) D ∧ wr.heap.size ≤ B1) := ⟨hxe, hoe, hB1⟩
      replace HS : Hid (PyS w0 yb nb 4 F G B (.slice av L.length cv) (.slice av L.length cv) L w2) := HS.out.below hb
      clear hb hxe hoe hB1 eD
      have kc := conv_lit w2 #[.int .u8 108, .int .u8 97, .int .u8 116, .int .u8 101, .int .u8 114] 5 5 w2.heap.size rfl
      have HI : Hid (IsB (w2.alloc (.cells #[.int .u8 108, .int .u8 97, .int .u8 116, .int .u8 101, .int .u8 114] 5 (5, 6))) (.slice (some ⟨w2.heap.size, 0, none⟩) 5 5) [108, 97, 116, 101, 114]) := IsB.lit w2 [108, 97, 116, 101, 114] #[.int .u8 108, .int .u8 97, .int .u8 116, .int .u8 101, .int .u8 114] (by simp [cellsB]) (by simp) _
      have HB2 : Hid (Below w2.heap.size w2 (w2.alloc (.cells #[.int .u8 108, .int .u8 97, .int .u8 116, .int .u8 101, .int .u8 114] 5 (5, 6)))) := (Below.refl _ _).alloc (Nat.le_refl _) _
      have en := eql_nilFunc
      go_wp2_with fail
      clear kc en
      refine (send_any F nb 4 B 3 2 _ [108, 97, 116, 101, 114] _ (HS.out.net.below HB2.out) HI.out).mono ?_
      rintro e w4 ⟨rfl, hp⟩
      obtain ⟨F2, _, _, _, hto⟩ := hp
      have HS3 : Hid (PyS w0 yb nb 4 F G B (.slice av L.length cv) (.slice av L.length cv) L (w2.alloc (.cells #[.int .u8 108, .int .u8 97, .int .u8 116, .int .u8 101, .int .u8 114] 5 (5, 6)))) := HS.out.below HB2.out
      have hbl := hto.below HS.out.fhi HS3.out.bel.size
      have HB1 : Hid (BxC w.heap.size [.int .i64 stop] 3 w4 ∧ BxC (w.heap.size + 1) [.bool false] 4 w4) := ⟨(HBx.out.1.below HS3.out.bel).touch hto (fun q => by have h1 := HS.out.fhi _ q; have h2 := HBx.out.1.lt; omega), (HBx.out.2.below HS3.out.bel).touch hto (fun q => by have h1 := HS.out.fhi _ q; have h2 := HBx.out.2.lt; omega)⟩
      have HXf : Hid (BxC B1 [(.slice ae D.length ce)] 44 w4 ∧ OwnV 0 w4 (.slice ae D.length ce) D) := ⟨(HXe.out.1.below HB2.out).touch hto (fun q => by have h1 := HFl.out _ q; have h2 := HXe.out.2.2; omega), ((HXe.out.2.1.below HB2.out).keep (fun k e => hto.block k (World.ownsRow.lt (HXe.out.2.1.below HB2.out) k e).2 (fun q => by have h1 := HFl.out _ q; have h2 := (World.ownsRow.lt HXe.out.2.1 k e).1; omega))).le (Nat.zero_le _)⟩
      have HY : Hid (w4.heap[yb]? = some (.cells #[.int .i64 ((4 : Nat) : Int), (.slice av L.length cv)] 30)) := row_touch HS3.out.ybx hto HS.out.nfy
      have HIy : Hid (IsS w4 (.slice av L.length cv) L) := (HS3.out.doc.keep hto.size (fun k q => hto.block k (HS3.out.doc.1 k q) (fun f => HS.out.ap k f q))).isS
      have HBz : Hid (Below w.heap.size w w4) := HB0.out.trans ((HS3.out.bel.trans hbl).mono HB0.out.size)
      have HRl : Hid (Rel 4 B L) := HS.out.rel
      clear hto hbl HS HS3 HI HB2 HFl HXe
      obtain ⟨y_0, y_1, _, _⟩ := row2_cells HY.out
      go_wp2_with fail
      clear y_0 y_1
      refine (refWays_any 4 _ L B _ HIy.out HRl.out (by decide)).mono ?_
      rintro e w5 ⟨wv, rfl, ho6, hb⟩
      rw [HD.out] at ho6
      obtain ⟨aw, cu, ewv⟩ := ho6.form
      subst ewv
      obtain ⟨w10, ew10⟩ : ∃ X, X = w5.alloc (.cells [(.slice aw D.length cu)].toArray 44) := ⟨_, rfl⟩
      have hb2 : Below w5.heap.size w5 w10 := by rw [ew10]; exact (Below.refl _ _).alloc (Nat.le_refl _) _
      have hb3 := hb.trans (hb2.mono hb.size)
      obtain ⟨b9, eb9⟩ : ∃ b, b = w5.heap.size := ⟨_, rfl⟩
      have HX9 : Hid (BxC b9 [(.slice aw D.length cu)] 44 w10) := by rw [ew10, eb9]; exact BxC.new _ _ _
      have HF0 : Hid (AskF w w.heap.size (w.heap.size + 1) b9 B1 stop D (.slice aw D.length cu) (.slice ae D.length ce) w10) := ⟨HB1.out.1.below hb3, HB1.out.2.below hb3, HX9.out, HXf.out.1.below hb3, (ho6.below hb2).le (Nat.zero_le _), HXf.out.2.below hb3, HBz.out.trans (hb3.mono HBz.out.size)⟩
      have hsz9 : w10.heap.size = w5.heap.size + 1 := by rw [ew10]; simp
      have HE9 := hide9 (And.intro ew10 (And.intro eb9 hsz9))
      clear hb hb2 hb3 ho6 ew10 eb9 hsz9 HX9 HB1 HXf HY HIy HRl HD HBz
      obtain ⟨b3, eb3⟩ : ∃ b, b = w.heap.size := ⟨_, rfl⟩
      obtain ⟨b4, eb4⟩ : ∃ b, b = w.heap.size + 1 := ⟨_, rfl⟩
      have HG6 : Hid (w.heap.size ≤ b3 ∧ w.heap.size ≤ b4) := (by refine ⟨?_, ?_⟩ <;> omega)
      have HFq : Hid (AskF w b3 b4 b9 B1 stop D (.slice aw D.length cu) (.slice ae D.length ce) w10) := (by rw [eb3, eb4]; exact HF0.out)
      have HE3 : Hid (b3 = w.heap.size ∧ b4 = w.heap.size + 1) := ⟨eb3, eb4⟩
      clear eb3 eb4 HF0
      have HF0 : Hid (AskF w b3 b4 b9 B1 stop D (.slice aw D.length cu) (.slice ae D.length ce) w10) := HFq
      clear HFq
      obtain ⟨W11, eW11⟩ : ∃ X, X = w10.alloc (.cells [.int .i64 ((0 : Nat) : Int)].toArray 3) := ⟨_, rfl⟩
      have hb : Below w10.heap.size w10 W11 := by rw [eW11]; exact (Below.refl _ _).alloc (Nat.le_refl _) _
      obtain ⟨b10, eb15⟩ : ∃ b, b = w10.heap.size := ⟨_, rfl⟩
      have HX15 : Hid (BxC b10 [.int .i64 ((0 : Nat) : Int)] 3 W11) := by rw [eW11, eb15]; exact BxC.new _ _ _
      have HF1 : Hid (AskF w b3 b4 b9 B1 stop D (.slice aw D.length cu) (.slice ae D.length ce) W11) := HF0.out.below hb
      obtain ⟨S1, eS1⟩ : ∃ S : Nat → Prop, S = fun k => k < W11.heap.size ∧ k ≠ b10 := ⟨_, rfl⟩
      have HSl1 : Hid (∀ k, S1 k → k < W11.heap.size) := fun k hk => by (rw [eS1] at hk; exact hk.1)
      have HSw : Hid (∀ k, k < w10.heap.size → S1 k) := fun k hk => by (rw [eS1]; have := hb.size; exact ⟨by omega, by omega⟩)
      have HSF1 : Hid (AskIn b3 b4 b9 B1 (.slice aw D.length cu) (.slice ae D.length ce) S1) := HF0.out.inn HSw.out
      have HA1 : Hid (AkS w W11 S1 b10 0 W11) := ⟨HX15.out, KeepsS.refl _ _, HSl1.out, fun hk => by (rw [eS1] at hk; exact hk.2 rfl), by rw [eb15]; exact HF0.out.bel.size, HX15.out.lt, HF1.out.bel⟩
      have HSq1 := values_seq (n0 - 1) (by omega) B1 ce S1 ae D W11 HSF1.out.e1 HSl1.out (HF1.out.e1.cell 0 _ rfl) (HF1.out.e2.waysIn HSF1.out.e2) (by have := HDl.out; omega)
      have eW12 : W11 = w10.alloc (.cells #[.int .i64 0] 3) := eW11
      have HE12 : Hid (W11 = w10.alloc (.cells #[.int .i64 0] 3) ∧ b10 = w5.heap.size + 1) := ⟨eW12, by rw [eb15]; exact HE9.out.2.2⟩
      clear hb eS1 eW11 HF0 HX15 HSw eW12 eb15
      go_wp2
      rw [← HE9.out.1, ← HE12.out.1, ← HE12.out.2, ← HE9.out.2.1, ← HE3.out.2, ← HE3.out.1]
      clear HE12 HE3 HE9
      refine (wpIn_wide (n := n0)).1 ?_
      refine range_of (by omega) (gf := 40) (lb := #[.pointer (some ⟨B1, 0, none⟩)]) rfl (enters_of Try.func40 (by kernel_rfl) rfl) HSq1 KeepsS.trans (keepsSK_b HSl1.out) (Below.refl _ _) (fun _ => rfl)
        (fun k W => AkS w W11 S1 b10 k W) (fun c k W => c = .exit 2 ∧ ∃ m, k = m + 1 ∧ (m : Int) = stop ∧ m < D.length ∧ AkS w W11 S1 b10 m W)
        (fun k A B row h1 hg hr => h1.grown hg hr) (fun c k A B row ⟨h1, m, h2, h3, h4, h5⟩ hg hr => ⟨h1, m, h2, h3, h4, h5.grown hg hr⟩) HA1.out
        (fun x a' W => ∃ Bx, W11.heap.size ≤ Bx ∧ BxC Bx (wyCells x) 47 W ∧ ∃ u : Nat → Value, a' = { tmps := #[u 0, u 1, u 2, .pointer (some ⟨b3, 0, none⟩), .pointer (some ⟨b4, 0, none⟩), u 5, u 6, u 7, u 8, u 9, u 10, u 11, .pointer (some ⟨b9, 0, none⟩), .pointer (some ⟨b10, 0, none⟩), .pointer (some ⟨Bx, 0, none⟩), u 15, u 16, u 17, u 18, u 19, u 20, u 21, u 22, u 23, u 24, u 25, u 26, u 27, u 28, u 29, u 30, u 31, u 32, u 33, u 34, u 35, u 36, u 37, u 38, u 39, u 40, u 41, u 42, u 43, u 44, u 45, u 46, u 47, u 48, u 49, u 50, u 51, u 52, u 53, u 54, u 55, u 56, u 57, u 58, u 59, u 60, u 61, u 62, u 63, u 64, u 65, u 66, u 67, u 68, u 69, u 70, u 71, u 72, u 73, u 74, u 75, u 76, u 77, u 78, u 79, u 80, u 81, u 82, u 83, u 84, u 85, u 86, u 87, u 88, u 89, u 90, u 91, u 92, u 93, u 94, u 95, u 96, u 97, u 98, u 99, u 100, u 101, u 102, u 103, u 104, u 105, u 106, u 107, u 108, u 109, u 110, u 111], defers := [] })
        (fun x a' u A B row ⟨Bx, h1, h2, h5⟩ hg hr => ⟨Bx, h1, row_own h2 hg (fun r e => (hr r e).2), h5⟩)
        ?assign1 ?body1 ?done1 ?stop1
      case assign1 =>
        rintro l k hk Wa K hA hK
        obtain ⟨x, hx⟩ : ∃ x, x = D[k] := ⟨_, rfl⟩
        rw [← hx] at hK ⊢
        clear hx
        have hb : Below Wa.heap.size Wa (Wa.alloc (.cells (wyCells x).toArray 47)) := (Below.refl _ _).alloc (Nat.le_refl _) _
        have HFin : Hid (∀ a', (∃ u : Nat → Value, a' = { tmps := #[u 0, u 1, u 2, .pointer (some ⟨b3, 0, none⟩), .pointer (some ⟨b4, 0, none⟩), u 5, u 6, u 7, u 8, u 9, u 10, u 11, .pointer (some ⟨b9, 0, none⟩), .pointer (some ⟨b10, 0, none⟩), .pointer (some ⟨Wa.heap.size, 0, none⟩), u 15, u 16, u 17, u 18, u 19, u 20, u 21, u 22, u 23, u 24, u 25, u 26, u 27, u 28, u 29, u 30, u 31, u 32, u 33, u 34, u 35, u 36, u 37, u 38, u 39, u 40, u 41, u 42, u 43, u 44, u 45, u 46, u 47, u 48, u 49, u 50, u 51, u 52, u 53, u 54, u 55, u 56, u 57, u 58, u 59, u 60, u 61, u 62, u 63, u 64, u 65, u 66, u 67, u 68, u 69, u 70, u 71, u 72, u 73, u 74, u 75, u 76, u 77, u 78, u 79, u 80, u 81, u 82, u 83, u 84, u 85, u 86, u 87, u 88, u 89, u 90, u 91, u 92, u 93, u 94, u 95, u 96, u 97, u 98, u 99, u 100, u 101, u 102, u 103, u 104, u 105, u 106, u 107, u 108, u 109, u 110, u 111], defers := [] }) → K a' (Wa.alloc (.cells (wyCells x).toArray 47))) := fun a' e5 => hK a' (Wa.alloc (.cells (wyCells x).toArray 47)) (keepsFrom_below hb) (KeepsS.of_below hb (fun j hj => Nat.lt_of_lt_of_le (HSl1.out j hj) hA.size)) (hA.below hb) ⟨Wa.heap.size, hA.size, BxC.new _ _ _, e5⟩
        have HFin2 : Hid (∀ a' : Act, a' = { tmps := #[a'.tmps.getD 0 undef, a'.tmps.getD 1 undef, a'.tmps.getD 2 undef, .pointer (some ⟨b3, 0, none⟩), .pointer (some ⟨b4, 0, none⟩), a'.tmps.getD 5 undef, a'.tmps.getD 6 undef, a'.tmps.getD 7 undef, a'.tmps.getD 8 undef, a'.tmps.getD 9 undef, a'.tmps.getD 10 undef, a'.tmps.getD 11 undef, .pointer (some ⟨b9, 0, none⟩), .pointer (some ⟨b10, 0, none⟩), .pointer (some ⟨Wa.heap.size, 0, none⟩), a'.tmps.getD 15 undef, a'.tmps.getD 16 undef, a'.tmps.getD 17 undef, a'.tmps.getD 18 undef, a'.tmps.getD 19 undef, a'.tmps.getD 20 undef, a'.tmps.getD 21 undef, a'.tmps.getD 22 undef, a'.tmps.getD 23 undef, a'.tmps.getD 24 undef, a'.tmps.getD 25 undef, a'.tmps.getD 26 undef, a'.tmps.getD 27 undef, a'.tmps.getD 28 undef, a'.tmps.getD 29 undef, a'.tmps.getD 30 undef, a'.tmps.getD 31 undef, a'.tmps.getD 32 undef, a'.tmps.getD 33 undef, a'.tmps.getD 34 undef, a'.tmps.getD 35 undef, a'.tmps.getD 36 undef, a'.tmps.getD 37 undef, a'.tmps.getD 38 undef, a'.tmps.getD 39 undef, a'.tmps.getD 40 undef, a'.tmps.getD 41 undef, a'.tmps.getD 42 undef, a'.tmps.getD 43 undef, a'.tmps.getD 44 undef, a'.tmps.getD 45 undef, a'.tmps.getD 46 undef, a'.tmps.getD 47 undef, a'.tmps.getD 48 undef, a'.tmps.getD 49 undef, a'.tmps.getD 50 undef, a'.tmps.getD 51 undef, a'.tmps.getD 52 undef, a'.tmps.getD 53 undef, a'.tmps.getD 54 undef, a'.tmps.getD 55 undef, a'.tmps.getD 56 undef, a'.tmps.getD 57 undef, a'.tmps.getD 58 undef, a'.tmps.getD 59 undef, a'.tmps.getD 60 undef, a'.tmps.getD 61 undef, a'.tmps.getD 62 undef, a'.tmps.getD 63 undef, a'.tmps.getD 64 undef, a'.tmps.getD 65 undef, a'.tmps.getD 66 undef, a'.tmps.getD 67 undef, a'.tmps.getD 68 undef, a'.tmps.getD 69 undef, a'.tmps.getD 70 undef, a'.tmps.getD 71 undef, a'.tmps.getD 72 undef, a'.tmps.getD 73 undef, a'.tmps.getD 74 undef, a'.tmps.getD 75 undef, a'.tmps.getD 76 undef, a'.tmps.getD 77 undef, a'.tmps.getD 78 undef, a'.tmps.getD 79 undef, a'.tmps.getD 80 undef, a'.tmps.getD 81 undef, a'.tmps.getD 82 undef, a'.tmps.getD 83 undef, a'.tmps.getD 84 undef, a'.tmps.getD 85 undef, a'.tmps.getD 86 undef, a'.tmps.getD 87 undef, a'.tmps.getD 88 undef, a'.tmps.getD 89 undef, a'.tmps.getD 90 undef, a'.tmps.getD 91 undef, a'.tmps.getD 92 undef, a'.tmps.getD 93 undef, a'.tmps.getD 94 undef, a'.tmps.getD 95 undef, a'.tmps.getD 96 undef, a'.tmps.getD 97 undef, a'.tmps.getD 98 undef, a'.tmps.getD 99 undef, a'.tmps.getD 100 undef, a'.tmps.getD 101 undef, a'.tmps.getD 102 undef, a'.tmps.getD 103 undef, a'.tmps.getD 104 undef, a'.tmps.getD 105 undef, a'.tmps.getD 106 undef, a'.tmps.getD 107 undef, a'.tmps.getD 108 undef, a'.tmps.getD 109 undef, a'.tmps.getD 110 undef, a'.tmps.getD 111 undef], defers := [] } → K a' (Wa.alloc (.cells (wyCells x).toArray 47))) := fun a' e => HFin.out a' ⟨fun k => a'.tmps.getD k undef, e⟩
        clear hK hb hA HFin
        simp only [encW]
        gi_wp2
        exact HFin2.out _ rfl
      case body1 =>
        rintro l k hk a' Wb hlD hA ⟨Bx, hx1, hx2, u, rfl⟩
        obtain ⟨x, hx⟩ : ∃ x, x = D[k] := ⟨_, rfl⟩
        rw [← hx] at hx2
        have HA : Hid (AkS w W11 S1 b10 k Wb) := hA
        have HFb : Hid (AskF w b3 b4 b9 B1 stop D (.slice aw D.length cu) (.slice ae D.length ce) Wb) := HF1.out.keep hA.kp HSF1.out hA.bel
        obtain ⟨bW, cW, evW, hrow⟩ := HFb.out.row HSF1.out HDl.out hk
        rw [← hx] at hrow
        have HxB : Hid (BxC Bx (wyCells x) 47 Wb) := hx2
        have hDl := HDl.out
        have k1 : (k : Int) < (D.length : Int) := by omega
        have k0 : (0 : Int) ≤ (k : Int) := by omega
        have HW0 : Hid (∀ X, KeepsS S1 Wb X → X.cell? ⟨bW, k * 3, none⟩ = some (.int .i64 (x.1 : Int)) ∧ X.cell? ⟨bW, k * 3 + 1, none⟩ = some (.int .i64 (x.2.1 : Int)) ∧ X.cell? ⟨bW, k * 3 + 2, none⟩ = some (.int .i64 (x.2.2 : Int))) := hrow
        clear hx hA hx2 hrow
        have HKd : Hid (KeepsFrom W11.heap.size Wb Wb.drew ∧ KeepsS S1 Wb Wb.drew) := ⟨keepsFrom_below (Below.refl _ _).drew, KeepsS.of_below (Below.refl _ _).drew (fun j hj => Nat.lt_of_lt_of_le (HSl1.out j hj) HA.out.size)⟩
        have HW13 : Hid (BxC b9 [.slice (some ⟨bW, 0, none⟩) D.length cW] 44 Wb) := (by have h9 := HFb.out.b9; rw [evW] at h9; exact h9)
        clear evW
        have c3 := HFb.out.b3.cell 0 _ rfl
        have cn := HA.out.box.cell 0 _ rfl
        by_cases hst : (k : Int) = stop
        · have q : ((k : Int) == stop) = true := by simp [hst]
          have HSt : Hid ((k : Int) = stop) := hst
          have hkD : k < D.length := hk
          clear hst
          gi_wp2
          exact ⟨KeepsFrom.refl _ _, rfl, k, rfl, HSt.out, hkD, HA.out⟩
        · have q : ((k : Int) == stop) = false := by simpa using hst
          clear hst
          gi_wp2
          clear c3 cn q
          refine region_round_held (S := fun W' => AkS w W11 S1 b10 k W' ∧ KeepsS S1 Wb W' ∧ BxC Bx (wyCells x) 47 W' ∧ BxC b9 [.slice (some ⟨bW, 0, none⟩) D.length cW] 44 W') l (by kernel_rfl) (by kernel_rfl) (lets_then (lets_then (lets_block lets_round))) ⟨HA.out.below (Below.refl _ _).drew, HKd.out.2, HxB.out.below (Below.refl _ _).drew, HW13.out.below (Below.refl _ _).drew⟩ (fun hHeld => ?_)
          obtain ⟨Ur19u0, eW⟩ : ∃ X, X = Wb.drew := ⟨_, rfl⟩
          have hb : Below Wb.heap.size Wb Ur19u0 := by rw [eW]; exact (Below.refl _ _).drew
          have HeD : Hid (Ur19u0 = Wb.drew) := eW
          have HAd : Hid (AkS w W11 S1 b10 k Ur19u0) := (by rw [eW]; exact HA.out.below (Below.refl _ _).drew)
          rw [← eW] at hHeld ⊢
          clear eW hb
          refine tkW 0 (some 64) (v := ?_) ?_ hHeld ?_
          rotate_left
          · (intro ww hSw; (try dsimp only at hSw); have n0 := hSw.1.box.cell 0 _ rfl; go_simp; try with_reducible rfl)
          refine tkW 1 (some 65) (v := ?_) ?_ hHeld ?_
          rotate_left
          · (intro ww hSw; (try dsimp only at hSw); have s0 := hSw.2.2.2.cell 0 _ rfl; go_simp; try with_reducible rfl)
          refine tkW 2 (some 66) (v := ?_) ?_ hHeld ?_
          rotate_left
          · (intro ww hSw; (try dsimp only at hSw); go_simp; try with_reducible rfl)
          refine tkW 3 (some 67) (v := .bool false) ?_ hHeld ?_
          · (intro ww hSw; (try dsimp only at hSw); go_simp; try omega)
          refine tkW 4 (some 68) (v := ?_) ?_ hHeld ?_
          rotate_left
          · (intro ww _; go_simp; try with_reducible rfl)
          refine tkW 5 (some 69) (v := ?_) ?_ hHeld ?_
          rotate_left
          · (intro ww hSw; (try dsimp only at hSw); have v0 := hSw.2.2.1.cell 0 _ rfl; have v1 := hSw.2.2.1.cell 1 _ rfl; have v2 := hSw.2.2.1.cell 2 _ rfl; go_simp; try with_reducible rfl)
          refine tkW 6 (some 70) (v := ?_) ?_ hHeld ?_
          rotate_left
          · (intro ww hSw; (try dsimp only at hSw); have s0 := hSw.2.2.2.cell 0 _ rfl; go_simp; try with_reducible rfl)
          refine tkW 7 (some 71) (v := ?_) ?_ hHeld ?_
          rotate_left
          · (intro ww hSw; (try dsimp only at hSw); have n0 := hSw.1.box.cell 0 _ rfl; go_simp; try with_reducible rfl)
          refine tkW 8 (some 72) (v := ?_) ?_ hHeld ?_
          rotate_left
          · (intro ww hSw; (try dsimp only at hSw); go_simp; try with_reducible rfl)
          refine tkW 9 (some 73) (v := ?_) ?_ hHeld ?_
          rotate_left
          · (intro ww hSw; (try dsimp only at hSw); have y0 := (HW0.out ww hSw.2.1).1; have y1 := (HW0.out ww hSw.2.1).2.1; have y2 := (HW0.out ww hSw.2.1).2.2; go_simp; try with_reducible rfl)
          refine tkW 10 (some 74) (v := .bool false) ?_ hHeld ?_
          · (intro ww hSw; (try dsimp only at hSw); exact execNeqW (p := x) rfl rfl ww)
          refine tkW 11 (some 75) (v := ?_) ?_ hHeld ?_
          rotate_left
          · (intro ww _; go_simp; try with_reducible rfl)
          refine wpAnyH_done (by kernel_rfl) ?_ _
          clear hHeld
          have cn := HAd.out.box.cell 0 _ rfl
          have fn := HAd.out.box.free 0
          have n1 : IntKind.i64.wrap ((k : Int) + 1) = (k : Int) + 1 := by rw [IntKind.wrap_i64]; omega
          gi_wp2
          have hst := HAd.out.set (k + 1)
          exact ⟨HKd.out.1.trans (by rw [← HeD.out]; exact keepsFrom_set _ _ _), HKd.out.2.trans (by rw [← HeD.out]; exact hst.2), hst.1⟩
      case done1 =>
        rintro Dd Wd hDd hA hDf
        obtain ⟨nn, enn⟩ : ∃ n, n = D.length := ⟨_, rfl⟩
        have HNN : Hid (nn ≤ D.length ∧ (nn = D.length ∨ (nn : Int) = stop)) := ⟨by omega, .inl enn⟩
        rw [← enn] at hA
        clear enn
        have HFd : Hid (AskF w b3 b4 b9 B1 stop D (.slice aw D.length cu) (.slice ae D.length ce) Wd) := HF1.out.keep hA.kp HSF1.out hA.bel
        have HDf0 : Hid (Wd.heap[Dd]? = some (.deferred (some []))) := hDf
        have HAd0 : Hid (AkS w W11 S1 b10 nn Wd) := hA
        clear hA hDf
        obtain ⟨W18, eW18⟩ : ∃ X, X = Wd.alloc (.cells [.int .i64 ((0 : Nat) : Int)].toArray 3) := ⟨_, rfl⟩
        have hb : Below Wd.heap.size Wd W18 := by rw [eW18]; exact (Below.refl _ _).alloc (Nat.le_refl _) _
        obtain ⟨b12, eb17⟩ : ∃ b, b = Wd.heap.size := ⟨_, rfl⟩
        have HX17 : Hid (BxC b12 [.int .i64 ((0 : Nat) : Int)] 3 W18) := by rw [eW18, eb17]; exact BxC.new _ _ _
        have HF2 : Hid (AskF w b3 b4 b9 B1 stop D (.slice aw D.length cu) (.slice ae D.length ce) W18) := HFd.out.below hb
        have HN15 : Hid (BxC b10 [.int .i64 (nn : Int)] 3 W18) := HAd0.out.box.below hb
        have HDf : Hid (W18.heap[Dd]? = some (.deferred (some []))) := (hb.block _ (row_lt HDf0.out)).trans HDf0.out
        obtain ⟨S2, eS2⟩ : ∃ S : Nat → Prop, S = fun k => k < W18.heap.size ∧ k ≠ b12 := ⟨_, rfl⟩
        have HSl2 : Hid (∀ k, S2 k → k < W18.heap.size) := fun k hk => by (rw [eS2] at hk; exact hk.1)
        have HSw : Hid (∀ k, k < Wd.heap.size → S2 k) := fun k hk => by (rw [eS2]; have := hb.size; exact ⟨by omega, by omega⟩)
        have HSF2 : Hid (AskIn b3 b4 b9 B1 (.slice aw D.length cu) (.slice ae D.length ce) S2) := HFd.out.inn HSw.out
        have HSD : Hid (S2 Dd) := HSw.out _ (row_lt HDf0.out)
        have HS15 : Hid (S2 b10) := HSw.out _ HAd0.out.box.lt
        have HA2 : Hid (AkS w W18 S2 b12 0 W18) := ⟨HX17.out, KeepsS.refl _ _, HSl2.out, fun hk => by (rw [eS2] at hk; exact hk.2 rfl), by rw [eb17]; exact HFd.out.bel.size, HX17.out.lt, HF2.out.bel⟩
        have HSq2 := values_seq (n0 - 1) (by omega) B1 ce S2 ae D W18 HSF2.out.e1 HSl2.out (HF2.out.e1.cell 0 _ rfl) (HF2.out.e2.waysIn HSF2.out.e2) (by have := HDl.out; omega)
        have eW19 : W18 = Wd.alloc (.cells #[.int .i64 0] 3) := eW18
        have HE19 : Hid (W18 = Wd.alloc (.cells #[.int .i64 0] 3) ∧ b12 = Wd.heap.size) := ⟨eW19, eb17⟩
        have HLo2 : Hid (W11.heap.size ≤ Dd ∧ Wd.heap.size ≤ W18.heap.size ∧ Dd < Wd.heap.size) := ⟨hDd, hb.size, row_lt HDf0.out⟩
        clear hb eS2 eW18 HFd HX17 HSw HAd0 HDf0 eW19 eb17
        gi_wp2
        refine (wpIn_wide (n := n0)).1 ?_
        gi_wp2
        rw [← HE19.out.1, ← HE19.out.2]
        clear HE19
        refine range_of (by omega) (gf := 40) (lb := #[.pointer (some ⟨B1, 0, none⟩)]) rfl (enters_of Try.func40 (by kernel_rfl) rfl) HSq2 KeepsS.trans (keepsSK_b HSl2.out) (Below.refl _ _) (fun _ => rfl)
          (fun k W => AkS w W18 S2 b12 k W) (fun _ _ _ => False)
          (fun k A B row h1 hg hr => h1.grown hg hr) (fun c k A B row hf _ _ => hf) HA2.out
          (fun x a' W => ∃ Bx, W18.heap.size ≤ Bx ∧ BxC Bx (wyCells x) 47 W ∧ ∃ u : Nat → Value, a' = { tmps := #[u 0, u 1, u 2, u 3, .pointer (some ⟨b4, 0, none⟩), u 5, u 6, u 7, u 8, u 9, u 10, u 11, .pointer (some ⟨b9, 0, none⟩), u 13, u 14, .pointer (some ⟨b12, 0, none⟩), .pointer (some ⟨Bx, 0, none⟩), u 17, u 18, u 19, u 20, u 21, u 22, u 23, u 24, u 25, u 26, u 27, u 28, u 29, u 30, u 31, u 32, u 33, u 34, u 35, u 36, u 37, u 38, u 39, u 40, u 41, u 42, u 43, u 44, u 45, u 46, u 47, u 48, u 49, u 50, u 51, u 52, u 53, u 54, u 55, u 56, u 57, u 58, u 59, u 60, u 61, u 62, u 63, u 64, u 65, u 66, u 67, u 68, u 69, u 70, u 71, u 72, u 73, u 74, u 75, u 76, u 77, u 78, u 79, u 80, u 81, u 82, u 83, u 84, u 85, u 86, u 87, u 88, u 89, u 90, u 91, u 92, u 93, u 94, u 95, u 96, u 97, u 98, u 99, u 100, u 101, u 102, u 103, u 104, u 105, u 106, u 107, u 108, u 109, u 110, u 111], defers := [] })
          (fun x a' u A B row ⟨Bx, h1, h2, h5⟩ hg hr => ⟨Bx, h1, row_own h2 hg (fun r e => (hr r e).2), h5⟩)
          ?assign2 ?body2 ?done2 ?stop2
        case assign2 =>
          rintro l k hk Wa K hA hK
          obtain ⟨x, hx⟩ : ∃ x, x = D[k] := ⟨_, rfl⟩
          rw [← hx] at hK ⊢
          clear hx
          have hb : Below Wa.heap.size Wa (Wa.alloc (.cells (wyCells x).toArray 47)) := (Below.refl _ _).alloc (Nat.le_refl _) _
          have HFin : Hid (∀ a', (∃ u : Nat → Value, a' = { tmps := #[u 0, u 1, u 2, u 3, .pointer (some ⟨b4, 0, none⟩), u 5, u 6, u 7, u 8, u 9, u 10, u 11, .pointer (some ⟨b9, 0, none⟩), u 13, u 14, .pointer (some ⟨b12, 0, none⟩), .pointer (some ⟨Wa.heap.size, 0, none⟩), u 17, u 18, u 19, u 20, u 21, u 22, u 23, u 24, u 25, u 26, u 27, u 28, u 29, u 30, u 31, u 32, u 33, u 34, u 35, u 36, u 37, u 38, u 39, u 40, u 41, u 42, u 43, u 44, u 45, u 46, u 47, u 48, u 49, u 50, u 51, u 52, u 53, u 54, u 55, u 56, u 57, u 58, u 59, u 60, u 61, u 62, u 63, u 64, u 65, u 66, u 67, u 68, u 69, u 70, u 71, u 72, u 73, u 74, u 75, u 76, u 77, u 78, u 79, u 80, u 81, u 82, u 83, u 84, u 85, u 86, u 87, u 88, u 89, u 90, u 91, u 92, u 93, u 94, u 95, u 96, u 97, u 98, u 99, u 100, u 101, u 102, u 103, u 104, u 105, u 106, u 107, u 108, u 109, u 110, u 111], defers := [] }) → K a' (Wa.alloc (.cells (wyCells x).toArray 47))) := fun a' e5 => hK a' (Wa.alloc (.cells (wyCells x).toArray 47)) (keepsFrom_below hb) (KeepsS.of_below hb (fun j hj => Nat.lt_of_lt_of_le (HSl2.out j hj) hA.size)) (hA.below hb) ⟨Wa.heap.size, hA.size, BxC.new _ _ _, e5⟩
          have HFin2 : Hid (∀ a' : Act, a' = { tmps := #[a'.tmps.getD 0 undef, a'.tmps.getD 1 undef, a'.tmps.getD 2 undef, a'.tmps.getD 3 undef, .pointer (some ⟨b4, 0, none⟩), a'.tmps.getD 5 undef, a'.tmps.getD 6 undef, a'.tmps.getD 7 undef, a'.tmps.getD 8 undef, a'.tmps.getD 9 undef, a'.tmps.getD 10 undef, a'.tmps.getD 11 undef, .pointer (some ⟨b9, 0, none⟩), a'.tmps.getD 13 undef, a'.tmps.getD 14 undef, .pointer (some ⟨b12, 0, none⟩), .pointer (some ⟨Wa.heap.size, 0, none⟩), a'.tmps.getD 17 undef, a'.tmps.getD 18 undef, a'.tmps.getD 19 undef, a'.tmps.getD 20 undef, a'.tmps.getD 21 undef, a'.tmps.getD 22 undef, a'.tmps.getD 23 undef, a'.tmps.getD 24 undef, a'.tmps.getD 25 undef, a'.tmps.getD 26 undef, a'.tmps.getD 27 undef, a'.tmps.getD 28 undef, a'.tmps.getD 29 undef, a'.tmps.getD 30 undef, a'.tmps.getD 31 undef, a'.tmps.getD 32 undef, a'.tmps.getD 33 undef, a'.tmps.getD 34 undef, a'.tmps.getD 35 undef, a'.tmps.getD 36 undef, a'.tmps.getD 37 undef, a'.tmps.getD 38 undef, a'.tmps.getD 39 undef, a'.tmps.getD 40 undef, a'.tmps.getD 41 undef, a'.tmps.getD 42 undef, a'.tmps.getD 43 undef, a'.tmps.getD 44 undef, a'.tmps.getD 45 undef, a'.tmps.getD 46 undef, a'.tmps.getD 47 undef, a'.tmps.getD 48 undef, a'.tmps.getD 49 undef, a'.tmps.getD 50 undef, a'.tmps.getD 51 undef, a'.tmps.getD 52 undef, a'.tmps.getD 53 undef, a'.tmps.getD 54 undef, a'.tmps.getD 55 undef, a'.tmps.getD 56 undef, a'.tmps.getD 57 undef, a'.tmps.getD 58 undef, a'.tmps.getD 59 undef, a'.tmps.getD 60 undef, a'.tmps.getD 61 undef, a'.tmps.getD 62 undef, a'.tmps.getD 63 undef, a'.tmps.getD 64 undef, a'.tmps.getD 65 undef, a'.tmps.getD 66 undef, a'.tmps.getD 67 undef, a'.tmps.getD 68 undef, a'.tmps.getD 69 undef, a'.tmps.getD 70 undef, a'.tmps.getD 71 undef, a'.tmps.getD 72 undef, a'.tmps.getD 73 undef, a'.tmps.getD 74 undef, a'.tmps.getD 75 undef, a'.tmps.getD 76 undef, a'.tmps.getD 77 undef, a'.tmps.getD 78 undef, a'.tmps.getD 79 undef, a'.tmps.getD 80 undef, a'.tmps.getD 81 undef, a'.tmps.getD 82 undef, a'.tmps.getD 83 undef, a'.tmps.getD 84 undef, a'.tmps.getD 85 undef, a'.tmps.getD 86 undef, a'.tmps.getD 87 undef, a'.tmps.getD 88 undef, a'.tmps.getD 89 undef, a'.tmps.getD 90 undef, a'.tmps.getD 91 undef, a'.tmps.getD 92 undef, a'.tmps.getD 93 undef, a'.tmps.getD 94 undef, a'.tmps.getD 95 undef, a'.tmps.getD 96 undef, a'.tmps.getD 97 undef, a'.tmps.getD 98 undef, a'.tmps.getD 99 undef, a'.tmps.getD 100 undef, a'.tmps.getD 101 undef, a'.tmps.getD 102 undef, a'.tmps.getD 103 undef, a'.tmps.getD 104 undef, a'.tmps.getD 105 undef, a'.tmps.getD 106 undef, a'.tmps.getD 107 undef, a'.tmps.getD 108 undef, a'.tmps.getD 109 undef, a'.tmps.getD 110 undef, a'.tmps.getD 111 undef], defers := [] } → K a' (Wa.alloc (.cells (wyCells x).toArray 47))) := fun a' e => HFin.out a' ⟨fun k => a'.tmps.getD k undef, e⟩
          clear hK hb hA HFin
          simp only [encW]
          gi_wp2
          exact HFin2.out _ rfl
        case body2 =>
          rintro l k hk a' Wb hlD hA ⟨Bx, hx1, hx2, u, rfl⟩
          obtain ⟨x, hx⟩ : ∃ x, x = D[k] := ⟨_, rfl⟩
          rw [← hx] at hx2
          have HA : Hid (AkS w W18 S2 b12 k Wb) := hA
          have HFb : Hid (AskF w b3 b4 b9 B1 stop D (.slice aw D.length cu) (.slice ae D.length ce) Wb) := HF2.out.keep hA.kp HSF2.out hA.bel
          obtain ⟨bW, cW, evW, hrow⟩ := HFb.out.row HSF2.out HDl.out hk
          rw [← hx] at hrow
          have HxB : Hid (BxC Bx (wyCells x) 47 Wb) := hx2
          have hDl := HDl.out
          have k1 : (k : Int) < (D.length : Int) := by omega
          have k0 : (0 : Int) ≤ (k : Int) := by omega
          have HW0 : Hid (∀ X, KeepsS S2 Wb X → X.cell? ⟨bW, k * 3, none⟩ = some (.int .i64 (x.1 : Int)) ∧ X.cell? ⟨bW, k * 3 + 1, none⟩ = some (.int .i64 (x.2.1 : Int)) ∧ X.cell? ⟨bW, k * 3 + 2, none⟩ = some (.int .i64 (x.2.2 : Int))) := hrow
          clear hx hA hx2 hrow
          have HKd : Hid (KeepsFrom W18.heap.size Wb Wb.drew ∧ KeepsS S2 Wb Wb.drew) := ⟨keepsFrom_below (Below.refl _ _).drew, KeepsS.of_below (Below.refl _ _).drew (fun j hj => Nat.lt_of_lt_of_le (HSl2.out j hj) HA.out.size)⟩
          have HW13 : Hid (BxC b9 [.slice (some ⟨bW, 0, none⟩) D.length cW] 44 Wb) := (by have h9 := HFb.out.b9; rw [evW] at h9; exact h9)
          clear evW
          gi_wp2
          refine region_round_held (S := fun W' => AkS w W18 S2 b12 k W' ∧ KeepsS S2 Wb W' ∧ BxC Bx (wyCells x) 47 W' ∧ BxC b9 [.slice (some ⟨bW, 0, none⟩) D.length cW] 44 W') l (by kernel_rfl) (by kernel_rfl) (lets_then (lets_then (lets_block lets_round))) ⟨HA.out.below (Below.refl _ _).drew, HKd.out.2, HxB.out.below (Below.refl _ _).drew, HW13.out.below (Below.refl _ _).drew⟩ (fun hHeld => ?_)
          obtain ⟨Ur210u0, eW⟩ : ∃ X, X = Wb.drew := ⟨_, rfl⟩
          have hb : Below Wb.heap.size Wb Ur210u0 := by rw [eW]; exact (Below.refl _ _).drew
          have HeD : Hid (Ur210u0 = Wb.drew) := eW
          have HAd : Hid (AkS w W18 S2 b12 k Ur210u0) := (by rw [eW]; exact HA.out.below (Below.refl _ _).drew)
          rw [← eW] at hHeld ⊢
          clear eW hb
          refine tkW 0 (some 80) (v := ?_) ?_ hHeld ?_
          rotate_left
          · (intro ww hSw; (try dsimp only at hSw); have n0 := hSw.1.box.cell 0 _ rfl; go_simp; try with_reducible rfl)
          refine tkW 1 (some 81) (v := ?_) ?_ hHeld ?_
          rotate_left
          · (intro ww hSw; (try dsimp only at hSw); have s0 := hSw.2.2.2.cell 0 _ rfl; go_simp; try with_reducible rfl)
          refine tkW 2 (some 82) (v := ?_) ?_ hHeld ?_
          rotate_left
          · (intro ww hSw; (try dsimp only at hSw); go_simp; try with_reducible rfl)
          refine tkW 3 (some 83) (v := .bool false) ?_ hHeld ?_
          · (intro ww hSw; (try dsimp only at hSw); go_simp; try omega)
          refine tkW 4 (some 84) (v := ?_) ?_ hHeld ?_
          rotate_left
          · (intro ww _; go_simp; try with_reducible rfl)
          refine tkW 5 (some 85) (v := ?_) ?_ hHeld ?_
          rotate_left
          · (intro ww hSw; (try dsimp only at hSw); have v0 := hSw.2.2.1.cell 0 _ rfl; have v1 := hSw.2.2.1.cell 1 _ rfl; have v2 := hSw.2.2.1.cell 2 _ rfl; go_simp; try with_reducible rfl)
          refine tkW 6 (some 86) (v := ?_) ?_ hHeld ?_
          rotate_left
          · (intro ww hSw; (try dsimp only at hSw); have s0 := hSw.2.2.2.cell 0 _ rfl; go_simp; try with_reducible rfl)
          refine tkW 7 (some 87) (v := ?_) ?_ hHeld ?_
          rotate_left
          · (intro ww hSw; (try dsimp only at hSw); have n0 := hSw.1.box.cell 0 _ rfl; go_simp; try with_reducible rfl)
          refine tkW 8 (some 88) (v := ?_) ?_ hHeld ?_
          rotate_left
          · (intro ww hSw; (try dsimp only at hSw); go_simp; try with_reducible rfl)
          refine tkW 9 (some 89) (v := ?_) ?_ hHeld ?_
          rotate_left
          · (intro ww hSw; (try dsimp only at hSw); have y0 := (HW0.out ww hSw.2.1).1; have y1 := (HW0.out ww hSw.2.1).2.1; have y2 := (HW0.out ww hSw.2.1).2.2; go_simp; try with_reducible rfl)
          refine tkW 10 (some 90) (v := .bool false) ?_ hHeld ?_
          · (intro ww hSw; (try dsimp only at hSw); exact execNeqW (p := x) rfl rfl ww)
          refine tkW 11 (some 91) (v := ?_) ?_ hHeld ?_
          rotate_left
          · (intro ww _; go_simp; try with_reducible rfl)
          refine wpAnyH_done (by kernel_rfl) ?_ _
          clear hHeld
          have cn := HAd.out.box.cell 0 _ rfl
          have fn := HAd.out.box.free 0
          have n1 : IntKind.i64.wrap ((k : Int) + 1) = (k : Int) + 1 := by rw [IntKind.wrap_i64]; omega
          gi_wp2
          have hst := HAd.out.set (k + 1)
          exact ⟨HKd.out.1.trans (by rw [← HeD.out]; exact keepsFrom_set _ _ _), HKd.out.2.trans (by rw [← HeD.out]; exact hst.2), hst.1⟩
        case done2 =>
          rintro De We hDe hA2 hDf2
          have HFe : Hid (AskF w b3 b4 b9 B1 stop D (.slice aw D.length cu) (.slice ae D.length ce) We) := HF2.out.keep hA2.kp HSF2.out hA2.bel
          have HDe2 : Hid (We.heap[De]? = some (.deferred (some []))) := hDf2
          have HDe1 : Hid (We.heap[Dd]? = some (.deferred (some []))) := (hA2.kp.2 _ HSD.out).trans HDf.out
          have HN15 : Hid (BxC b10 [.int .i64 (nn : Int)] 3 We) := HN15.out.keep (hA2.kp.2 _ HS15.out)
          have HA9 : Hid (AkS w W18 S2 b12 D.length We) := hA2
          have hDl := HDl.out
          have HDe : Hid (W18.heap.size ≤ De) := hDe
          clear hA2 hDf2
          have c12 := HA9.out.box.cell 0 _ rfl
          have cw := HFe.out.b9.cell 0 _ rfl
          have cn := HN15.out.cell 0 _ rfl
          have c3 := HFe.out.b3.cell 0 _ rfl
          by_cases hnn : nn = D.length
          · have q1 : ((nn : Int) == (D.length : Int)) = true := by simp [hnn]
            clear hnn
            gi_wp2_with fail
            clear c12 cw cn c3
            refine ⟨trivial, (callsIn_wide.2 (awake_any _)).mono ?_⟩
            rintro e Wz ⟨rfl, hb⟩
            replace HFe : Hid (AskF w b3 b4 b9 B1 stop D (.slice aw D.length cu) (.slice ae D.length ce) Wz) := HFe.out.below hb
            replace HDe2 : Hid (Wz.heap[De]? = some (.deferred (some []))) := (hb.block _ (row_lt HDe2.out)).trans HDe2.out
            replace HDe1 : Hid (Wz.heap[Dd]? = some (.deferred (some []))) := (hb.block _ (row_lt HDe1.out)).trans HDe1.out
            clear hb
            have c4 := HFe.out.b4.cell 0 _ rfl
            have f4 := HFe.out.b4.free 0
            have HEn := hide9 (two_marks HFe.out.b4 HFe.out.bel HDe1.out HDe2.out (by have := HLo2.out; have := HDe.out; omega) HG6.out.2 (by have := HLo2.out; have := HF1.out.bel.size; omega))
            gi_wp2
            obtain ⟨k1, k2, k3, k4⟩ := HEn.out
            refine ⟨by simp, .inl ⟨_, _, rfl, run_takeDeferred k1, ?_⟩⟩
            refine ⟨by simp, .inl ⟨_, _, rfl, run_takeDeferred k2, ?_⟩⟩
            exact ⟨_, results_boolCell rfl _ _ _ true rfl k3, rfl, k4⟩
          · have q1 : ((nn : Int) == (D.length : Int)) = false := by (simp; omega)
            have q2 : ((nn : Int) == stop) = true := by simpa using HNN.out.2.resolve_left hnn
            clear hnn
            gi_wp2_with fail
            clear c12 cw cn c3
            refine ⟨trivial, (callsIn_wide.2 (awake_any _)).mono ?_⟩
            rintro e Wz ⟨rfl, hb⟩
            replace HFe : Hid (AskF w b3 b4 b9 B1 stop D (.slice aw D.length cu) (.slice ae D.length ce) Wz) := HFe.out.below hb
            replace HDe2 : Hid (Wz.heap[De]? = some (.deferred (some []))) := (hb.block _ (row_lt HDe2.out)).trans HDe2.out
            replace HDe1 : Hid (Wz.heap[Dd]? = some (.deferred (some []))) := (hb.block _ (row_lt HDe1.out)).trans HDe1.out
            clear hb
            have c4 := HFe.out.b4.cell 0 _ rfl
            have f4 := HFe.out.b4.free 0
            have HEn := hide9 (two_marks HFe.out.b4 HFe.out.bel HDe1.out HDe2.out (by have := HLo2.out; have := HDe.out; omega) HG6.out.2 (by have := HLo2.out; have := HF1.out.bel.size; omega))
            gi_wp2
            obtain ⟨k1, k2, k3, k4⟩ := HEn.out
            refine ⟨by simp, .inl ⟨_, _, rfl, run_takeDeferred k1, ?_⟩⟩
            refine ⟨by simp, .inl ⟨_, _, rfl, run_takeDeferred k2, ?_⟩⟩
            exact ⟨_, results_boolCell rfl _ _ _ true rfl k3, rfl, k4⟩
        case stop2 => rintro D c k W hD hk hf; exact hf.elim
      case stop1 =>
        rintro Dd c k Wd hDd hk ⟨rfl, nn, rfl, h3, h4, hA⟩ hDf
        have HNN : Hid (nn ≤ D.length ∧ (nn = D.length ∨ (nn : Int) = stop)) := ⟨by omega, .inr h3⟩
        clear h3 h4 hk
        have HFd : Hid (AskF w b3 b4 b9 B1 stop D (.slice aw D.length cu) (.slice ae D.length ce) Wd) := HF1.out.keep hA.kp HSF1.out hA.bel
        have HDf0 : Hid (Wd.heap[Dd]? = some (.deferred (some []))) := hDf
        have HAd0 : Hid (AkS w W11 S1 b10 nn Wd) := hA
        clear hA hDf
        obtain ⟨W18, eW18⟩ : ∃ X, X = Wd.alloc (.cells [.int .i64 ((0 : Nat) : Int)].toArray 3) := ⟨_, rfl⟩
        have hb : Below Wd.heap.size Wd W18 := by rw [eW18]; exact (Below.refl _ _).alloc (Nat.le_refl _) _
        obtain ⟨b12, eb17⟩ : ∃ b, b = Wd.heap.size := ⟨_, rfl⟩
        have HX17 : Hid (BxC b12 [.int .i64 ((0 : Nat) : Int)] 3 W18) := by rw [eW18, eb17]; exact BxC.new _ _ _
        have HF2 : Hid (AskF w b3 b4 b9 B1 stop D (.slice aw D.length cu) (.slice ae D.length ce) W18) := HFd.out.below hb
        have HN15 : Hid (BxC b10 [.int .i64 (nn : Int)] 3 W18) := HAd0.out.box.below hb
        have HDf : Hid (W18.heap[Dd]? = some (.deferred (some []))) := (hb.block _ (row_lt HDf0.out)).trans HDf0.out
        obtain ⟨S2, eS2⟩ : ∃ S : Nat → Prop, S = fun k => k < W18.heap.size ∧ k ≠ b12 := ⟨_, rfl⟩
        have HSl2 : Hid (∀ k, S2 k → k < W18.heap.size) := fun k hk => by (rw [eS2] at hk; exact hk.1)
        have HSw : Hid (∀ k, k < Wd.heap.size → S2 k) := fun k hk => by (rw [eS2]; have := hb.size; exact ⟨by omega, by omega⟩)
        have HSF2 : Hid (AskIn b3 b4 b9 B1 (.slice aw D.length cu) (.slice ae D.length ce) S2) := HFd.out.inn HSw.out
        have HSD : Hid (S2 Dd) := HSw.out _ (row_lt HDf0.out)
        have HS15 : Hid (S2 b10) := HSw.out _ HAd0.out.box.lt
        have HA2 : Hid (AkS w W18 S2 b12 0 W18) := ⟨HX17.out, KeepsS.refl _ _, HSl2.out, fun hk => by (rw [eS2] at hk; exact hk.2 rfl), by rw [eb17]; exact HFd.out.bel.size, HX17.out.lt, HF2.out.bel⟩
        have HSq2 := values_seq (n0 - 1) (by omega) B1 ce S2 ae D W18 HSF2.out.e1 HSl2.out (HF2.out.e1.cell 0 _ rfl) (HF2.out.e2.waysIn HSF2.out.e2) (by have := HDl.out; omega)
        have eW19 : W18 = Wd.alloc (.cells #[.int .i64 0] 3) := eW18
        have HE19 : Hid (W18 = Wd.alloc (.cells #[.int .i64 0] 3) ∧ b12 = Wd.heap.size) := ⟨eW19, eb17⟩
        have HLo2 : Hid (W11.heap.size ≤ Dd ∧ Wd.heap.size ≤ W18.heap.size ∧ Dd < Wd.heap.size) := ⟨hDd, hb.size, row_lt HDf0.out⟩
        clear hb eS2 eW18 HFd HX17 HSw HAd0 HDf0 eW19 eb17
        gi_wp2
        refine (wpIn_wide (n := n0)).1 ?_
        gi_wp2
        rw [← HE19.out.1, ← HE19.out.2]
        clear HE19
        refine range_of (by omega) (gf := 40) (lb := #[.pointer (some ⟨B1, 0, none⟩)]) rfl (enters_of Try.func40 (by kernel_rfl) rfl) HSq2 KeepsS.trans (keepsSK_b HSl2.out) (Below.refl _ _) (fun _ => rfl)
          (fun k W => AkS w W18 S2 b12 k W) (fun _ _ _ => False)
          (fun k A B row h1 hg hr => h1.grown hg hr) (fun c k A B row hf _ _ => hf) HA2.out
          (fun x a' W => ∃ Bx, W18.heap.size ≤ Bx ∧ BxC Bx (wyCells x) 47 W ∧ ∃ u : Nat → Value, a' = { tmps := #[u 0, u 1, u 2, u 3, .pointer (some ⟨b4, 0, none⟩), u 5, u 6, u 7, u 8, u 9, u 10, u 11, .pointer (some ⟨b9, 0, none⟩), u 13, u 14, .pointer (some ⟨b12, 0, none⟩), .pointer (some ⟨Bx, 0, none⟩), u 17, u 18, u 19, u 20, u 21, u 22, u 23, u 24, u 25, u 26, u 27, u 28, u 29, u 30, u 31, u 32, u 33, u 34, u 35, u 36, u 37, u 38, u 39, u 40, u 41, u 42, u 43, u 44, u 45, u 46, u 47, u 48, u 49, u 50, u 51, u 52, u 53, u 54, u 55, u 56, u 57, u 58, u 59, u 60, u 61, u 62, u 63, u 64, u 65, u 66, u 67, u 68, u 69, u 70, u 71, u 72, u 73, u 74, u 75, u 76, u 77, u 78, u 79, u 80, u 81, u 82, u 83, u 84, u 85, u 86, u 87, u 88, u 89, u 90, u 91, u 92, u 93, u 94, u 95, u 96, u 97, u 98, u 99, u 100, u 101, u 102, u 103, u 104, u 105, u 106, u 107, u 108, u 109, u 110, u 111], defers := [] })
          (fun x a' u A B row ⟨Bx, h1, h2, h5⟩ hg hr => ⟨Bx, h1, row_own h2 hg (fun r e => (hr r e).2), h5⟩)
          ?assign2 ?body2 ?done2 ?stop2
        case assign2 =>
          rintro l k hk Wa K hA hK
          obtain ⟨x, hx⟩ : ∃ x, x = D[k] := ⟨_, rfl⟩
          rw [← hx] at hK ⊢
          clear hx
          have hb : Below Wa.heap.size Wa (Wa.alloc (.cells (wyCells x).toArray 47)) := (Below.refl _ _).alloc (Nat.le_refl _) _
          have HFin : Hid (∀ a', (∃ u : Nat → Value, a' = { tmps := #[u 0, u 1, u 2, u 3, .pointer (some ⟨b4, 0, none⟩), u 5, u 6, u 7, u 8, u 9, u 10, u 11, .pointer (some ⟨b9, 0, none⟩), u 13, u 14, .pointer (some ⟨b12, 0, none⟩), .pointer (some ⟨Wa.heap.size, 0, none⟩), u 17, u 18, u 19, u 20, u 21, u 22, u 23, u 24, u 25, u 26, u 27, u 28, u 29, u 30, u 31, u 32, u 33, u 34, u 35, u 36, u 37, u 38, u 39, u 40, u 41, u 42, u 43, u 44, u 45, u 46, u 47, u 48, u 49, u 50, u 51, u 52, u 53, u 54, u 55, u 56, u 57, u 58, u 59, u 60, u 61, u 62, u 63, u 64, u 65, u 66, u 67, u 68, u 69, u 70, u 71, u 72, u 73, u 74, u 75, u 76, u 77, u 78, u 79, u 80, u 81, u 82, u 83, u 84, u 85, u 86, u 87, u 88, u 89, u 90, u 91, u 92, u 93, u 94, u 95, u 96, u 97, u 98, u 99, u 100, u 101, u 102, u 103, u 104, u 105, u 106, u 107, u 108, u 109, u 110, u 111], defers := [] }) → K a' (Wa.alloc (.cells (wyCells x).toArray 47))) := fun a' e5 => hK a' (Wa.alloc (.cells (wyCells x).toArray 47)) (keepsFrom_below hb) (KeepsS.of_below hb (fun j hj => Nat.lt_of_lt_of_le (HSl2.out j hj) hA.size)) (hA.below hb) ⟨Wa.heap.size, hA.size, BxC.new _ _ _, e5⟩
          have HFin2 : Hid (∀ a' : Act, a' = { tmps := #[a'.tmps.getD 0 undef, a'.tmps.getD 1 undef, a'.tmps.getD 2 undef, a'.tmps.getD 3 undef, .pointer (some ⟨b4, 0, none⟩), a'.tmps.getD 5 undef, a'.tmps.getD 6 undef, a'.tmps.getD 7 undef, a'.tmps.getD 8 undef, a'.tmps.getD 9 undef, a'.tmps.getD 10 undef, a'.tmps.getD 11 undef, .pointer (some ⟨b9, 0, none⟩), a'.tmps.getD 13 undef, a'.tmps.getD 14 undef, .pointer (some ⟨b12, 0, none⟩), .pointer (some ⟨Wa.heap.size, 0, none⟩), a'.tmps.getD 17 undef, a'.tmps.getD 18 undef, a'.tmps.getD 19 undef, a'.tmps.getD 20 undef, a'.tmps.getD 21 undef, a'.tmps.getD 22 undef, a'.tmps.getD 23 undef, a'.tmps.getD 24 undef, a'.tmps.getD 25 undef, a'.tmps.getD 26 undef, a'.tmps.getD 27 undef, a'.tmps.getD 28 undef, a'.tmps.getD 29 undef, a'.tmps.getD 30 undef, a'.tmps.getD 31 undef, a'.tmps.getD 32 undef, a'.tmps.getD 33 undef, a'.tmps.getD 34 undef, a'.tmps.getD 35 undef, a'.tmps.getD 36 undef, a'.tmps.getD 37 undef, a'.tmps.getD 38 undef, a'.tmps.getD 39 undef, a'.tmps.getD 40 undef, a'.tmps.getD 41 undef, a'.tmps.getD 42 undef, a'.tmps.getD 43 undef, a'.tmps.getD 44 undef, a'.tmps.getD 45 undef, a'.tmps.getD 46 undef, a'.tmps.getD 47 undef, a'.tmps.getD 48 undef, a'.tmps.getD 49 undef, a'.tmps.getD 50 undef, a'.tmps.getD 51 undef, a'.tmps.getD 52 undef, a'.tmps.getD 53 undef, a'.tmps.getD 54 undef, a'.tmps.getD 55 undef, a'.tmps.getD 56 undef, a'.tmps.getD 57 undef, a'.tmps.getD 58 undef, a'.tmps.getD 59 undef, a'.tmps.getD 60 undef, a'.tmps.getD 61 undef, a'.tmps.getD 62 undef, a'.tmps.getD 63 undef, a'.tmps.getD 64 undef, a'.tmps.getD 65 undef, a'.tmps.getD 66 undef, a'.tmps.getD 67 undef, a'.tmps.getD 68 undef, a'.tmps.getD 69 undef, a'.tmps.getD 70 undef, a'.tmps.getD 71 undef, a'.tmps.getD 72 undef, a'.tmps.getD 73 undef, a'.tmps.getD 74 undef, a'.tmps.getD 75 undef, a'.tmps.getD 76 undef, a'.tmps.getD 77 undef, a'.tmps.getD 78 undef, a'.tmps.getD 79 undef, a'.tmps.getD 80 undef, a'.tmps.getD 81 undef, a'.tmps.getD 82 undef, a'.tmps.getD 83 undef, a'.tmps.getD 84 undef, a'.tmps.getD 85 undef, a'.tmps.getD 86 undef, a'.tmps.getD 87 undef, a'.tmps.getD 88 undef, a'.tmps.getD 89 undef, a'.tmps.getD 90 undef, a'.tmps.getD 91 undef, a'.tmps.getD 92 undef, a'.tmps.getD 93 undef, a'.tmps.getD 94 undef, a'.tmps.getD 95 undef, a'.tmps.getD 96 undef, a'.tmps.getD 97 undef, a'.tmps.getD 98 undef, a'.tmps.getD 99 undef, a'.tmps.getD 100 undef, a'.tmps.getD 101 undef, a'.tmps.getD 102 undef, a'.tmps.getD 103 undef, a'.tmps.getD 104 undef, a'.tmps.getD 105 undef, a'.tmps.getD 106 undef, a'.tmps.getD 107 undef, a'.tmps.getD 108 undef, a'.tmps.getD 109 undef, a'.tmps.getD 110 undef, a'.tmps.getD 111 undef], defers := [] } → K a' (Wa.alloc (.cells (wyCells x).toArray 47))) := fun a' e => HFin.out a' ⟨fun k => a'.tmps.getD k undef, e⟩
          clear hK hb hA HFin
          simp only [encW]
          gi_wp2
          exact HFin2.out _ rfl
        case body2 =>
          rintro l k hk a' Wb hlD hA ⟨Bx, hx1, hx2, u, rfl⟩
          obtain ⟨x, hx⟩ : ∃ x, x = D[k] := ⟨_, rfl⟩
          rw [← hx] at hx2
          have HA : Hid (AkS w W18 S2 b12 k Wb) := hA
          have HFb : Hid (AskF w b3 b4 b9 B1 stop D (.slice aw D.length cu) (.slice ae D.length ce) Wb) := HF2.out.keep hA.kp HSF2.out hA.bel
          obtain ⟨bW, cW, evW, hrow⟩ := HFb.out.row HSF2.out HDl.out hk
          rw [← hx] at hrow
          have HxB : Hid (BxC Bx (wyCells x) 47 Wb) := hx2
          have hDl := HDl.out
          have k1 : (k : Int) < (D.length : Int) := by omega
          have k0 : (0 : Int) ≤ (k : Int) := by omega
          have HW0 : Hid (∀ X, KeepsS S2 Wb X → X.cell? ⟨bW, k * 3, none⟩ = some (.int .i64 (x.1 : Int)) ∧ X.cell? ⟨bW, k * 3 + 1, none⟩ = some (.int .i64 (x.2.1 : Int)) ∧ X.cell? ⟨bW, k * 3 + 2, none⟩ = some (.int .i64 (x.2.2 : Int))) := hrow
          clear hx hA hx2 hrow
          have HKd : Hid (KeepsFrom W18.heap.size Wb Wb.drew ∧ KeepsS S2 Wb Wb.drew) := ⟨keepsFrom_below (Below.refl _ _).drew, KeepsS.of_below (Below.refl _ _).drew (fun j hj => Nat.lt_of_lt_of_le (HSl2.out j hj) HA.out.size)⟩
          have HW13 : Hid (BxC b9 [.slice (some ⟨bW, 0, none⟩) D.length cW] 44 Wb) := (by have h9 := HFb.out.b9; rw [evW] at h9; exact h9)
          clear evW
          gi_wp2
          refine region_round_held (S := fun W' => AkS w W18 S2 b12 k W' ∧ KeepsS S2 Wb W' ∧ BxC Bx (wyCells x) 47 W' ∧ BxC b9 [.slice (some ⟨bW, 0, none⟩) D.length cW] 44 W') l (by kernel_rfl) (by kernel_rfl) (lets_then (lets_then (lets_block lets_round))) ⟨HA.out.below (Below.refl _ _).drew, HKd.out.2, HxB.out.below (Below.refl _ _).drew, HW13.out.below (Below.refl _ _).drew⟩ (fun hHeld => ?_)
          obtain ⟨Ur211u0, eW⟩ : ∃ X, X = Wb.drew := ⟨_, rfl⟩
          have hb : Below Wb.heap.size Wb Ur211u0 := by rw [eW]; exact (Below.refl _ _).drew
          have HeD : Hid (Ur211u0 = Wb.drew) := eW
          have HAd : Hid (AkS w W18 S2 b12 k Ur211u0) := (by rw [eW]; exact HA.out.below (Below.refl _ _).drew)
          rw [← eW] at hHeld ⊢
          clear eW hb
          refine tkW 0 (some 80) (v := ?_) ?_ hHeld ?_
          rotate_left
          · (intro ww hSw; (try dsimp only at hSw); have n0 := hSw.1.box.cell 0 _ rfl; go_simp; try with_reducible rfl)
          refine tkW 1 (some 81) (v := ?_) ?_ hHeld ?_
          rotate_left
          · (intro ww hSw; (try dsimp only at hSw); have s0 := hSw.2.2.2.cell 0 _ rfl; go_simp; try with_reducible rfl)
          refine tkW 2 (some 82) (v := ?_) ?_ hHeld ?_
          rotate_left
          · (intro ww hSw; (try dsimp only at hSw); go_simp; try with_reducible rfl)
          refine tkW 3 (some 83) (v := .bool false) ?_ hHeld ?_
          · (intro ww hSw; (try dsimp only at hSw); go_simp; try omega)
          refine tkW 4 (some 84) (v := ?_) ?_ hHeld ?_
          rotate_left
          · (intro ww _; go_simp; try with_reducible rfl)
          refine tkW 5 (some 85) (v := ?_) ?_ hHeld ?_
          rotate_left
          · (intro ww hSw; (try dsimp only at hSw); have v0 := hSw.2.2.1.cell 0 _ rfl; have v1 := hSw.2.2.1.cell 1 _ rfl; have v2 := hSw.2.2.1.cell 2 _ rfl; go_simp; try with_reducible rfl)
          refine tkW 6 (some 86) (v := ?_) ?_ hHeld ?_
          rotate_left
          · (intro ww hSw; (try dsimp only at hSw); have s0 := hSw.2.2.2.cell 0 _ rfl; go_simp; try with_reducible rfl)
          refine tkW 7 (some 87) (v := ?_) ?_ hHeld ?_
          rotate_left
          · (intro ww hSw; (try dsimp only at hSw); have n0 := hSw.1.box.cell 0 _ rfl; go_simp; try with_reducible rfl)
          refine tkW 8 (some 88) (v := ?_) ?_ hHeld ?_
          rotate_left
          · (intro ww hSw; (try dsimp only at hSw); go_simp; try with_reducible rfl)
          refine tkW 9 (some 89) (v := ?_) ?_ hHeld ?_
          rotate_left
          · (intro ww hSw; (try dsimp only at hSw); have y0 := (HW0.out ww hSw.2.1).1; have y1 := (HW0.out ww hSw.2.1).2.1; have y2 := (HW0.out ww hSw.2.1).2.2; go_simp; try with_reducible rfl)
          refine tkW 10 (some 90) (v := .bool false) ?_ hHeld ?_
          · (intro ww hSw; (try dsimp only at hSw); exact execNeqW (p := x) rfl rfl ww)
          refine tkW 11 (some 91) (v := ?_) ?_ hHeld ?_
          rotate_left
          · (intro ww _; go_simp; try with_reducible rfl)
          refine wpAnyH_done (by kernel_rfl) ?_ _
          clear hHeld
          have cn := HAd.out.box.cell 0 _ rfl
          have fn := HAd.out.box.free 0
          have n1 : IntKind.i64.wrap ((k : Int) + 1) = (k : Int) + 1 := by rw [IntKind.wrap_i64]; omega
          gi_wp2
          have hst := HAd.out.set (k + 1)
          exact ⟨HKd.out.1.trans (by rw [← HeD.out]; exact keepsFrom_set _ _ _), HKd.out.2.trans (by rw [← HeD.out]; exact hst.2), hst.1⟩
        case done2 =>
          rintro De We hDe hA2 hDf2
          have HFe : Hid (AskF w b3 b4 b9 B1 stop D (.slice aw D.length cu) (.slice ae D.length ce) We) := HF2.out.keep hA2.kp HSF2.out hA2.bel
          have HDe2 : Hid (We.heap[De]? = some (.deferred (some []))) := hDf2
          have HDe1 : Hid (We.heap[Dd]? = some (.deferred (some []))) := (hA2.kp.2 _ HSD.out).trans HDf.out
          have HN15 : Hid (BxC b10 [.int .i64 (nn : Int)] 3 We) := HN15.out.keep (hA2.kp.2 _ HS15.out)
          have HA9 : Hid (AkS w W18 S2 b12 D.length We) := hA2
          have hDl := HDl.out
          have HDe : Hid (W18.heap.size ≤ De) := hDe
          clear hA2 hDf2
          have c12 := HA9.out.box.cell 0 _ rfl
          have cw := HFe.out.b9.cell 0 _ rfl
          have cn := HN15.out.cell 0 _ rfl
          have c3 := HFe.out.b3.cell 0 _ rfl
          by_cases hnn : nn = D.length
          · have q1 : ((nn : Int) == (D.length : Int)) = true := by simp [hnn]
            clear hnn
            gi_wp2_with fail
            clear c12 cw cn c3
            refine ⟨trivial, (callsIn_wide.2 (awake_any _)).mono ?_⟩
            rintro e Wz ⟨rfl, hb⟩
            replace HFe : Hid (AskF w b3 b4 b9 B1 stop D (.slice aw D.length cu) (.slice ae D.length ce) Wz) := HFe.out.below hb
            replace HDe2 : Hid (Wz.heap[De]? = some (.deferred (some []))) := (hb.block _ (row_lt HDe2.out)).trans HDe2.out
            replace HDe1 : Hid (Wz.heap[Dd]? = some (.deferred (some []))) := (hb.block _ (row_lt HDe1.out)).trans HDe1.out
            clear hb
            have c4 := HFe.out.b4.cell 0 _ rfl
            have f4 := HFe.out.b4.free 0
            have HEn := hide9 (two_marks HFe.out.b4 HFe.out.bel HDe1.out HDe2.out (by have := HLo2.out; have := HDe.out; omega) HG6.out.2 (by have := HLo2.out; have := HF1.out.bel.size; omega))
            gi_wp2
            obtain ⟨k1, k2, k3, k4⟩ := HEn.out
            refine ⟨by simp, .inl ⟨_, _, rfl, run_takeDeferred k1, ?_⟩⟩
            refine ⟨by simp, .inl ⟨_, _, rfl, run_takeDeferred k2, ?_⟩⟩
            exact ⟨_, results_boolCell rfl _ _ _ true rfl k3, rfl, k4⟩
          · have q1 : ((nn : Int) == (D.length : Int)) = false := by (simp; omega)
            have q2 : ((nn : Int) == stop) = true := by simpa using HNN.out.2.resolve_left hnn
            clear hnn
            gi_wp2_with fail
            clear c12 cw cn c3
            refine ⟨trivial, (callsIn_wide.2 (awake_any _)).mono ?_⟩
            rintro e Wz ⟨rfl, hb⟩
            replace HFe : Hid (AskF w b3 b4 b9 B1 stop D (.slice aw D.length cu) (.slice ae D.length ce) Wz) := HFe.out.below hb
            replace HDe2 : Hid (Wz.heap[De]? = some (.deferred (some []))) := (hb.block _ (row_lt HDe2.out)).trans HDe2.out
            replace HDe1 : Hid (Wz.heap[Dd]? = some (.deferred (some []))) := (hb.block _ (row_lt HDe1.out)).trans HDe1.out
            clear hb
            have c4 := HFe.out.b4.cell 0 _ rfl
            have f4 := HFe.out.b4.free 0
            have HEn := hide9 (two_marks HFe.out.b4 HFe.out.bel HDe1.out HDe2.out (by have := HLo2.out; have := HDe.out; omega) HG6.out.2 (by have := HLo2.out; have := HF1.out.bel.size; omega))
            gi_wp2
            obtain ⟨k1, k2, k3, k4⟩ := HEn.out
            refine ⟨by simp, .inl ⟨_, _, rfl, run_takeDeferred k1, ?_⟩⟩
            refine ⟨by simp, .inl ⟨_, _, rfl, run_takeDeferred k2, ?_⟩⟩
            exact ⟨_, results_boolCell rfl _ _ _ true rfl k3, rfl, k4⟩
        case stop2 => rintro D c k W hD hk hf; exact hf.elim

theorem bagsWays_walk (v : Value) (l : List Ac) (stop : Int) (w : World) (h : IsA w v l) {P : Prop} (hP : P) :
    Calls Try.prog 4 #[v, .int .i64 stop] w fun e w' => e = .returned (.bool true) ∧ Below w.heap.size w w' :=
  callsIn_wide.1 (bagsWays_in 9 (Nat.le_refl _) v l stop w h)

end Go.Proofs.Ythhbnebalnikeaa
