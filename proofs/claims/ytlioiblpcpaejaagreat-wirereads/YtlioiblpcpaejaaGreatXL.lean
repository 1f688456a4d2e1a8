/- What the iterator of a frame's changes does. -/
import Derived.RangeFuncNested
import Derived.RangeFuncBound
import Derived.RangeFuncCalls
import Derived.RangeFuncLeaves
import Derived.Shelf.Abstract
import Derived.Shelf.RegionOpen
import Derived.WalkKit
import Derived.OwnWalkIn
import Derived.TacticsInMore
import Derived.LoopNIn
import Derived.LoopIn
import Derived.Sort.QuietIn
import Derived.Lib.ConvBytes
import Derived.Test.YtlioiblpcpaejaaGreatXI
import Derived.Test.YtlioiblpcpaejaaGreatXE
import Derived.Test.YtlioiblpcpaejaaGreatXH
import Derived.WalkMore
import Derived.Scope
namespace Go.Proofs.YtlioiblpcpaejaaGreat
open Go.RowKit Go.Shelf
set_option linter.unusedVariables false
set_option linter.unusedSimpArgs false

attribute [local go_sem] Oper.semAt_some

theorem below_bytes (w : World) (e : TypeId) (s : ByteArray) : Below w.heap.size w (Lib.bytesWorld w e s) :=
  ⟨rfl, rfl, rfl, by rw [Lib.bytesWorld_size]; omega, fun j hj => Lib.bytesWorld_at_old w e s j hj⟩
theorem isB_bytes (w : World) (t : List UInt8) (cap : Nat) (hc : t.length ≤ cap) (hl : t.length ≤ 281474976710656) : IsB (Lib.bytesWorld w 5 (txt t)) (.slice (some ⟨w.heap.size, 0, none⟩) (txt t).size cap) t := by
  refine ⟨_, cap, rfl, hc, hl, .inr ⟨w.heap.size, 0, rfl, fun i hi => ?_⟩⟩
  rw [Nat.zero_add, Lib.bytesWorld_cell w _ (txt t) i hi]
  simp [txt, hi]
theorem rdT_err {p : List UInt8} {k : Nat} {y m : Int} (h : (rdT p k y m).2.2 ≠ 0) : (rdT p k y m).1 = [] := by
  revert h
  unfold rdT cntL
  split
  · cases numL (p.drop k) with
    | none => simp
    | some x =>
      obtain ⟨n, s⟩ := x
      simp only
      split
      · simp
      · simp only [if_pos]
        split
        · simp
        · simp
  · simp
theorem many_stuck {α : Type} {f : Rdr α} (hf : ∀ p k y, y ≠ 0 → (f p k y).2.2 ≠ 0) {i m : Nat} (hm : i ≤ m) {p : List UInt8} {k : Nat} {y : Int} (h : (manyOf f i p k y).2.2 ≠ 0) : (manyOf f m p k y).2.2 ≠ 0 := by
  induction m with
  | zero => obtain rfl : i = 0 := by omega
            exact h
  | succ m ih =>
    rcases Nat.lt_or_ge i (m + 1) with h1 | h1
    · exact hf _ _ _ (ih (by omega))
    · obtain rfl : i = m + 1 := by omega
      exact h
theorem rdC_pos {p : List UInt8} {k : Nat} {y m : Int} (h : (rdC p k y m).1 ≠ 0) : (rdC p k y m).2.2 = 0 := by
  revert h
  unfold rdC
  split
  · generalize cntL (p.drop k) m = r
    obtain ⟨a, b, c⟩ := r
    simp only
    split
    · intro _; rfl
    · simp
  · simp

set_option maxRecDepth 100000 in
set_option maxHeartbeats 4000000 in
theorem changes1_in (n : Nat) (hn : 2 ≤ n) (l br g N : Nat) (L : Nat → Prop) (p : List UInt8) (k : Nat) (y : Int) (J : List (Ch × Value) → World → Prop) (Jx : World → Prop) (W : World)
    (hJ : ∀ D A B row, J D A → A.grownBy B row → (∀ r, row = some r → r = g) → J D B)
    (hbr : ∀ D A, J D A → A.cell? ⟨br, 0, none⟩ = some (.pointer (some ⟨g, 0, none⟩)) ∧ N ≤ A.heap.size)
    (hY : ∀ D W1 k y c dv e, J D W1 → RdIs L W1 g p k y → OwnI N W1 dv c.deps → Sized c → D.length < 64 → YieldAt Fence.wide (n - 1) Tryz.prog l #[.agg (chCells c dv).toArray, .int .i64 e] W1 fun en W' =>
      (e = 0 ∧ en = .returned (.bool true) ∧ J (D ++ [(c, dv)]) W' ∧ RdIs L W' g p k y) ∨ (e ≠ 0 ∧ en = .returned (.bool false) ∧ Jx W' ∧ RdIs L W' g p k y))
    (hr : RdIs L W g p k y) (h0 : J [] W) :
    CallsIn Fence.wide n Tryz.prog 61 #[.func (.yield l) #[] #[], .pointer (some ⟨br, 0, none⟩)] W fun e W' => (∃ v, e = .returned v) ∧
      ((∃ D k' y', chsR 65536 p k y = (D.map Prod.fst, k', y') ∧ J D W' ∧ RdIs L W' g p k' y') ∨ ((chsR 65536 p k y).2.2 ≠ 0 ∧ Jx W' ∧ ∃ k' y', RdIs L W' g p k' y')) := by
  obtain ⟨⟨n1, k1, y1⟩, e1⟩ : ∃ r, rdC p k y 64 = r := ⟨_, rfl⟩
  have hn1 : 0 ≤ n1 ∧ n1 ≤ 64 := by have := rdC_nat p k y 64; rw [e1] at this; simp only at this; omega
  obtain ⟨m, rfl⟩ : ∃ m : Nat, n1 = (m : Int) := ⟨n1.toNat, by omega⟩
  have hm : m ≤ 64 := by omega
  have hy1 : Hid (0 < m → y1 = 0) := fun h => by
    have := rdC_pos (p := p) (k := k) (y := y) (m := 64) (by rw [e1]; simp only; omega)
    rw [e1] at this
    exact this
  have ES : Hid (chsR 65536 p k y = manyOf (chR 65536) m p k1 y1) := by show _ = _; unfold chsR countOf; rw [e1]; simp
  have C1 : Hid (∀ W, RdIs L W g p k y → Calls Tryz.prog 12 #[.pointer (some ⟨g, 0, none⟩), .int .i64 64] W fun e w' => e = .returned (.int .i64 (m : Int)) ∧ RdIs L w' g p k1 y1 ∧ W.grownBy w' (some g)) := fun W hW => by
    have := count_rd L g p k y 64 W hW; rw [e1] at this; exact this
  have HR : Hid (RdIs L W g p k y) := hr
  have H0 : Hid (J [] W) := h0
  have HJ : Hid (∀ D A B row, J D A → A.grownBy B row → (∀ r, row = some r → r = g) → J D B) := hJ
  have HBR : Hid (∀ D A, J D A → A.cell? ⟨br, 0, none⟩ = some (.pointer (some ⟨g, 0, none⟩)) ∧ N ≤ A.heap.size) := hbr
  have x0 := (hbr [] W h0).1
  clear hr h0 hJ hbr e1 hn1
  refine callsIn_of_wp Tryz.func61 rfl trivial ?_ rfl
  simp only [Tryz.ntmps61, List.size_toArray, List.length_cons, List.length_nil, Nat.reduceAdd, Nat.reduceSub, Array.replicate_succ, Array.replicate_zero, List.push_toArray, List.append_toArray, List.nil_append, List.cons_append]
  gi_wp2
  refine ⟨trivial, fun _ => by omega, (callsIn_wide.2 (C1.out _ HR.out)).mono ?_⟩
  rintro e w1 ⟨rfl, r1, g1⟩
  have H1 : Hid (∃ D kk yy, manyOf (chR 65536) 0 p k1 y1 = (D.map Prod.fst, kk, yy) ∧ J D w1 ∧ RdIs L w1 g p kk yy ∧ (0 < m → yy = 0)) := ⟨[], k1, y1, rfl, HJ.out _ _ _ _ H0.out g1 (fun r e => by injection e with e; exact e.symm), r1, hy1.out⟩
  clear r1 g1 HR H0 x0 C1 hy1
  gi_wp2
  gi_loopw [5] (fun i wr => ∃ j : Nat, j ≤ m ∧ i = .int .i64 (j : Int) ∧ Hid (∃ D kk yy, manyOf (chR 65536) j p k1 y1 = (D.map Prod.fst, kk, yy) ∧ J D wr ∧ RdIs L wr g p kk yy ∧ (0 < m → yy = 0)))
    (fun i _ => m - (intOf i).toNat)
  case atStart => exact ⟨0, Nat.zero_le _, rfl, H1⟩
  case round =>
    obtain ⟨j, hj, rfl, HS⟩ := hrel
    obtain ⟨D, kk, yy, eD, hJD, hR, hyy⟩ := HS.out
    clear HS
    by_cases hlt : j < m
    · obtain rfl : yy = 0 := hyy (by omega)
      have j1 : (j : Int) < (m : Int) := by omega
      obtain ⟨⟨t, k2, y2⟩, e2⟩ : ∃ r, rdT p kk 0 65536 = r := ⟨_, rfl⟩
      obtain ⟨⟨c, ee⟩, e3⟩ : ∃ r, getF t = r := ⟨_, rfl⟩
      have htl : t.length ≤ 65536 := by have := rdT_len p kk 0 65536 (by decide); rw [e2] at this; simp only at this; omega
      have hDl : D.length = j := by have := manyOf_len (chR 65536) j p k1 y1; rw [eD] at this; simpa using this
      have HSZ : Hid (Sized c) := by have := getF_sized t; rw [e3] at this; exact this
      have HOK : Hid (ee = 0 → manyOf (chR 65536) (j + 1) p k1 y1 = ((D.map Prod.fst) ++ [c], k2, 0)) := fun h => by
        have hy2 : y2 = 0 := by
          by_cases hy : y2 = 0
          · exact hy
          · have h1 := rdT_err (p := p) (k := kk) (y := 0) (m := 65536) (by rw [e2]; exact hy)
            rw [e2] at h1
            simp only at h1
            rw [h1, getF_nil] at e3
            injection e3 with _ e4
            omega
        have hc : chR 65536 p kk 0 = (c, k2, 0) := by unfold chR; rw [e2, e3]; simp [hy2, h]
        exact manyOf_succ _ _ _ _ _ eD hc
      have HY2 : Hid (ee = 0 → y2 = 0) := fun h => by
        by_cases hy : y2 = 0
        · exact hy
        · have h1 := rdT_err (p := p) (k := kk) (y := 0) (m := 65536) (by rw [e2]; exact hy)
          rw [e2] at h1
          simp only at h1
          rw [h1, getF_nil] at e3
          injection e3 with _ e4
          omega
      have HNO : Hid (ee ≠ 0 → (chsR 65536 p k y).2.2 ≠ 0) := fun h => by
        have hc : (chR 65536 p kk 0).2.2 ≠ 0 := by
          unfold chR; rw [e2, e3]
          by_cases hy : y2 = 0
          · simp [hy, h]
          · simp [hy]
        rw [ES.out]
        refine many_stuck (chR_strict 65536 (by decide) (by decide)).stuck (i := j + 1) (by omega) ?_
        rw [manyOf_succ (chR 65536) j p k1 y1 eD (Prod.ext rfl rfl : chR 65536 p kk 0 = ((chR 65536 p kk 0).1, (chR 65536 p kk 0).2))]
        exact hc
      have C2 : Hid (∀ W, RdIs L W g p kk 0 → Calls Tryz.prog 63 #[.pointer (some ⟨g, 0, none⟩), .int .i64 65536] W fun e w' => e = .returned (.string (txt t)) ∧ RdIs L w' g p k2 y2 ∧ W.grownBy w' (some g)) := fun W hW => by
        have := text_rd L g p kk 0 65536 W hW; rw [e2] at this; exact this
      have C3 : Hid (∀ W v, IsB W v t → Calls Tryz.prog 62 #[v] W fun e w' => GotCh c ee W e w') := fun W v hv => by
        have := get_any v t W hv (by omega); rw [e3] at this; exact this
      have HD : Hid (J D wr) := hJD
      have HR : Hid (RdIs L wr g p kk 0) := hR
      have x0 := (HBR.out D wr hJD).1
      clear e2 e3 eD hJD hR hyy
      gi_wp2
      refine ⟨trivial, fun _ => by omega, (callsIn_wide.2 (C2.out _ HR.out)).mono ?_⟩
      rintro e w2 ⟨rfl, r2, g2⟩
      have HD2 : Hid (J D w2) := HJ.out _ _ _ _ HD.out g2 (fun r e => by injection e with e; exact e.symm)
      have HR2 : Hid (RdIs L w2 g p k2 y2) := r2
      clear r2 g2 HD HR x0 C2
      have cv := Lib.run_convert_string_bytes (P := Tryz.prog) w2 9 22 5 (txt t) Tryz.underlying9 Tryz.underlying22 Tryz.underlying5
      have hcap : t.length ≤ grownCap w2 (txt t).size 0 5 := grownCap_ge w2 (txt t).size 0 5
      have BC : Hid (Below w2.heap.size w2 (Lib.bytesWorld w2 5 (txt t))) := below_bytes w2 _ _
      have IB : Hid (IsB (Lib.bytesWorld w2 5 (txt t)) (.slice (some ⟨w2.heap.size, 0, none⟩) (txt t).size (grownCap w2 (txt t).size 0 5)) t) := isB_bytes w2 t _ hcap (by omega)
      clear hcap
      gi_wp2
      refine ⟨trivial, fun _ => by omega, (callsIn_wide.2 (C3.out _ _ IB.out)).mono ?_⟩
      rintro e w3 ⟨dv, rfl, o3, hb3⟩
      have hz2 := (HBR.out D w2 HD2.out).2
      have BB : Hid (Below w2.heap.size w2 w3) := BC.out.trans (hb3.mono BC.out.size)
      have HD3 : Hid (J D w3) := HJ.out _ _ _ none HD2.out (grownBy.ofBelow BB.out _) (by simp)
      have HR3 : Hid (RdIs L w3 g p k2 y2) := HR2.out.below BB.out
      have o4 : OwnI N w3 dv c.deps := o3.cut (by have := BC.out.size; omega)
      obtain ⟨fn, tmps, assign, body, hy, hRd⟩ := hY D w3 k2 y2 c dv ee HD3.out HR3.out o4 HSZ.out (by omega)
      clear o3 o4 hb3 BB BC IB cv HD2 HR2 HD3 HR3 C3 hz2
      gi_wp2
      refine ⟨fun _ => by omega, hRd.mono ?_⟩
      clear hRd hy
      rintro e W3 (⟨he, rfl, hJ3, hR3⟩ | ⟨he, rfl, hJx3, hR3⟩)
      · have HN : Hid (∃ D kk yy, manyOf (chR 65536) (j + 1) p k1 y1 = (D.map Prod.fst, kk, yy) ∧ J D W3 ∧ RdIs L W3 g p kk yy ∧ (0 < m → yy = 0)) := by
          have h0 := HOK.out he
          refine ⟨D ++ [(c, dv)], k2, 0, by rw [h0]; simp, hJ3, ?_, fun _ => rfl⟩
          rw [HY2.out he] at hR3
          exact hR3
        clear hJ3 hR3 he
        gi_wp2
        go_roundw
        case rel => exact ⟨j + 1, by omega, by go_num, HN⟩
        case measure => simp [intOf]; omega
      · have HX : Hid ((chsR 65536 p k y).2.2 ≠ 0 ∧ Jx W3 ∧ ∃ k' y', RdIs L W3 g p k' y') := ⟨HNO.out he, hJx3, _, _, hR3⟩
        clear hJx3 hR3 he
        gi_wp2
        refine bodyPost_ret (results_none rfl _ _ _) rfl ?_
        exact ⟨⟨_, rfl⟩, .inr HX.out⟩
    · obtain rfl : j = m := by omega
      have HE : Hid (∃ D k' y', chsR 65536 p k y = (D.map Prod.fst, k', y') ∧ J D wr ∧ RdIs L wr g p k' y') := ⟨D, kk, yy, by rw [ES.out, eD], hJD, hR⟩
      clear eD hJD hR hyy
      gi_wp2
      go_end0
      exact ⟨⟨_, rfl⟩, .inl HE.out⟩

end Go.Proofs.YtlioiblpcpaejaaGreat

namespace Go.Proofs.YtlioiblpcpaejaaGreat
open Go.RowKit Go.Shelf
set_option linter.unusedVariables false
set_option linter.unusedSimpArgs false

attribute [local go_sem] Oper.semAt_some

theorem wpIn_scope_wide {n : Nat} {P : Program} {c : Code} {Q : Exit → Act → World → Prop} {a : Act} {w : World} (h : c.wpIn Fence.wide n P (Exit.noGoto Q) a w) : (Code.scope c).wpIn Fence.wide n P Q a w := wpIn_wide.2 (wp_scope_straight (wpIn_wide.1 h))

/-- A range over a function, by the call of that function alone. -/
theorem wpIn_range_with {n : Nat} {P : Program} {g : Operand} {ps : Array Tmp} {assign body : Code} {Q : Exit → Act → World → Prop} {a : Act} {w : World} (hn : 1 ≤ n) {gf : Nat} {lb : Array Value} (hg : a.eval g = .func (.func gf) #[] lb) (eg : ∀ args w, (callFunc gf args).run P w = .ok (.enter gf args) w)
    (h : ∀ (fn : FuncId) (rec : LoopState → Option Code → Loop), (∀ st pe, rec st pe = { state := st, pending := pe, fn := fn, tmps := a.tmps, params := ps, assign := assign, body := body, defers := w.heap.size }) →
      CallsIn Fence.wide (n - 1) P gf (#[.func (.yield (w.heap.size + 1)) #[] #[]] ++ lb) ((w.alloc (.deferred (some []))).alloc (.loop (rec .ready none))) fun e W' => (∃ v, e = .returned v) ∧
        ((W'.heap[w.heap.size + 1]? = some (.loop (rec .ready none)) ∧ Q .normal { a with defers := { target := .collected w.heap.size, args := #[] } :: a.defers } (W'.putObj (w.heap.size + 1) (.loop { rec .ready none with state := .exhausted }))) ∨
         (∃ c, W'.heap[w.heap.size + 1]? = some (.loop (rec .done (some c))) ∧ c.wpIn Fence.wide n P Q { a with defers := { target := .collected w.heap.size, args := #[] } :: a.defers } (W'.putObj (w.heap.size + 1) (.loop { rec .done (some c) with state := .exhausted }))))) :
    (Code.rangeFunc g ps assign body).wpIn Fence.wide n P Q a w := by
  refine wpIn_rangeFunc ?_
  intro fn hfn
  obtain ⟨W1, hW1⟩ : ∃ W1, (w.alloc (.deferred (some []))).alloc (.loop { state := .ready, pending := none, fn := fn, tmps := a.tmps, params := ps, assign := assign, body := body, defers := w.heap.size }) = W1 := ⟨_, rfl⟩
  refine ⟨w.heap.size + 1, [{ target := .collected w.heap.size, args := #[] }], W1, { target := .fn (.func gf) lb, args := #[.func (.yield (w.heap.size + 1)) #[] #[]] }, W1, gf, #[.func (.yield (w.heap.size + 1)) #[] #[]] ++ lb, W1, ?_, ?_, fun _ _ => trivial, ?_, fun _ => hn, ?_⟩
  · rw [← hW1]; exact run_enterLoop_outer _ _ _ _ _
  · simp only [resolve, hg]
    simp [go_sem]
  · simp [invoke, go_sem, eg]
  · rw [← hW1]
    refine (h fn (fun st pe => { state := st, pending := pe, fn := fn, tmps := a.tmps, params := ps, assign := assign, body := body, defers := w.heap.size }) (fun _ _ => rfl)).mono ?_
    rintro e W2 ⟨⟨v, rfl⟩, (⟨hl, hq⟩ | ⟨c, hl, hq⟩)⟩
    · exact ⟨none, _, run_endLoop hl (by simp), hq⟩
    · exact ⟨some c, _, run_endLoop hl (by simp), hq⟩
/-- How a round's body may be left here: off its end, or by an exit. -/
def endsAt (l : Nat) (rec : LoopState → Option Code → Loop) (R : Ending → World → Prop) : Exit → Act → World → Prop
  | .normal, _, W => W.heap[l]? = some (.loop { rec .ready none with state := .busy }) ∧ R (.returned (.bool true)) (W.putObj l (.loop (rec .ready none)))
  | .exit id, _, W => W.heap[l]? = some (.loop { rec .ready none with state := .busy }) ∧ R (.returned (.bool false)) (W.putObj l (.loop (rec .done (some (.exit id)))))
  | _, _, _ => False
/-- A round, out of the walks of what it assigns and of its body. -/
theorem yield_round {m : Nat} {P : Program} {l : Nat} {rec : LoopState → Option Code → Loop} {fn : FuncId} {tmps : Array Value} {ps : Array Tmp} {assign body : Code} {D : Nat} (hrec : ∀ st pe, rec st pe = { state := st, pending := pe, fn := fn, tmps := tmps, params := ps, assign := assign, body := body, defers := D })
    {W : World} {args : Array Value} {R : Ending → World → Prop} (hl : W.heap[l]? = some (.loop (rec .ready none))) (hs : args.size = ps.size)
    (h : assign.wpIn (Fence.wide.inRound l) m P (Exit.then (fun a₁ w₁ => w₁.heap[l]? = some (.loop (rec .ready none)) ∧ body.wpIn (Fence.wide.inRound l) m P (endsAt l rec R) a₁ (w₁.putObj l (.loop { rec .ready none with state := .busy }))) (fun _ _ _ => False))
      { tmps := (ps.zip args).foldl (fun t (p, v) => t.setIfInBounds p v) tmps, defers := [] } W) : YieldAt Fence.wide m P l args W R := by
  have hy := run_yield (P := P) (args := args) hl (by rw [hrec]; exact hs)
  rw [hrec] at hy
  refine ⟨fn, _, assign, body, hy, roundIn_of_wpIn trivial (wpIn_mono h ?_)⟩
  intro e a1 w1 hq
  cases e with
  | normal =>
    obtain ⟨h1, h2⟩ := hq
    refine ⟨_, run_beginRound h1 (by rw [hrec]), wpIn_mono h2 ?_⟩
    intro e a3 W3 hp
    cases e with
    | normal =>
      obtain ⟨h3, h4⟩ := hp
      have := run_endRound (P := P) none h3
      refine ⟨_, _, this, ?_⟩
      have e2 : ({ { rec .ready none with state := .busy } with state := if (none : Option Code).isNone then .ready else .done, pending := none } : Loop) = rec .ready none := by simp [hrec]
      rw [e2]
      exact h4
    | exit id =>
      obtain ⟨h3, h4⟩ := hp
      have := run_endRound (P := P) (some (.exit id)) h3
      refine ⟨_, _, this, ?_⟩
      have e2 : ({ { rec .ready none with state := .busy } with state := if (some (Code.exit id)).isNone then .ready else .done, pending := some (.exit id) } : Loop) = rec .done (some (.exit id)) := by simp [hrec]
      rw [e2]
      exact h4
    | ret => exact hp.elim
    | goto t => exact hp.elim
    | panic ch => exact hp.elim
    | outgrown => exact hp.elim
  | exit id => exact hq.elim
  | ret => exact hq.elim
  | goto t => exact hq.elim
  | panic ch => exact hq.elim
  | outgrown => exact hq.elim

theorem changes_any (g : Nat) (w : World) :
    Calls Tryz.prog 32 #[.pointer (some ⟨g, 0, none⟩)] w fun e w' => e = .returned (.func (.func 61) #[] #[.pointer (some ⟨w.heap.size, 0, none⟩)]) ∧ w' = w.alloc (.cells #[.pointer (some ⟨g, 0, none⟩)] 35) := by
  go_enter Tryz.func32, Tryz.ntmps32
  go_wp2
  go_ret
  exact ⟨rfl, rfl⟩

-- READCHANGES

theorem wpListIn_store_new {F : Fence} {n : Nat} {P : Program} {ops : Array Oper} {rest : List Oper} {op : Oper} {a : Act} {w : World} {Q : Exit → Act → World → Prop} (hgd : op.guard = none) (ty : TypeId) (x y : Operand) (ho : op.op = .store ty x y)
    (c c' : Array Value) (hx : a.eval x = .pointer (some ⟨w.heap.size, 0, none⟩)) (hy : a.eval y = .agg c')
    (hi : (P.info? ty).map (·.size) = some c'.size) (hs : c.size = c'.size) (h1 : c'.all (·.oneCell') = true)
    (h : wpListIn F n P ops Q rest (a.put op.dst undef) (w.alloc (.cells c' ty))) : wpListIn F n P ops Q (op :: rest) a (w.alloc (.cells c ty)) := by
  refine wpListIn_plain hgd fun K hK => ?_
  unfold Oper.wpIn
  refine ⟨?_, ?_⟩
  · simp [Oper.about, ho]
  · rw [Oper.semAt_plain F _ _ (by rw [ho]; intro c hc'; cases hc')]
    unfold execOp
    simp only [ho, hx, hy, Sem.run_bind, run_storeAt_new w ty c c' hi hs h1, Result.andThen_ok, Sem.run_pure]
    exact hK _ _ h
theorem wpListIn_load_row {F : Fence} {n : Nat} {P : Program} {ops : Array Oper} {rest : List Oper} {op : Oper} {a : Act} {w : World} {Q : Exit → Act → World → Prop} (hgd : op.guard = none) (ty : TypeId) (x : Operand) (ho : op.op = .load ty x)
    (b : Nat) (t : TypeId) (cs : Array Value) (d : TypeDesc) (hx : a.eval x = .pointer (some ⟨b, 0, none⟩)) (hr : w.heap[b]? = some (.cells cs t))
    (hu : P.underlying ty = some d) (hd : (match d with | .struct _ | .array _ _ => true | _ => false) = true) (hi : (P.info? ty).map (·.size) = some cs.size)
    (h : wpListIn F n P ops Q rest (a.put op.dst (.agg cs)) w) : wpListIn F n P ops Q (op :: rest) a w := by
  refine wpListIn_plain hgd fun K hK => ?_
  unfold Oper.wpIn
  refine ⟨?_, ?_⟩
  · simp [Oper.about, ho]
  · rw [Oper.semAt_plain F _ _ (by rw [ho]; intro c hc'; cases hc')]
    unfold execOp
    simp only [ho, hx, Instr.loadAt, Instr.sureAddr, Sem.run_bind, Sem.run_pure, Result.andThen_ok, run_loadVar_row w b t ty cs _ d hr hu hd hi]
    exact hK _ _ h

theorem OwnH.grown {B : Nat} {w w' : World} {v : Value} {D : List (Ch × Value)} {r : Option Nat} (h : OwnH B w v D) (hb : w.grownBy w' r) (hr : ∀ j, r = some j → j < B) : OwnH B w' v D := by
  refine ⟨h.1, ?_⟩
  rcases h.2 with hn | ⟨g, cap, cur, hv, hg, hc, rest⟩
  · exact .inl hn
  · refine .inr ⟨g, cap, cur, hv, hg, ?_, rest⟩
    rw [hb.block g (Array.getElem?_eq_some_iff.1 hc).1 (fun e => by have := hr g e.symm; omega)]
    exact hc
theorem OwnH.block {B : Nat} {w : World} {v : Value} {D : List (Ch × Value)} (h : OwnH B w v D) : ∀ k, v.ownBlock = some k → B ≤ k := fun k e => (World.ownsRow.lt h k e).1
theorem OwnH.cut {B B' : Nat} {w : World} {v : Value} {D : List (Ch × Value)} (h : OwnH B w v D) (hB : B' ≤ B) : OwnH B' w v D := by
  refine ⟨h.1, ?_⟩
  rcases h.2 with hn | ⟨g, cap, cur, hv, hg, rest⟩
  · exact .inl hn
  · exact .inr ⟨g, cap, cur, hv, by omega, rest⟩
theorem OwnI.beside {N M : Nat} {W W' : World} {x v : Value} {d : List Int} {D : List (Ch × Value)} (h : OwnI N W x d) (hv : OwnH M W v D) (hg : W.grownBy W' v.ownBlock) : OwnI N W' x d := by
  refine ⟨h.1, ?_⟩
  rcases h.2 with hn | ⟨q, cap, cur, hx, hq, hc, rest⟩
  · exact .inl hn
  · refine .inr ⟨q, cap, cur, hx, hq, ?_, rest⟩
    rw [hg.block q (Array.getElem?_eq_some_iff.1 hc).1 (fun e => ?_)]
    · exact hc
    · rcases hv.2 with ⟨rfl, _⟩ | ⟨q2, cap2, cur2, rfl, _, hc2, _⟩
      · simp [Value.ownBlock] at e
      · have e2 : q = q2 := by simpa [Value.ownBlock] using e
        subst e2
        rw [hc] at hc2
        simp at hc2
/-- What lies where while a frame's changes are read. -/
def CS (w : World) (g : Nat) (D : List (Ch × Value)) (ee : Int) (W : World) : Prop :=
  (∃ v, Boxed W w.heap.size 24 v ∧ OwnH (w.heap.size + 5) W v D) ∧ Boxed W (w.heap.size + 1) 27 (.int .i64 ee) ∧ Boxed W (w.heap.size + 2) 35 (.pointer (some ⟨g, 0, none⟩)) ∧ W.heap[w.heap.size + 3]? = some (.deferred (some [])) ∧ (∀ x ∈ D, OwnI (w.heap.size + 5) W x.2 x.1.deps ∧ Sized x.1) ∧ w.grownBy W (some g) ∧ w.heap.size + 5 ≤ W.heap.size ∧ D.length ≤ 64 ∧ g < w.heap.size
theorem CS.kept {w : World} {g : Nat} {D : List (Ch × Value)} {ee : Int} {W W' : World} (h : CS w g D ee W) {row : Option Nat} (hg : W.grownBy W' row) (hr : ∀ r, row = some r → r = g ∨ r = w.heap.size + 4) : CS w g D ee W' := by
  obtain ⟨⟨v, h1, h2⟩, h3, h4, h5, h6, h7, h8, h9, h10⟩ := h
  have hN : ∀ j, row = some j → j < w.heap.size + 5 := fun j e => by have := hr j e; omega
  have hne : ∀ q, q = w.heap.size ∨ q = w.heap.size + 1 ∨ q = w.heap.size + 2 ∨ q = w.heap.size + 3 → some q ≠ row := fun q hq e => by have := hr q e.symm; omega
  refine ⟨⟨v, h1.kept hg (hne _ (by omega)), h2.grown hg hN⟩, h3.kept hg (hne _ (by omega)), h4.kept hg (hne _ (by omega)), (hg.block _ (Array.getElem?_eq_some_iff.1 h5).1 (hne _ (by omega))).trans h5, fun x hx => ⟨(h6 x hx).1.grown hg hN, (h6 x hx).2⟩, ?_, Nat.le_trans h8 hg.size, h9, h10⟩
  refine ⟨hg.os.trans h7.os, hg.tape.trans h7.tape, hg.output.trans h7.output, Nat.le_trans h7.size hg.size, fun j hj hjg => (hg.block j (Nat.lt_of_lt_of_le hj h7.size) (fun e => ?_)).trans (h7.block j hj hjg)⟩
  rcases hr j e.symm with h | h
  · exact hjg (by rw [h])
  · omega
theorem CS.push {w : World} {g : Nat} {D : List (Ch × Value)} {W W4 : World} (h : CS w g D 0 W) {o : Obj} {v : Value} (hv : Boxed W w.heap.size 24 v) (hown : OwnH (w.heap.size + 5) W v D) (hg : (W.alloc o).grownBy W4 v.ownBlock) {c : Ch} {dv : Value} (hO : OwnI (w.heap.size + 5) W dv c.deps) (hS : Sized c) (hl : D.length < 64)
    {v4 : Value} (h4 : W4.ownsRow (w.heap.size + 5) 57 13 v4 (D.length + 1) (flatH D ++ chCells c dv)) : CS w g (D ++ [(c, dv)]) 0 (W4.setCell ⟨w.heap.size, 0, none⟩ v4) := by
  have hB : Below W.heap.size W (W.alloc o) := (Below.refl _ _).alloc (Nat.le_refl _) _
  have hA := h.kept (grownBy.ofBelow hB none) (by simp)
  have hownA := hown.below hB
  have hOA := hO.below hB
  have hvA : Boxed (W.alloc o) w.heap.size 24 v := hv.alloc o
  have hrow : ∀ r, v.ownBlock = some r → w.heap.size + 5 ≤ r := hown.block
  have hne : ∀ q, q < w.heap.size + 5 → some q ≠ v.ownBlock := fun q hq e => by have := hrow q e.symm; omega
  obtain ⟨_, h3, h5, h6, h7, h8, h9, h10, h11⟩ := hA
  have hv4 : Boxed W4 w.heap.size 24 v := hvA.kept hg (hne _ (by omega))
  have hs : W4.grownBy (W4.setCell ⟨w.heap.size, 0, none⟩ v4) (some w.heap.size) := grownBy_setCell' W4 w.heap.size v4
  have hsN : ∀ j, some w.heap.size = some j → j < w.heap.size + 5 := fun j e => by injection e with e; omega
  refine ⟨⟨v4, hv4.set _, OwnH.grown (OwnH.snoc h4) hs hsN⟩, (h3.kept hg (hne _ (by omega))).kept hs (by simp), (h5.kept hg (hne _ (by omega))).kept hs (by simp), ?_, fun x hx => ?_, ?_, ?_, by simp; omega, h11⟩
  · have e1 := (hg.block _ (Array.getElem?_eq_some_iff.1 h6).1 (hne _ (by omega))).trans h6
    exact (hs.block _ (Array.getElem?_eq_some_iff.1 e1).1 (by simp)).trans e1
  · rcases List.mem_append.1 hx with hx | hx
    · exact ⟨((h7 x hx).1.beside hownA hg).grown hs hsN, (h7 x hx).2⟩
    · rw [List.mem_singleton.1 hx]
      exact ⟨(hOA.beside hownA hg).grown hs hsN, hS⟩
  · exact grownBy.own (grownBy.own h8 hg (fun j e => by have := hrow j e; omega)) hs (fun j e => by injection e with e; omega)
  · exact Nat.le_trans h9 (Nat.le_trans hg.size hs.size)
theorem CS.put {w : World} {g : Nat} {D : List (Ch × Value)} {ee : Int} {W : World} (h : CS w g D ee W) (o : Obj) : CS w g D ee (W.putObj (w.heap.size + 4) o) := h.kept (grownBy_putObj' W _ o) (fun r e => by injection e with e; omega)
theorem CS.more {w : World} {g : Nat} {D : List (Ch × Value)} {ee : Int} {W W' : World} (h : CS w g D ee W) (hb : Below W.heap.size W W') : CS w g D ee W' := h.kept (grownBy.ofBelow hb none) (by simp)
theorem CS.ends {w : World} {g : Nat} {D : List (Ch × Value)} {ee : Int} {W : World} {L : Nat → Prop} {p : List UInt8} {k : Nat} {y : Int} (h : CS w g D ee W) (hR : RdIs L W g p k y) (hL : ∀ j, L j → j < w.heap.size) {v : Value} (hv : OwnH (w.heap.size + 5) W v D) (m : Nat) (o : Obj) :
    OwnH w.heap.size ((W.drewN m).putObj (w.heap.size + 3) o) v D ∧ (∀ x ∈ D, OwnI w.heap.size ((W.drewN m).putObj (w.heap.size + 3) o) x.2 x.1.deps ∧ Sized x.1) ∧ D.length ≤ 64 ∧ w.grownBy ((W.drewN m).putObj (w.heap.size + 3) o) (some g) ∧ RdIs L ((W.drewN m).putObj (w.heap.size + 3) o) g p k y := by
  obtain ⟨_, h3, h4, h5, h6, h7, h8, h9, h10⟩ := h
  have g1 : W.grownBy (W.drewN m) none := ⟨rfl, rfl, rfl, Nat.le_refl _, fun _ _ _ => rfl⟩
  have g2 : (W.drewN m).grownBy ((W.drewN m).putObj (w.heap.size + 3) o) (some (w.heap.size + 3)) := grownBy_putObj' _ _ _
  have hN : ∀ j, some (w.heap.size + 3) = some j → j < w.heap.size + 5 := fun j e => by injection e with e; omega
  refine ⟨((hv.grown g1 (by simp)).grown g2 hN).cut (by omega), fun x hx => ⟨(((h6 x hx).1.grown g1 (by simp)).grown g2 hN).cut (by omega), (h6 x hx).2⟩, h9, grownBy.own (grownBy.own h7 g1 (by simp)) g2 (fun j e => by injection e with e; omega), (hR.grown g1 (by simp)).grown g2 (fun j e => by injection e with e; subst e; exact fun hh => by have := hL _ hh; omega)⟩
theorem rd_put {L : Nat → Prop} {w : World} {g : Nat} {p : List UInt8} {k : Nat} {y : Int} (h : RdIs L w g p k y) {l : Nat} (hl : ¬ L l) (o : Obj) : RdIs L (w.putObj l o) g p k y := h.grown (grownBy_putObj' w l o) (fun j e => by injection e with e; subst e; exact hl)

set_option maxRecDepth 100000 in
set_option maxHeartbeats 8000000 in
theorem readChanges_in (n : Nat) (hn : 4 ≤ n) (L : Nat → Prop) (g : Nat) (p : List UInt8) (k : Nat) (y : Int) (w : World) (h : RdIs L w g p k y) (hL : ∀ j, L j → j < w.heap.size) :
    CallsIn Fence.wide n Tryz.prog 14 #[.pointer (some ⟨g, 0, none⟩)] w fun e w' => ∃ v ee D, e = .returned (.tuple #[v, .int .i64 ee]) ∧ OwnH w.heap.size w' v D ∧ (∀ x ∈ D, OwnI w.heap.size w' x.2 x.1.deps ∧ Sized x.1) ∧ D.length ≤ 64 ∧ w.grownBy w' (some g) ∧ ∃ k' y', RdIs L w' g p k' y' ∧ ((ee = 0 ∧ chsR 65536 p k y = (D.map Prod.fst, k', y')) ∨ (ee ≠ 0 ∧ (chsR 65536 p k y).2.2 ≠ 0)) := by
  have hro : Fence.wide.round = none := rfl
  have h1n : 1 ≤ n := by omega
  have hgw := hL g h.low
  have HL : Hid (∀ j, L j → j < w.heap.size) := hL
  obtain ⟨W0, eW0⟩ : ∃ W0 : World, W0 = ((w.alloc (.cells #[.slice none 0 0] 24)).alloc (.cells #[.int .i64 0] 27)).alloc (.cells #[.pointer (some ⟨g, 0, none⟩)] 35) := ⟨_, rfl⟩
  have hz0 : W0.heap.size = w.heap.size + 3 := by rw [eW0]; simp
  have hB0 : Below w.heap.size w W0 := by rw [eW0]; exact (((Below.refl _ _).alloc (Nat.le_refl _) _).alloc (by simp) _).alloc (by simp; omega) _
  have b1 : Boxed W0 w.heap.size 24 (.slice none 0 0) := by rw [eW0]; exact ((Boxed.new w _ _).alloc _).alloc _
  have b2 : Boxed W0 (w.heap.size + 1) 27 (.int .i64 0) := by
    rw [eW0]
    have := (Boxed.new (w.alloc (.cells #[.slice none 0 0] 24)) 27 (.int .i64 0)).alloc (.cells #[.pointer (some ⟨g, 0, none⟩)] 35)
    simpa using this
  have b3 : Boxed W0 (w.heap.size + 2) 35 (.pointer (some ⟨g, 0, none⟩)) := by
    rw [eW0]
    have := Boxed.new ((w.alloc (.cells #[.slice none 0 0] 24)).alloc (.cells #[.int .i64 0] 27)) 35 (.pointer (some ⟨g, 0, none⟩))
    simpa using this
  have R0 : Hid (RdIs L W0 g p k y) := h.below hB0
  have HB0 : Hid (Below w.heap.size w W0 ∧ Boxed W0 w.heap.size 24 (.slice none 0 0) ∧ Boxed W0 (w.heap.size + 1) 27 (.int .i64 0) ∧ Boxed W0 (w.heap.size + 2) 35 (.pointer (some ⟨g, 0, none⟩)) ∧ W0.heap.size = w.heap.size + 3) := ⟨hB0, b1, b2, b3, hz0⟩
  have EW : Hid (((w.alloc (.cells #[.slice none 0 0] 24)).alloc (.cells #[.int .i64 0] 27)).alloc (.cells #[.pointer (some ⟨g, 0, none⟩)] 35) = W0) := eW0.symm
  obtain ⟨i0, hi, hy0, hy1, hy2⟩ := info_parts infoChange
  have HI : Hid (Tryz.prog.info? 57 = some i0 ∧ i0.zero = some (.agg #[.int .i64 0, .int .i64 0, .int .i64 0, .slice none 0 0, .int .i64 0, .int .i64 0, .int .i64 0, .int .i64 0, .int .i64 0, .int .i64 0, .int .i64 0, .string ⟨#[]⟩, .string ⟨#[]⟩]) ∧ i0.size = 13 ∧ i0.bytes = 136) := ⟨hi, hy0, hy1, hy2⟩
  clear h hL hz0 hB0 b1 b2 b3 eW0 hi hy0 hy1 hy2
  refine callsIn_of_wp_marks Tryz.func14 rfl trivial ?_ hro
  simp only [Tryz.ntmps14, List.size_toArray, List.length_cons, List.length_nil, Nat.reduceAdd, Nat.reduceSub, Array.replicate_succ, Array.replicate_zero, List.push_toArray, List.append_toArray, List.nil_append, List.cons_append]
  gi_wp2
  refine wpIn_scope_wide ?_
  gi_wp2
  refine wpIn_label ?_
  gi_wp2
  refine ⟨trivial, (callsIn_wide.2 (changes_any _ _)).mono ?_⟩
  rintro e w2 ⟨rfl, rfl⟩
  gi_wp2
  rw [EW.out]
  refine wpIn_range_with h1n (gf := 61) (lb := #[.pointer (some ⟨w.heap.size + 1 + 1, 0, none⟩)]) rfl (enters_of Tryz.func61 (by kernel_rfl) rfl) ?_
  intro fn rec hrec
  have HREC : Hid (∀ st pe, rec st pe = _) := hrec
  clear hrec
  rw [HB0.out.2.2.2.2]
  have hD3 : CS w g [] 0 ((W0.alloc (.deferred (some []))).alloc (.loop (rec .ready none))) ∧ ((W0.alloc (.deferred (some []))).alloc (.loop (rec .ready none))).heap[w.heap.size + 4]? = some (.loop (rec .ready none)) ∧ RdIs L ((W0.alloc (.deferred (some []))).alloc (.loop (rec .ready none))) g p k y := by
    have hB : Below W0.heap.size W0 ((W0.alloc (.deferred (some []))).alloc (.loop (rec .ready none))) := ((Below.refl _ _).alloc (Nat.le_refl _) _).alloc (by simp) _
    obtain ⟨q1, q2, q3, q4, q5⟩ := HB0.out
    refine ⟨⟨⟨_, (q2.alloc _).alloc _, OwnH.nil0 _ _⟩, (q3.alloc _).alloc _, (q4.alloc _).alloc _, ?_, by simp, ?_, by simp; omega, by simp, hgw⟩, ?_, R0.out.below hB⟩
    · have h1 : (W0.alloc (.deferred (some []))).heap[w.heap.size + 3]? = some (.deferred (some [])) := by rw [← q5]; exact World.alloc_heap_new W0 _
      exact (Below.heap_alloc _ _ _ (by simp; omega)).trans h1
    · exact grownBy.ofBelow (q1.trans (hB.mono q1.size)) _
    · have h1 := World.alloc_heap_new (W0.alloc (.deferred (some []))) (.loop (rec .ready none))
      simp only [World.size_alloc, q5] at h1
      exact h1
  have hnl : ¬ L (w.heap.size + 4) := fun e => by have := HL.out _ e; omega
  have HH : Hid (CS w g [] 0 ((W0.alloc (.deferred (some []))).alloc (.loop (rec .ready none))) ∧ ((W0.alloc (.deferred (some []))).alloc (.loop (rec .ready none))).heap[w.heap.size + 4]? = some (.loop (rec .ready none)) ∧ RdIs L ((W0.alloc (.deferred (some []))).alloc (.loop (rec .ready none))) g p k y) := hD3
  have HNL : Hid (¬ L (w.heap.size + 4)) := hnl
  clear hD3 hnl R0 HB0
  generalize (W0.alloc (.deferred (some []))).alloc (.loop (rec .ready none)) = W1 at *
  have JK : Hid (∀ D A B row, (CS w g D 0 A ∧ A.heap[w.heap.size + 4]? = some (.loop (rec .ready none))) → A.grownBy B row → (∀ r, row = some r → r = g) → (CS w g D 0 B ∧ B.heap[w.heap.size + 4]? = some (.loop (rec .ready none)))) := fun D A B row hA hg hr => by
    refine ⟨hA.1.kept hg (fun r e => .inl (hr r e)), (hg.block _ (Array.getElem?_eq_some_iff.1 hA.2).1 (fun e => ?_)).trans hA.2⟩
    have := hr _ e.symm
    omega
  refine (changes1_in (n - 1) (by omega) (w.heap.size + 4) (w.heap.size + 2) g (w.heap.size + 5) L p k y (fun D W => CS w g D 0 W ∧ W.heap[w.heap.size + 4]? = some (.loop (rec .ready none)))
    (fun W => ∃ D ee, ee ≠ 0 ∧ CS w g D ee W ∧ W.heap[w.heap.size + 4]? = some (.loop (rec .done (some (.exit 0)))))
    W1 JK.out (fun D A hA => ⟨hA.1.2.2.1.cell, hA.1.2.2.2.2.2.2.1⟩) ?yield HH.out.2.2 ⟨HH.out.1, HH.out.2.1⟩).mono ?behind
  case yield =>
    intro D W2 k2 y2 c dv ee hJ hR hO hS hlen
    obtain ⟨ad, cd, ed⟩ := hO.form
    subst ed
    refine yield_round HREC.out hJ.2 rfl ?_
    have HJ2 : Hid (CS w g D 0 W2 ∧ W2.heap[w.heap.size + 4]? = some (.loop (rec .ready none))) := hJ
    have HR2 : Hid (RdIs L W2 g p k2 y2) := hR
    have HO2 : Hid (OwnI (w.heap.size + 5) W2 (.slice ad c.deps.length cd) c.deps) := hO
    have HS2 : Hid (Sized c) := hS
    have hz2 := hJ.1.2.2.2.2.2.2.1
    clear hJ hR hO hS HH JK
    simp only [chCells]
    gi_wp2
    have BA : Hid (Below W2.heap.size W2 (W2.alloc (.cells #[.int .i64 c.ac, .int .i64 c.ar, .int .i64 c.seq, .slice ad c.deps.length cd, .int .i64 c.kind, .int .i64 c.nc, .int .i64 c.nr, .int .i64 c.pc, .int .i64 c.pr, .int .i64 c.fc, .int .i64 c.fr, .string c.name, .string c.value] 57))) := (Below.refl _ _).alloc (Nat.le_refl _) _
    refine ⟨(BA.out.block _ (by omega)).trans HJ2.out.2, ?_⟩
    obtain ⟨Wb, eWb⟩ : ∃ Wb, Wb = (W2.alloc (.cells #[.int .i64 c.ac, .int .i64 c.ar, .int .i64 c.seq, .slice ad c.deps.length cd, .int .i64 c.kind, .int .i64 c.nc, .int .i64 c.nr, .int .i64 c.pc, .int .i64 c.pr, .int .i64 c.fc, .int .i64 c.fr, .string c.name, .string c.value] 57)).putObj (w.heap.size + 4) (.loop { rec .ready none with state := .busy }) := ⟨_, rfl⟩
    have hl2 : w.heap.size + 4 < (W2.alloc (.cells #[.int .i64 c.ac, .int .i64 c.ar, .int .i64 c.seq, .slice ad c.deps.length cd, .int .i64 c.kind, .int .i64 c.nc, .int .i64 c.nr, .int .i64 c.pc, .int .i64 c.pr, .int .i64 c.fc, .int .i64 c.fr, .string c.name, .string c.value] 57)).heap.size := by simp; omega
    have HB : Hid (CS w g D 0 Wb ∧ Wb.heap[w.heap.size + 4]? = some (.loop { rec .ready none with state := .busy }) ∧ RdIs L Wb g p k2 y2 ∧ Wb.heap[W2.heap.size]? = some (.cells #[.int .i64 c.ac, .int .i64 c.ar, .int .i64 c.seq, .slice ad c.deps.length cd, .int .i64 c.kind, .int .i64 c.nc, .int .i64 c.nr, .int .i64 c.pc, .int .i64 c.pr, .int .i64 c.fc, .int .i64 c.fr, .string c.name, .string c.value] 57) ∧ OwnI (w.heap.size + 5) Wb (.slice ad c.deps.length cd) c.deps) := by
      show _ ∧ _
      rw [eWb]
      exact ⟨(HJ2.out.1.more BA.out).put _, World.putObj_heap_same hl2, rd_put (HR2.out.below BA.out) HNL.out _, (World.putObj_heap_other (by omega)).trans (heap_alloc_new _ _), (HO2.out.below BA.out).grown (grownBy_putObj' _ _ _) (fun j e => by injection e with e; omega)⟩
    rw [← eWb]
    clear eWb hl2 BA HJ2 HR2 HO2
    generalize W2.heap.size = bc at *
    by_cases hee : ee = 0
    · subst hee
      obtain ⟨⟨v, hv, hown⟩, hbw, hbr, hdf, hds, hgr, hz, hdl, _⟩ := HB.out.1
      obtain ⟨ao, co, ev⟩ := hown.form
      subst ev
      have HV : Hid (Boxed Wb w.heap.size 24 (.slice ao D.length co) ∧ OwnH (w.heap.size + 5) Wb (.slice ao D.length co) D) := ⟨hv, hown⟩
      have x1 := hv.cell
      have x2 := cell_of_row _ _ 0 _ _ _ HB.out.2.2.2.1
      have KC := row_keptC HB.out.2.2.2.1 (Below.refl Wb.heap.size Wb)
      obtain ⟨y0, y1', y2', y3, y4, y5, y6, y7, y8, y9, y10, y11, y12⟩ := KC.all
      clear x2 KC hv hown hbw hbr hdf hds hgr
      have BB : Hid (Below Wb.heap.size Wb (Wb.alloc (.cells #[.int .i64 c.ac, .int .i64 c.ar, .int .i64 c.seq, .slice ad c.deps.length cd, .int .i64 c.kind, .int .i64 c.nc, .int .i64 c.nr, .int .i64 c.pc, .int .i64 c.pr, .int .i64 c.fc, .int .i64 c.fr, .string c.name, .string c.value] 57))) := (Below.refl _ _).alloc (Nat.le_refl _) _
      have HN : Hid (∀ j u, (chCells c (.slice ad c.deps.length cd))[j]? = some u → (Wb.alloc (.cells #[.int .i64 c.ac, .int .i64 c.ar, .int .i64 c.seq, .slice ad c.deps.length cd, .int .i64 c.kind, .int .i64 c.nc, .int .i64 c.nr, .int .i64 c.pc, .int .i64 c.pr, .int .i64 c.fc, .int .i64 c.fr, .string c.name, .string c.value] 57)).cell? ((⟨Wb.heap.size, 0, none⟩ : Addr).add j) = some u) := fun j u hj => by
        rw [Addr.add_lit, Nat.zero_add, cell_of_row _ _ _ _ _ _ (heap_alloc_new Wb _)]
        simpa [chCells] using hj
      have HBX : Hid (∀ W', (Wb.alloc (.cells #[.int .i64 c.ac, .int .i64 c.ar, .int .i64 c.seq, .slice ad c.deps.length cd, .int .i64 c.kind, .int .i64 c.nc, .int .i64 c.nr, .int .i64 c.pc, .int .i64 c.pr, .int .i64 c.fc, .int .i64 c.fr, .string c.name, .string c.value] 57)).grownBy W' (Value.slice ao D.length co).ownBlock → Boxed W' w.heap.size 24 (.slice ao D.length co)) := fun W' hg => (HV.out.1.alloc _).kept hg (fun e => by have := HV.out.2.block _ e.symm; omega)
      have HLP : Hid (∀ W', (Wb.alloc (.cells #[.int .i64 c.ac, .int .i64 c.ar, .int .i64 c.seq, .slice ad c.deps.length cd, .int .i64 c.kind, .int .i64 c.nc, .int .i64 c.nr, .int .i64 c.pc, .int .i64 c.pr, .int .i64 c.fc, .int .i64 c.fr, .string c.name, .string c.value] 57)).grownBy W' (Value.slice ao D.length co).ownBlock → ∀ u, (W'.setCell ⟨w.heap.size, 0, none⟩ u).heap[w.heap.size + 4]? = some (.loop { rec .ready none with state := .busy }) ∧ RdIs L (W'.setCell ⟨w.heap.size, 0, none⟩ u) g p k2 y2) := fun W' hg u => by
        have e1 := (BB.out.block _ (Array.getElem?_eq_some_iff.1 HB.out.2.1).1).trans HB.out.2.1
        have e2 := (hg.block _ (Array.getElem?_eq_some_iff.1 e1).1 (fun e => by have := HV.out.2.block _ e.symm; omega)).trans e1
        refine ⟨(heap_setCell_other W' ⟨w.heap.size, 0, none⟩ _ u (by show w.heap.size + 4 ≠ w.heap.size; omega)).trans e2, ?_⟩
        have r1 := (HB.out.2.2.1.below BB.out).grown hg (fun j e hLj => by have := HV.out.2.block j e; have := HL.out j hLj; omega)
        exact r1.set (fun hLj => by have := HL.out _ hLj; omega) 0 u
      gi_wp2_with (gi_at_builtin; refine wpListIn_append_own _ rfl _ _ 24 rfl (w.heap.size + 5) 57 i0 (.agg #[.int .i64 0, .int .i64 0, .int .i64 0, .slice none 0 0, .int .i64 0, .int .i64 0, .int .i64 0, .int .i64 0, .int .i64 0, .int .i64 0, .int .i64 0, .string ⟨#[]⟩, .string ⟨#[]⟩]) 13 136 Tryz.underlying24 HI.out.1 HI.out.2.1 HI.out.2.2.1 HI.out.2.2.2 rfl (by decide) _ _ _ rfl (World.ownsRow.alloc HV.out.2 _) ⟨Wb.heap.size, 0, none⟩ 1 1 (chCells c (.slice ad c.deps.length cd)) rfl rfl HN.out (fun u hu => by simp only [chCells, List.mem_cons, List.not_mem_nil, or_false] at hu; rcases hu with rfl | rfl | rfl | rfl | rfl | rfl | rfl | rfl | rfl | rfl | rfl | rfl | rfl <;> rfl) (by unfold maxLen; omega) (by omega) (by simp; omega) ?_; intro v4 w4 hown4 hgrow4 hnil4; obtain ⟨g4, c4, rfl⟩ := ownsRow_succ hown4; have hb4 := HBX.out w4 hgrow4; have hc4 := hb4.cell; have hf4 := hb4.frozen)
      have PU := HB.out.1.push HV.out.1 HV.out.2 hgrow4 HB.out.2.2.2.2 HS2.out hlen hown4
      obtain ⟨PL, PR⟩ := HLP.out w4 hgrow4 (.slice (some ⟨g4, 0, none⟩) (D.length + 1) c4)
      exact ⟨PL, rfl, ⟨PU.put _, World.putObj_heap_same (Array.getElem?_eq_some_iff.1 PL).1⟩, rd_put PR HNL.out _⟩
    · obtain ⟨⟨v, hv, hown⟩, hbw, hbr, hdf, hds, hgr, hz, hdl, _⟩ := HB.out.1
      have q : (ee == 0) = false := by simp [hee]
      have x1 := hbw.cell
      have x2 := hbw.frozen
      have HE : Hid (ee ≠ 0) := hee
      have CW : Hid (CS w g D ee (Wb.setCell ⟨w.heap.size + 1, 0, none⟩ (.int .i64 ee))) := by
        have hs : Wb.grownBy (Wb.setCell ⟨w.heap.size + 1, 0, none⟩ (.int .i64 ee)) (some (w.heap.size + 1)) := grownBy_setCell' Wb (w.heap.size + 1) _
        have hsN : ∀ j, some (w.heap.size + 1) = some j → j < w.heap.size + 5 := fun j e => by injection e with e; omega
        refine ⟨⟨v, hv.kept hs (by simp), hown.grown hs hsN⟩, hbw.set _, hbr.kept hs (by simp), (hs.block _ (Array.getElem?_eq_some_iff.1 hdf).1 (by simp)).trans hdf, fun x hx => ⟨(hds x hx).1.grown hs hsN, (hds x hx).2⟩, grownBy.own hgr hs (fun j e => by injection e with e; omega), Nat.le_trans hz hs.size, hdl, hgw⟩
      have PL : Hid ((Wb.setCell ⟨w.heap.size + 1, 0, none⟩ (.int .i64 ee)).heap[w.heap.size + 4]? = some (.loop { rec .ready none with state := .busy })) := (heap_setCell_other Wb ⟨w.heap.size + 1, 0, none⟩ _ _ (by show w.heap.size + 4 ≠ w.heap.size + 1; omega)).trans HB.out.2.1
      have PR : Hid (RdIs L (Wb.setCell ⟨w.heap.size + 1, 0, none⟩ (.int .i64 ee)) g p k2 y2) := HB.out.2.2.1.set (fun hLj => by have := HL.out _ hLj; omega) 0 _
      clear hv hown hbw hbr hdf hds hgr hz hdl hee HB
      gi_wp2
      exact ⟨PL.out, .inr ⟨HE.out, rfl, ⟨D, ee, HE.out, CW.out.put _, World.putObj_heap_same (Array.getElem?_eq_some_iff.1 PL.out).1⟩, rd_put PR.out HNL.out _⟩⟩
  case behind =>
    rintro e W2 ⟨⟨v0, rfl⟩, (⟨D, k', y', eD, ⟨hC, hl⟩, hR⟩ | ⟨hbad, ⟨D, ee, hee, hC, hl⟩, k', y', hR⟩)⟩
    · refine ⟨⟨_, rfl⟩, .inl ⟨hl, ?_⟩⟩
      have HC : Hid (CS w g D 0 (W2.putObj (w.heap.size + 4) (.loop { rec .ready none with state := .exhausted })) ∧ RdIs L (W2.putObj (w.heap.size + 4) (.loop { rec .ready none with state := .exhausted })) g p k' y' ∧ chsR 65536 p k y = (D.map Prod.fst, k', y')) := ⟨hC.put _, rd_put hR HNL.out _, eD⟩
      clear hC hR eD hl HH JK
      generalize W2.putObj (w.heap.size + 4) (.loop { rec .ready none with state := .exhausted }) = W3 at *
      obtain ⟨⟨v, hv, hown⟩, hbw, _⟩ := HC.out.1
      have x1 := hv.cell
      have x2 := hbw.cell
      have XD := HC.out.1.2.2.2.1
      have HV : Hid (OwnH (w.heap.size + 5) W3 v D) := hown
      clear hv hown hbw
      gi_wp2
      refine wpIn_region_quiet_lit rfl (by kernel_rfl) (by kernel_rfl) ?_
      repeat (gi_big_quiet_step (fail))
      refine wpQuietIn_nil ?_
      intro _ hw'
      obtain ⟨nq, hw''⟩ := hw'
      subst hw''
      clear x1 x2
      gi_wp2
      have hK : (W3.drewN nq).heap[w.heap.size + 3]? = some (.deferred (some [])) := XD
      obtain ⟨e1, e2, e3, e4, e5⟩ := HC.out.1.ends HC.out.2.1 HL.out HV.out nq (.deferred none)
      refine ⟨by simp, .inl ⟨_, _, rfl, run_takeDeferred hK, ?_⟩⟩
      exact ⟨_, results_tmp2 rfl _ _ _, v, 0, D, rfl, e1, e2, e3, e4, k', y', e5, .inl ⟨rfl, HC.out.2.2⟩⟩
    · refine ⟨⟨_, rfl⟩, .inr ⟨.exit 0, hl, ?_⟩⟩
      have HC : Hid (CS w g D ee (W2.putObj (w.heap.size + 4) (.loop { rec .done (some (.exit 0)) with state := .exhausted })) ∧ RdIs L (W2.putObj (w.heap.size + 4) (.loop { rec .done (some (.exit 0)) with state := .exhausted })) g p k' y' ∧ (chsR 65536 p k y).2.2 ≠ 0) := ⟨hC.put _, rd_put hR HNL.out _, hbad⟩
      have HE : Hid (ee ≠ 0) := hee
      clear hC hR hbad hl HH JK hee
      generalize W2.putObj (w.heap.size + 4) (.loop { rec .done (some (.exit 0)) with state := .exhausted }) = W3 at *
      obtain ⟨⟨v, hv, hown⟩, hbw, _⟩ := HC.out.1
      have x1 := hv.cell
      have x2 := hbw.cell
      have XD := HC.out.1.2.2.2.1
      have HV : Hid (OwnH (w.heap.size + 5) W3 v D) := hown
      clear hv hown hbw
      gi_wp2
      refine wpIn_region_quiet_lit rfl (by kernel_rfl) (by kernel_rfl) ?_
      repeat (gi_big_quiet_step (fail))
      refine wpQuietIn_nil ?_
      intro _ hw'
      obtain ⟨nq, hw''⟩ := hw'
      subst hw''
      clear x1 x2
      gi_wp2
      have hK : (W3.drewN nq).heap[w.heap.size + 3]? = some (.deferred (some [])) := XD
      obtain ⟨e1, e2, e3, e4, e5⟩ := HC.out.1.ends HC.out.2.1 HL.out HV.out nq (.deferred none)
      refine ⟨by simp, .inl ⟨_, _, rfl, run_takeDeferred hK, ?_⟩⟩
      exact ⟨_, results_tmp2 rfl _ _ _, v, ee, D, rfl, e1, e2, e3, e4, k', y', e5, .inr ⟨HE.out, HC.out.2.2⟩⟩

theorem readChanges_any (L : Nat → Prop) (g : Nat) (p : List UInt8) (k : Nat) (y : Int) (w : World) (h : RdIs L w g p k y) (hL : ∀ j, L j → j < w.heap.size) :
    Calls Tryz.prog 14 #[.pointer (some ⟨g, 0, none⟩)] w fun e w' => ∃ v ee D, e = .returned (.tuple #[v, .int .i64 ee]) ∧ OwnH w.heap.size w' v D ∧ (∀ x ∈ D, OwnI w.heap.size w' x.2 x.1.deps ∧ Sized x.1) ∧ D.length ≤ 64 ∧ w.grownBy w' (some g) ∧ ∃ k' y', RdIs L w' g p k' y' ∧ ((ee = 0 ∧ chsR 65536 p k y = (D.map Prod.fst, k', y')) ∨ (ee ≠ 0 ∧ (chsR 65536 p k y).2.2 ≠ 0)) :=
  callsIn_wide.1 (readChanges_in 4 (Nat.le_refl _) L g p k y w h hL)

end Go.Proofs.YtlioiblpcpaejaaGreat
