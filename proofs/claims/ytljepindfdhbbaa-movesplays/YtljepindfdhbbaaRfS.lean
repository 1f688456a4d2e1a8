/- Appends of whole lists; the state of MovesAny. -/
import Derived.Test.YtljepindfdhbbaaRfT
import Derived.Test.YtljepindfdhbbaaPlainMz
namespace Go.Proofs.Ytljepindfdhbbaa
open Go.RowKit
set_option linter.unusedVariables false
set_option linter.unusedSimpArgs false

theorem rows_flat {α : Type} {enc : α → List Value} {n : Nat} (hn : ∀ x, (enc x).length = n) {W : World} {b : Nat} : ∀ (D : List α) (o : Nat), (∀ i (h : i < D.length) j u, (enc D[i])[j]? = some u → W.cell? ⟨b, o + i * n + j, none⟩ = some u) → ∀ j u, (flatE enc D)[j]? = some u → W.cell? ⟨b, o + j, none⟩ = some u
  | [], o, _, j, u, hj => by simp [flatE] at hj
  | x :: D, o, h, j, u, hj => by
    rw [flatE_cons] at hj
    by_cases hjn : j < n
    · rw [List.getElem?_append_left (by rw [hn]; exact hjn)] at hj
      have := h 0 (by simp) j u hj
      rw [Nat.zero_mul, Nat.add_zero] at this
      exact this
    · rw [List.getElem?_append_right (by rw [hn]; omega), hn] at hj
      have := rows_flat hn D (o + n) (fun i hi k v hk => by
        have h2 := h (i + 1) (by simpa using hi) k v hk
        rw [Nat.add_mul, Nat.one_mul, show o + (i * n + n) + k = o + n + i * n + k by omega] at h2
        exact h2) (j - n) u hj
      rw [show o + n + (j - n) = o + j by omega] at this
      exact this
theorem BuS.pushes {α : Type} {enc : α → List Value} {n : Nat} {T : TypeId} {W0 : World} {ov : Value} {D E : List α} {W W' : World} {m : Nat} (h : BuS enc n T W0 ov D W) {v : Value} (ho : W'.ownsRow W0.heap.size T n v (D.length + m) (flatE enc D ++ flatE enc E)) (hm : E.length = m) (hg : W.grownBy W' ov.ownBlock) : BuS enc n T W0 v (D ++ E) W' :=
  ⟨h.bel.grown hg h.bel.size (fun k e => (h.own.lt k e).1), by (show World.ownsRow _ _ _ _ _ _ _; rw [List.length_append, hm, flatE_append]; exact ho)⟩
theorem flat_mc (D : List (Mv × Bool)) : ∀ u ∈ flatE mcCells D, u.oneCell' = true := by
  intro u hu
  simp only [flatE, List.mem_flatMap] at hu
  obtain ⟨x, _, hu⟩ := hu
  exact mcCells_one x u hu
/-- append of a list that may have no moves and no place. -/
theorem wpList_appL {ops : Array Oper} {rest : List Oper} {o : Oper} {a : Act} {w : World} {Q : Exit → Act → World → Prop} (hgd : o.guard = none) (s x : Operand)
    (ho : o.op = .call { callee := .builtin .append, args := #[s, x], argTypes := #[25, 25] }) (base g : Nat) (hs : a.eval s = .slice (some ⟨g, 0, none⟩) 0 0) (hown : w.ownsRow base 55 7 (.slice (some ⟨g, 0, none⟩) 0 0) 0 [])
    (a1 : Option Addr) (c : Nat) (D : List (Mv × Bool)) (hx : a.eval x = .slice a1 D.length c) (hd : D = [] ∨ ∃ b q, a1 = some ⟨b, q, none⟩ ∧ ∀ j u, (flatE mcCells D)[j]? = some u → w.cell? ⟨b, q + j, none⟩ = some u) (hl : D.length ≤ 4096) (hbase : base ≤ w.heap.size)
    (h : ∀ v' w', w'.ownsRow base 55 7 v' (0 + D.length) ([] ++ flatE mcCells D) → w.grownBy w' (some g) → wpList Try.prog ops Q rest (a.put o.dst v') w') :
    wpList Try.prog ops Q (o :: rest) a w := by
  obtain ⟨imc, himc, hz0mc, hz1mc, hz2mc⟩ := info_parts infoMc
  rcases hd with rfl | ⟨b, q, rfl, hc⟩
  · refine wpList_plain hgd fun K hK => ?_
    have hr : ∀ ty, (Builtin.append_ #[25, 25] ty #[.slice (some ⟨g, 0, none⟩) 0 0, .slice a1 0 c]).run Try.prog w = .ok (.slice (some ⟨g, 0, none⟩) 0 0) w := fun ty => by cases a1 <;> kernel_rfl
    unfold Oper.wp execOp
    simp only [ho, resolve, invoke, builtin, Sem.run_bind, Sem.run_pure, Result.andThen_ok, List.map_toArray, List.map_cons, List.map_nil, hs, hx, List.length_nil, hr]
    exact hK _ _ (h _ _ hown ⟨rfl, rfl, rfl, Nat.le_refl _, fun _ _ _ => rfl⟩)
  · exact wpList_append_own_at w hgd s x 25 ho base 55 imc (.agg #[.int .i64 0, .int .i64 0, .int .i64 0, .int .i64 0, .int .i64 0, .int .i64 0, .bool false]) 7 56 Try.underlying25 himc hz0mc hz1mc hz2mc rfl (by decide) _ 0 [] hs hown ⟨b, q, none⟩ D.length c (flatE mcCells D) hx (flatE_length mcCells_lenR D) (fun j u hj => by rw [Addr.add_lit]; exact hc j u hj) (flat_mc D) (by unfold maxLen; omega) (by omega) hbase (fun v' w' h1 h2 _ _ => h v' w' h1 h2)
/-- The state of MovesAny. -/
structure AyS (w : World) (tb : Nat) (F : Nat → Prop) (dv : Value) (L : List Mv) (xb : Nat) (Fx : Nat → Prop) (Lx : List Mv) (rv : Value) (R : List Mv) (W : World) : Prop where
  tt : TreeOk F W tb L
  thi : ∀ j, F j → w.heap.size ≤ j
  xt : TreeOk Fx W xb Lx
  xhi : ∀ j, Fx j → w.heap.size ≤ j
  ap : ∀ j, F j → ¬ Fx j
  doc : LsE mcCells 7 (fun j => ¬ F j ∧ ¬ Fx j) W dv (fl L)
  re : LsE mcCells 7 (fun j => ¬ F j ∧ ¬ Fx j) W rv (fl R)
  bel : Below w.heap.size w W
section
variable {w W W' : World} {tb xb : Nat} {F Fx : Nat → Prop} {dv rv rv2 : Value} {L Lx R R2 : List Mv} {m : Mv} {e : Ending}
theorem AyS.below (h : AyS w tb F dv L xb Fx Lx rv R W) (hb : Below W.heap.size W W') : AyS w tb F dv L xb Fx Lx rv R W' := ⟨h.tt.below hb, h.thi, h.xt.below hb, h.xhi, h.ap, h.doc.below hb, h.re.below hb, h.bel.trans (hb.mono h.bel.size)⟩
theorem AyS.did (h : AyS w tb F dv L xb Fx Lx rv R W) (hd : DoP Fx W xb Lx m e W') : ∃ Fx', AyS w tb F dv L xb Fx' (doL Lx m) rv R W' := by
  obtain ⟨_, F', ht, hsub, hnew, hto⟩ := hd
  have hmv : ∀ {v : Value} {D : List Mv}, LsE mcCells 7 (fun j => ¬ F j ∧ ¬ Fx j) W v (fl D) → LsE mcCells 7 (fun j => ¬ F j ∧ ¬ F' j) W' v (fl D) := fun h1 => (h1.lo.touch hto (fun k hk => hk.1.2)).mono fun k hk => ⟨hk.1.1, fun hF => (hnew k hF).elim hk.1.2 (fun h2 => by omega)⟩
  refine ⟨F', h.tt.touch hto h.ap, h.thi, ht, fun j hj => ?_, fun j hj hj2 => ?_, hmv h.doc, hmv h.re, h.bel.trans (hto.below h.xhi h.bel.size)⟩
  · rcases hnew j hj with h1 | h1
    · exact h.xhi j h1
    · exact Nat.le_trans h.bel.size h1
  · rcases hnew j hj2 with h1 | h1
    · exact h.ap j hj h1
    · have := h.tt.lt j hj; omega
theorem AyS.xask (h : AyS w tb F dv L xb Fx Lx rv R W) (ha : AskP Fx W (.pointer (some ⟨xb, 0, none⟩)) Lx W') : AyS w tb F dv L xb Fx Lx rv R W' := by
  obtain ⟨hv, hto⟩ := ha
  refine ⟨h.tt.touch hto h.ap, h.thi, ?_, h.xhi, h.ap, h.doc.touch hto (fun k hk => hk.2), h.re.touch hto (fun k hk => hk.2), h.bel.trans (hto.below h.xhi h.bel.size)⟩
  rcases hv with ⟨tb2, e, ht⟩ | ⟨e, _⟩
  · injection e with e; injection e with e; injection e with e; subst e; exact ht
  · cases e
theorem AyS.task (h : AyS w tb F dv L xb Fx Lx rv R W) (ha : AskP F W (.pointer (some ⟨tb, 0, none⟩)) L W') : AyS w tb F dv L xb Fx Lx rv R W' := by
  obtain ⟨hv, hto⟩ := ha
  refine ⟨?_, h.thi, h.xt.touch hto (fun k hk hF => h.ap k hF hk), h.xhi, h.ap, h.doc.touch hto (fun k hk => hk.1), h.re.touch hto (fun k hk => hk.1), h.bel.trans (hto.below h.thi h.bel.size)⟩
  rcases hv with ⟨tb2, e, ht⟩ | ⟨e, _⟩
  · injection e with e; injection e with e; injection e with e; subst e; exact ht
  · cases e
theorem AyS.rest (h : AyS w tb F dv L xb Fx Lx rv R W) (hb : BuS mcCells 7 55 W rv2 (fl R2) W') (hl : R2.length ≤ 4096) : AyS w tb F dv L xb Fx Lx rv2 R2 W' := by
  have h1 := h.below hb.bel
  exact ⟨h1.tt, h1.thi, h1.xt, h1.xhi, h1.ap, h1.doc, hb.own.lsE mcCells_lenR (by rw [fl_length]; omega) (fun k e => by
    have h2 := (hb.own.lt k e).1
    exact ⟨fun hF => by have := h.tt.lt k hF; omega, fun hF => by have := h.xt.lt k hF; omega⟩), h1.bel⟩
end
theorem from_lt (x : Int) {n : Nat} (h0 : 0 < n) (h1 : n ≤ 4096) : ∃ f : Nat, f < n ∧ wrap64 ((IntKind.u64.wrap x).tmod (n : Int)) = (f : Int) := by
  have hx : 0 ≤ IntKind.u64.wrap x := by show 0 ≤ x % 18446744073709551616; omega
  rw [Int.tmod_eq_emod_of_nonneg hx]
  have h2 : 0 ≤ IntKind.u64.wrap x % (n : Int) := Int.emod_nonneg _ (by omega)
  have h3 : IntKind.u64.wrap x % (n : Int) < n := Int.emod_lt_of_pos _ (by omega)
  refine ⟨(IntKind.u64.wrap x % (n : Int)).toNat, by omega, ?_⟩
  rw [Int.toNat_of_nonneg h2]
  unfold wrap64
  omega
def slLen : Value → Nat
  | .slice _ n _ => n
  | _ => 0

end Go.Proofs.Ytljepindfdhbbaa
