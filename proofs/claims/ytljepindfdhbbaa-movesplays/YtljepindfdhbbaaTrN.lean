/- What slices.Collect gathers of a map's values; All. -/
import Derived.Test.YtljepindfdhbbaaTrM
namespace Go.Proofs.Ytljepindfdhbbaa
open Go.RowKit Go.Shelf
set_option linter.unusedVariables false
set_option linter.unusedSimpArgs false

attribute [local go_sem] Oper.semAt_some

theorem cells_ne {W : World} {k : Nat} {cs : Array Value} {t : TypeId} {fr : Nat × Nat} (h : W.heap[k]? = some (.cells cs t fr)) {row : Option Nat} (hr : ∀ r, row = some r → ∃ o : Obj, W.heap[r]? = some o ∧ o.isCells = false) : row ≠ some k := fun e => by
  obtain ⟨o, h1, h2⟩ := hr k e
  rw [h] at h1
  cases h1
  cases h2
theorem ownsRow_own {W W' : World} {B : Nat} {e : TypeId} {size : Nat} {v : Value} {n : Nat} {xs : List Value} {row : Option Nat} (h : W.ownsRow B e size v n xs) (hg : W.grownBy W' row) (hr : ∀ r, row = some r → ∃ o : Obj, W.heap[r]? = some o ∧ o.isCells = false) : W'.ownsRow B e size v n xs :=
  ownsRow_keep h fun k ek => by
    obtain ⟨cur, hc⟩ := ownsRow_type h k ek
    exact hg.block k (Array.getElem?_eq_some_iff.1 hc).1 (fun e => cells_ne hc hr e.symm)
theorem row_own {W W' : World} {k : Nat} {cs : Array Value} {t : TypeId} {fr : Nat × Nat} {row : Option Nat} (h : W.heap[k]? = some (.cells cs t fr)) (hg : W.grownBy W' row) (hr : ∀ r, row = some r → ∃ o : Obj, W.heap[r]? = some o ∧ o.isCells = false) : W'.heap[k]? = some (.cells cs t fr) :=
  (hg.block k (Array.getElem?_eq_some_iff.1 h).1 (fun e => cells_ne h hr e.symm)).trans h
theorem keepsFrom_below {B : Nat} {A C : World} (hb : Below A.heap.size A C) : KeepsFrom B A C := ⟨hb.size, fun k o _ hk _ => (hb.block k (Array.getElem?_eq_some_iff.1 hk).1).trans hk⟩
theorem keepsFrom_row {B : Nat} {A C : World} {e : TypeId} {size b : Nat} {v : Value} {n : Nat} {xs : List Value} (ho : A.ownsRow b e size v n xs) (hg : A.grownBy C v.ownBlock) : KeepsFrom B A C :=
  (KeepsOthers.of_grownBy hg (fun j o ej hj => by obtain ⟨cur, hc⟩ := ownsRow_type ho j ej; rw [hc] at hj; cases hj; rfl)).from B
theorem keepsFrom_set {B : Nat} (A : World) (p : Addr) (v : Value) : KeepsFrom B A (A.setCell p v) := (KeepsOthers.setCell A p v).from B
theorem infoPlaced : (Try.prog.info? 43).map (fun i => (i.zero, i.size, i.bytes)) = some (some (.agg #[.int .i64 0, .int .i64 0, .int .i64 0, .int .i64 0, .int .i64 0, .int .i64 0]), 6, 48) := by kernel_rfl
theorem hide7 {p : Prop} (h : p) : Hid p := h
/-- The places E lie in a row from block W2's size on, whose value lies in the box b0; since W2 nothing of S has changed, since w nothing that lay there. -/
structure ColB (w W2 : World) (b0 : Nat) (S : Nat → Prop) (ov : Value) (E : List Pl) (U : World) : Prop where
  box : Boxed U b0 39 ov
  own : OwnPl W2.heap.size U ov E
  bel : Below w.heap.size w U
  kp : KeepsS S W2 U
  kl : ∀ k, S k → k < W2.heap.size
  b1 : w.heap.size ≤ b0
  b2 : b0 < W2.heap.size
  b3 : ¬ S b0
  b4 : w.heap.size ≤ W2.heap.size
section
variable {w W2 : World} {b0 : Nat} {S : Nat → Prop} {ov : Value} {E : List Pl} {U U' : World}
theorem ColB.below (h : ColB w W2 b0 S ov E U) (hb : Below U.heap.size U U') : ColB w W2 b0 S ov E U' :=
  ⟨(hb.block b0 h.box.lt).trans h.box, h.own.below hb, h.bel.trans (hb.mono h.bel.size), h.kp.trans (KeepsS.of_below hb fun k hk => Nat.lt_of_lt_of_le (h.kl k hk) h.kp.1), h.kl, h.b1, h.b2, h.b3, h.b4⟩
theorem ColB.size (h : ColB w W2 b0 S ov E U) : W2.heap.size ≤ U.heap.size := h.kp.1
theorem ColB.grown (h : ColB w W2 b0 S ov E U) {row : Option Nat} (hg : U.grownBy U' row) (hr : ∀ r, row = some r → W2.heap.size ≤ r ∧ ∃ o : Obj, U.heap[r]? = some o ∧ o.isCells = false) : ColB w W2 b0 S ov E U' := by
  have hr2 : ∀ r, row = some r → ∃ o : Obj, U.heap[r]? = some o ∧ o.isCells = false := fun r e => (hr r e).2
  exact ⟨row_own h.box hg hr2, ownsRow_own h.own hg hr2, h.bel.grown hg h.bel.size (fun j e => Nat.le_trans h.b4 (hr j e).1), h.kp.trans ⟨hg.size, fun k hk => hg.block k (Nat.lt_of_lt_of_le (h.kl k hk) h.size) (fun e => by have := (hr k e.symm).1; have := h.kl k hk; omega)⟩, h.kl, h.b1, h.b2, h.b3, h.b4⟩
/-- Behind an append. -/
theorem ColB.push (h : ColB w W2 b0 S ov E U) {x : Pl} {v : Value} (hown : U'.ownsRow W2.heap.size 43 6 v (E.length + 1) (flatE plCells E ++ plCells x)) (hg : U.grownBy U' ov.ownBlock) :
    ColB w W2 b0 S v (E ++ [x]) (U'.setCell ⟨b0, 0, none⟩ v) ∧ Boxed U' b0 39 ov ∧ KeepsFrom W2.heap.size U (U'.setCell ⟨b0, 0, none⟩ v) ∧ KpW S U (U'.setCell ⟨b0, 0, none⟩ v) := by
  have hrow : ∀ j, ov.ownBlock = some j → W2.heap.size ≤ j := fun j e => (World.ownsRow.lt h.own j e).1
  have hbx : Boxed U' b0 39 ov := h.box.kept hg (fun e => by have := hrow b0 e.symm; have := h.b2; omega)
  have hvb : ∀ j, v.ownBlock = some j → W2.heap.size ≤ j := fun j e => (World.ownsRow.lt hown j e).1
  have far : ∀ k, k ≠ b0 → (U'.setCell ⟨b0, 0, none⟩ v).heap[k]? = U'.heap[k]? := fun k hk => RowKit.Below.heap_setCell _ _ _ _ hk
  have hks : KeepsS S U (U'.setCell ⟨b0, 0, none⟩ v) := ⟨by have := hg.size; simpa [World.setCell] using this, fun k hk => (far k (fun e => h.b3 (e ▸ hk))).trans (hg.block k (Nat.lt_of_lt_of_le (h.kl k hk) h.size) (fun e => by have := hrow k e.symm; have := h.kl k hk; omega))⟩
  have hko : KeepsFrom 0 U (U'.setCell ⟨b0, 0, none⟩ v) := (keepsFrom_row h.own hg).trans (keepsFrom_set _ _ _)
  refine ⟨⟨hbx.set v, ?_, ?_, h.kp.trans hks, h.kl, h.b1, h.b2, h.b3, h.b4⟩, hbx, (keepsFrom_row h.own hg).trans (keepsFrom_set _ _ _), hks, fun k o hk hw => hko.same k o (Nat.zero_le _) hk (walk_cells hw)⟩
  · have h1 : OwnPl W2.heap.size U' v (E ++ [x]) := OwnE.snoc rfl hown
    exact ownsRow_keep h1 fun k e => far k (by have := hvb k e; have := h.b2; omega)
  · exact (h.bel.grown hg h.bel.size (fun j e => by have := hrow j e; have := h.b4; omega)).setCell (p := ⟨b0, 0, none⟩) h.b1 _
end

set_option maxRecDepth 100000 in
set_option maxHeartbeats 8000000 in
theorem appendSeq_in (n : Nat) (hn : 5 ≤ n) (gf : Nat) (lb : Array Value) (eg : ∀ args w, (callFunc gf args).run Try.prog w = .ok (.enter gf args) w) (S : Nat → Prop) (xs : List Pl) (w : World) (hxl : xs.length ≤ 4096)
    (hS : ∀ k, S k → k < w.heap.size) (hseq : SeqPm (n - 1) Try.prog gf lb encP (KpW S) xs w) :
    CallsIn Fence.wide n Try.prog 70 #[.slice none 0 0, .func (.func gf) #[] lb] w fun e w' => ∃ v' E, e = .returned v' ∧ E.Perm xs ∧ OwnPl w.heap.size w' v' E ∧ Below w.heap.size w w' := by
  obtain ⟨i0, hi, hz0, hz1, hz2⟩ := info_parts infoPlaced
  have hro : Fence.wide.round = none := rfl
  have h1n : 1 ≤ n := by omega
  refine callsIn_of_wp_marks Try.func70 rfl trivial ?_ hro
  simp only [Try.ntmps70, List.size_toArray, List.length_cons, List.length_nil, Nat.reduceAdd, Nat.reduceSub, Array.replicate_succ, Array.replicate_zero, List.push_toArray, List.append_toArray, List.nil_append, List.cons_append]
  gi_wp2
  obtain ⟨W2, eW2⟩ : ∃ X, X = w.alloc (.cells #[.slice none 0 0] 39) := ⟨_, rfl⟩
  have hb2 : Below w.heap.size w W2 := by rw [eW2]; exact (Below.refl _ _).alloc (Nat.le_refl _) _
  have hsz2 : W2.heap.size = w.heap.size + 1 := by rw [eW2]; simp
  have HX2 : Hid (Boxed W2 w.heap.size 39 (.slice none 0 0)) := by rw [eW2]; exact World.alloc_heap_new w _
  rw [← eW2]
  clear eW2
  have HS2 : Hid (∀ k, S k → k < W2.heap.size) := fun k hk => by have := hS k hk; omega
  have HA0 : Hid (ColB w W2 w.heap.size S (.slice none 0 0) [] W2) := ⟨HX2.out, OwnE.nil0 _ _, hb2, KeepsS.refl _ _, HS2.out, Nat.le_refl _, by omega, fun hk => by have := hS _ hk; omega, by omega⟩
  clear hS HX2
  refine range_pm h1n (gf := gf) (lb := lb) rfl eg hseq KpW.trans (KpW.loop HS2.out) hb2 (fun _ => rfl)
    (fun E W => ∃ ov, ColB w W2 w.heap.size S ov E W)
    (fun k A B row ⟨ov, h1⟩ hg hr => ⟨ov, h1.grown hg hr⟩) ⟨_, HA0.out⟩
    (fun x a' W => ∃ Bx, W2.heap.size ≤ Bx ∧ W.heap[Bx]? = some (.cells (plCells x).toArray 43) ∧ a' = { tmps := #[.slice none 0 0, .func (.func gf) #[] lb, .pointer (some ⟨w.heap.size, 0, none⟩), undef, .slice none 0 0, .pointer (some ⟨Bx, 0, none⟩), .func (.func gf) #[] lb, plV x, undef, undef, undef, undef, undef], defers := [] })
    (fun x a' u A B row ⟨Bx, h1, h2, h5⟩ hg hr => ⟨Bx, h1, row_own h2 hg (fun r e => (hr r e).2), h5⟩)
    ?assign ?body ?done
  case assign =>
    rintro l E x R hp W K ⟨ov, hA⟩ hK
    have hb : Below W.heap.size W (W.alloc (.cells #[.int .i64 x.nd.1, .int .i64 x.nd.2, .int .i64 x.pr.1, .int .i64 x.pr.2, .int .i64 x.sl.1, .int .i64 x.sl.2] 43)) := (Below.refl _ _).alloc (Nat.le_refl _) _
    have hfin := fun a' e5 => hK a' (W.alloc (.cells #[.int .i64 x.nd.1, .int .i64 x.nd.2, .int .i64 x.pr.1, .int .i64 x.pr.2, .int .i64 x.sl.1, .int .i64 x.sl.2] 43)) (keepsFrom_below hb) (KpW.below hb (fun j hj => Nat.lt_of_lt_of_le (hA.kl j hj) hA.size)) ⟨ov, hA.below hb⟩ ⟨W.heap.size, hA.size, heap_alloc_new _ _, e5⟩
    have HFin : Hid (K { tmps := #[.slice none 0 0, .func (.func gf) #[] lb, .pointer (some ⟨w.heap.size, 0, none⟩), undef, .slice none 0 0, .pointer (some ⟨W.heap.size, 0, none⟩), .func (.func gf) #[] lb, .agg #[.int .i64 x.nd.1, .int .i64 x.nd.2, .int .i64 x.pr.1, .int .i64 x.pr.2, .int .i64 x.sl.1, .int .i64 x.sl.2], undef, undef, undef, undef, undef], defers := [] } (W.alloc (.cells #[.int .i64 x.nd.1, .int .i64 x.nd.2, .int .i64 x.pr.1, .int .i64 x.pr.2, .int .i64 x.sl.1, .int .i64 x.sl.2] 43))) := hfin _ rfl
    clear hK hfin hb hA
    simp only [encP, plV, plCells]
    gi_wp2
    exact HFin.out
  case body =>
    rintro l E x R hp a' W hlD ⟨ov, hA⟩ ⟨Bx, hx1, hx2, rfl⟩
    have hTl : E.length ≤ 4096 := by have := hp.length_eq; simp at this; omega
    obtain ⟨aw, cw, eo⟩ := hA.own.form
    subst eo
    have HA : Hid (ColB w W2 w.heap.size S (.slice aw E.length cw) E W) := hA
    clear hA
    simp only [plV, plCells]
    have xo := HA.out.box.cell
    have xf := HA.out.box.frozen
    have k_0 : W.cell? ⟨Bx, 0, none⟩ = some (.int .i64 x.nd.1) := by rw [cell_of_row W _ 0 _ _ _ hx2]; rfl
    have k_1 : W.cell? ⟨Bx, 1, none⟩ = some (.int .i64 x.nd.2) := by rw [cell_of_row W _ 1 _ _ _ hx2]; rfl
    have k_2 : W.cell? ⟨Bx, 2, none⟩ = some (.int .i64 x.pr.1) := by rw [cell_of_row W _ 2 _ _ _ hx2]; rfl
    have k_3 : W.cell? ⟨Bx, 3, none⟩ = some (.int .i64 x.pr.2) := by rw [cell_of_row W _ 3 _ _ _ hx2]; rfl
    have k_4 : W.cell? ⟨Bx, 4, none⟩ = some (.int .i64 x.sl.1) := by rw [cell_of_row W _ 4 _ _ _ hx2]; rfl
    have k_5 : W.cell? ⟨Bx, 5, none⟩ = some (.int .i64 x.sl.2) := by rw [cell_of_row W _ 5 _ _ _ hx2]; rfl
    have hal : Below W.heap.size W (W.alloc (.cells #[.int .i64 x.nd.1, .int .i64 x.nd.2, .int .i64 x.pr.1, .int .i64 x.pr.2, .int .i64 x.sl.1, .int .i64 x.sl.2] 43)) := (Below.refl _ _).alloc (Nat.le_refl _) _
    have HAa : Hid (ColB w W2 w.heap.size S (.slice aw E.length cw) E (W.alloc (.cells #[.int .i64 x.nd.1, .int .i64 x.nd.2, .int .i64 x.pr.1, .int .i64 x.pr.2, .int .i64 x.sl.1, .int .i64 x.sl.2] 43))) := HA.out.below hal
    have HKa : Hid (KeepsFrom W2.heap.size W (W.alloc (.cells #[.int .i64 x.nd.1, .int .i64 x.nd.2, .int .i64 x.pr.1, .int .i64 x.pr.2, .int .i64 x.sl.1, .int .i64 x.sl.2] 43)) ∧ KpW S W (W.alloc (.cells #[.int .i64 x.nd.1, .int .i64 x.nd.2, .int .i64 x.pr.1, .int .i64 x.pr.2, .int .i64 x.sl.1, .int .i64 x.sl.2] 43))) := ⟨keepsFrom_below hal, KpW.below hal (fun j hj => Nat.lt_of_lt_of_le (HA.out.kl j hj) HA.out.size)⟩
    have HNw : Hid (∀ j u, ([.int .i64 x.nd.1, .int .i64 x.nd.2, .int .i64 x.pr.1, .int .i64 x.pr.2, .int .i64 x.sl.1, .int .i64 x.sl.2] : List Value)[j]? = some u → (W.alloc (.cells #[.int .i64 x.nd.1, .int .i64 x.nd.2, .int .i64 x.pr.1, .int .i64 x.pr.2, .int .i64 x.sl.1, .int .i64 x.sl.2] 43)).cell? ((⟨W.heap.size, 0, none⟩ : Addr).add j) = some u) := fun j u hj => by
      rw [Addr.add_lit, cell_of_row _ _ _ _ _ _ (heap_alloc_new W _)]
      simpa using hj
    have hsz : W2.heap.size ≤ (W.alloc (.cells #[.int .i64 x.nd.1, .int .i64 x.nd.2, .int .i64 x.pr.1, .int .i64 x.pr.2, .int .i64 x.sl.1, .int .i64 x.sl.2] 43)).heap.size := HAa.out.size
    clear hal hx2
    gi_wp2_with (gi_at_builtin; refine wpListIn_append_own _ rfl _ _ 39 rfl W2.heap.size 43 i0 (.agg #[.int .i64 0, .int .i64 0, .int .i64 0, .int .i64 0, .int .i64 0, .int .i64 0]) 6 48 Try.underlying39 hi hz0 hz1 hz2 rfl (by decide) _ _ _ rfl HAa.out.own ⟨W.heap.size, 0, none⟩ 1 1 [.int .i64 x.nd.1, .int .i64 x.nd.2, .int .i64 x.pr.1, .int .i64 x.pr.2, .int .i64 x.sl.1, .int .i64 x.sl.2] rfl rfl HNw.out (plCells_one x) (by unfold maxLen; omega) (by omega) hsz ?_; intro v3 w3 hown3 hgrow3 _; obtain ⟨g3, c3, e3⟩ : ∃ g c, v3 = .slice (some ⟨g, 0, none⟩) (E.length + 1) c := (ownsRow_succ hown3); subst e3; have HP3 := hide7 (HAa.out.push (x := x) hown3 hgrow3); have xo3 := HP3.out.2.1.cell; have xf3 := HP3.out.2.1.frozen; clear hown3 hgrow3)
    exact ⟨KeepsFrom.trans HKa.out.1 HP3.out.2.2.1, HKa.out.2.trans HP3.out.2.2.2, _, HP3.out.1⟩
  case done =>
    rintro Dd W E hDd hE ⟨ov, hA⟩ hDf
    have hXd : W.heap[Dd]? = some (.deferred (some [])) := hDf
    have HA : Hid (ColB w W2 w.heap.size S ov E W) := hA
    have HDf : Hid (W.heap[Dd]? = some (.deferred (some []))) := hDf
    have HE : Hid (E.Perm xs) := hE
    have x1 := hA.box.cell
    clear hA hDf hXd hE
    gi_wp2
    refine ⟨by simp, .inl ⟨_, _, rfl, run_takeDeferred HDf.out, ?_⟩⟩
    have hgp : W.grownBy (W.putObj Dd (.deferred none)) (some Dd) := grownBy_putObj' W Dd (.deferred none)
    have hE := HA.out.grown hgp (fun r e => by cases e; exact ⟨hDd, _, HDf.out, rfl⟩)
    exact ⟨_, results_tmp rfl _ _ _, ov, E, rfl, HE.out, ownsRow_low hE.own hE.b4, hE.bel⟩
theorem collect_any (gf : Nat) (lb : Array Value) (eg : ∀ args w, (callFunc gf args).run Try.prog w = .ok (.enter gf args) w) (S : Nat → Prop) (xs : List Pl) (w : World) (hxl : xs.length ≤ 4096)
    (hS : ∀ k, S k → k < w.heap.size) (hseq : SeqPm 4 Try.prog gf lb encP (KpW S) xs w) :
    Calls Try.prog 62 #[.func (.func gf) #[] lb] w fun e w' => ∃ v' E, e = .returned v' ∧ E.Perm xs ∧ OwnPl w.heap.size w' v' E ∧ Below w.heap.size w w' := by
  go_enter Try.func62, Try.ntmps62
  go_wp2_with fail
  refine (callsIn_wide.1 (appendSeq_in 5 (Nat.le_refl _) gf lb eg S xs w hxl hS hseq)).mono ?_
  rintro e w1 ⟨v1, E, rfl, hE, ho, hb⟩
  have HO : Hid (E.Perm xs ∧ OwnPl w.heap.size w1 v1 E) := ⟨hE, ho⟩
  have HB : Hid (Below w.heap.size w w1) := hb
  obtain ⟨a1, c1, e1⟩ := ho.form
  subst e1
  clear ho hb hE
  go_wp2
  go_ret
  exact ⟨_, E, rfl, HO.out.1, HO.out.2, HB.out⟩
theorem values_seq (n : Nat) (hn : 2 ≤ n) (B1 sb : Nat) (D : List Pl) (w : World) (hB1 : w.cell? ⟨B1, 0, none⟩ = some (.map (some sb))) (hM : MapIs Pl.nd plV w sb D) :
    SeqPm n Try.prog 64 #[.pointer (some ⟨B1, 0, none⟩)] encP (KpW fun k => k = sb) D w := fun l J W hW hJ hY h0 =>
  values1_in n hn l B1 sb D J W ((hW.cell (p := ⟨B1, 0, none⟩) (cell_lt hB1)).trans hB1) (hM.keep (hW.block _ hM.lt)) hJ hY h0

set_option maxHeartbeats 1000000 in
theorem sortedFunc_any (T : List Pl) (B1 sb : Nat) (D : List Pl) (w : World) (hB1 : w.cell? ⟨B1, 0, none⟩ = some (.map (some sb))) (hM : MapIs Pl.nd plV w sb D) (hp : D.Perm T) (hT : SrtT T) (hl : T.length ≤ 4096) :
    Calls Try.prog 43 #[.func (.func 64) #[] #[.pointer (some ⟨B1, 0, none⟩)], .func (.func 45) #[] #[]] w fun e w' => ∃ v', e = .returned v' ∧ OwnPl w.heap.size w' v' T ∧ Below w.heap.size w w' := by
  have HQ : Hid (SeqPm 4 Try.prog 64 #[.pointer (some ⟨B1, 0, none⟩)] encP (KpW fun k => k = sb) D w) := values_seq 4 (by omega) B1 sb D w hB1 hM
  have HS : Hid (∀ k, k = sb → k < w.heap.size) := fun k e => e ▸ hM.lt
  have HDl : Hid (D.length ≤ 4096) := by rw [hp.length_eq]; exact hl
  have HP : Hid (D.Perm T) := hp
  have HT : Hid (SrtT T) := hT
  clear hB1 hM hp hT
  have eg : ∀ args w, (callFunc 64 args).run Try.prog w = .ok (.enter 64 args) w := enters_of Try.func64 (by kernel_rfl) rfl
  have HEg : Hid (∀ args w, (callFunc 64 args).run Try.prog w = .ok (.enter 64 args) w) := eg
  clear eg
  go_enter Try.func43, Try.ntmps43
  go_wp2_with fail
  refine (collect_any _ _ HEg.out (fun k => k = sb) D w HDl.out HS.out HQ.out).mono ?_
  rintro e w1 ⟨v1, E, rfl, hE, ho, hb⟩
  have HE : Hid (E.Perm T) := hE.trans HP.out
  have HB : Hid (Below w.heap.size w w1) := hb
  have HO : Hid (OwnPl w.heap.size w1 v1 E) := ho
  have hel : E.length ≤ 4096 := by rw [hE.length_eq]; exact HDl.out
  clear hE hb HQ HS HP HDl
  rcases ho.2 with ⟨rfl, hz⟩ | ⟨g, cap, cur, rfl, hg, hc, hcap, _⟩
  · have e0 : E = [] := List.eq_nil_of_length_eq_zero hz
    have HTe : Hid (T = []) := by (have h9 := HE.out; rw [e0] at h9; exact (List.nil_perm.1 h9))
    clear ho hz e0
    go_wp2_with fail
    refine (sortP_none none 0 _).mono ?_
    rintro e w2 ⟨rfl, hw⟩
    replace hw := hw.symm
    subst hw
    go_wp2
    go_ret
    exact ⟨_, rfl, by rw [HTe.out]; exact OwnE.nil0 _ _, HB.out⟩
  · have HG : Hid (g < w1.heap.size ∧ w.heap.size ≤ g) := ⟨row_lt hc, hg⟩
    clear ho hc hcap hg
    go_wp2_with fail
    refine (sortP_some w.heap.size g cap E _ HO.out HG.out.1 HG.out.2 (by omega)).mono ?_
    rintro e w2 ⟨rfl, D', hp2, hs2, ho2, hb2⟩
    have HTe : Hid (D' = T) := sorted_eq (hp2.trans HE.out) hs2 HT.out
    have hle : D'.length = E.length := hp2.length_eq
    have HO2 : Hid (OwnPl w.heap.size w2 (.slice (some ⟨g, 0, none⟩) E.length cap) D') := by (rw [← hle]; exact ho2)
    have HB2 : Hid (Below w.heap.size w w2) := HB.out.trans hb2
    clear hp2 hs2 ho2 hb2 hle
    go_wp2
    go_ret
    exact ⟨_, rfl, by (have h9 := HO2.out; rw [HTe.out] at h9; exact h9), HB2.out⟩

set_option maxHeartbeats 1000000 in
theorem valuesM_any (sb : Nat) (w : World) :
    Calls Try.prog 44 #[.map (some sb)] w fun e w' => e = .returned (.func (.func 64) #[] #[.pointer (some ⟨w.heap.size, 0, none⟩)]) ∧ w' = w.alloc (.cells #[.map (some sb)] 62) := by
  go_enter Try.func44, Try.ntmps44
  go_wp2
  go_ret
  exact ⟨rfl, rfl⟩

set_option maxHeartbeats 2000000 in
theorem all_any (F : Nat → Prop) (v : Value) (L : List Mv) (w : World) (h : TreeV F w v L) (hF : ∀ j, F j → j < w.heap.size) :
    Calls Try.prog 25 #[v] w fun e w' => ∃ v', e = .returned v' ∧ OwnPl w.heap.size w' v' (doneT L) ∧ AskP F w v L w' := by
  have HV : Hid (TreeV F w v L) := h
  obtain ⟨p, rfl⟩ : ∃ p, v = .pointer p := by rcases h with ⟨tb, rfl, _⟩ | ⟨rfl, _⟩ <;> exact ⟨_, rfl⟩
  clear h hF
  go_enter Try.func25, Try.ntmps25
  go_wp2_with fail
  refine (redone_v F (.pointer p) L _ HV.out).mono ?_
  rintro e W1 ⟨tb, F2, P, lv, sb, kb, rfl, h1, h2, h3, h4, h5⟩
  have t2 := h1.t2
  have HM : Hid (SMap W1 sb (doneT L)) := by (have h9 := h1.st; rw [List.take_of_length_le (by simp), h2] at h9; exact h9)
  have HTs : Hid ((doneT L).length ≤ 4096) := by (have h8 := doneT_length L; have h9 := h1.small; rw [← h2] at h8 ⊢; simp only [List.length_map] at h8; exact Nat.le_trans h8 h9)
  have HV1 : Hid (TreeV F W1 (.pointer p) L) := h4
  have HTo1 : Hid (Touch F w W1) := h3
  clear h1 h2 h3 h4 h5 HV
  go_wp2_with fail
  clear t2
  refine (valuesM_any sb _).mono ?_
  rintro e W2 ⟨rfl, hw⟩
  have hb2 : Below W1.heap.size W1 W2 := by rw [hw]; exact (Below.refl _ _).alloc (Nat.le_refl _) _
  have hc2 : W2.cell? ⟨W1.heap.size, 0, none⟩ = some (.map (some sb)) := by rw [cell_of_row W2 W1.heap.size 0 _ _ _ (by rw [hw]; exact heap_alloc_new W1 _)]; rfl
  have HC2 : Hid (W2.cell? ⟨W1.heap.size, 0, none⟩ = some (.map (some sb))) := hc2
  have HM2 : Hid (SMap W2 sb (doneT L)) := HM.out.keep (hb2.block _ HM.out.lt)
  have HV2 : Hid (TreeV F W2 (.pointer p) L) := HV1.out.below hb2
  have HTo2 : Hid (Touch F w W2) := HTo1.out.trans (Touch.of_below (F := fun _ => False) hb2) (fun j h => h.elim)
  clear hw hb2 hc2 HM HV1 HTo1
  go_wp2_with fail
  obtain ⟨D, hD, hp⟩ := HM2.out
  refine (sortedFunc_any (doneT L) W1.heap.size sb D _ HC2.out hD hp (goodT L).srt HTs.out).mono ?_
  rintro e w3 ⟨v3, rfl, ho, hb⟩
  have HO : Hid (OwnPl w.heap.size w3 v3 (doneT L)) := ho.low HTo2.out.size
  have HV3 : Hid (TreeV F w3 (.pointer p) L) := HV2.out.below hb
  have HTo3 : Hid (Touch F w w3) := HTo2.out.trans (Touch.of_below (F := fun _ => False) hb) (fun j h => h.elim)
  obtain ⟨a3, n3, c3, e3⟩ : ∃ a n c, v3 = .slice a n c := by obtain ⟨a, c, e⟩ := ho.form; exact ⟨a, _, c, e⟩
  subst e3
  clear ho hb hD hp HM2 HC2
  go_wp2
  go_ret
  exact ⟨_, rfl, HO.out, HV3.out, HTo3.out⟩

end Go.Proofs.Ytljepindfdhbbaa
