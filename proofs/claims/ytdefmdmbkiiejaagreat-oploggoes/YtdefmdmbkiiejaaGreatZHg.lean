/- What slices.Collect gathers. -/
import Derived.Test.YtdefmdmbkiiejaaGreatOlY2g
import Derived.Test.YtdefmdmbkiiejaaGreatZGg
import Derived.Sort.QuietIn
namespace Go.Proofs.YtdefmdmbkiiejaaGreat
open Go.RowKit Go.Shelf
set_option linter.unusedVariables false
set_option linter.unusedSimpArgs false

attribute [local go_sem] Oper.semAt_some

theorem rowIn_seen {w W : World} {a : Option Addr} {d : List Int} (S : Nat → Prop) (hr : d = [] ∨ ∃ b o, a = some ⟨b, o, none⟩ ∧ IntsAt w b o d) (hb : Below w.heap.size w W) (hS : ∀ k, k < w.heap.size → S k) : RowIn S W a d := by
  by_cases hd : d = []
  · exact .inl hd
  · obtain ⟨b, o, e, hr⟩ := hr.resolve_left hd
    exact .inr ⟨b, o, e, hS b (hr.lt hd), hr.below hb⟩
theorem hide7 {p : Prop} (h : p) : Hid p := h
/-- The changes E lie in a row from block N on, whose value lies in the box b0; since W2 nothing of S has changed, since w nothing that lay there. -/
structure ColB (w W2 : World) (b0 : Nat) (S : Nat → Prop) (ov : Value) (E : List (Ch × Value)) (U : World) : Prop where
  box : Boxed U b0 22 ov
  own : OwnH W2.heap.size U ov E
  bel : Below w.heap.size w U
  kp : KeepsH S W2 U
  b1 : w.heap.size ≤ b0
  b2 : b0 < W2.heap.size
  b3 : ¬ S b0
  b4 : w.heap.size ≤ W2.heap.size
section
variable {w W2 : World} {b0 : Nat} {S : Nat → Prop} {ov : Value} {E : List (Ch × Value)} {U U' : World}
theorem ColB.below (h : ColB w W2 b0 S ov E U) (hb : Below U.heap.size U U') : ColB w W2 b0 S ov E U' :=
  ⟨(hb.block b0 h.box.lt).trans h.box, h.own.below hb, h.bel.trans (hb.mono h.bel.size), h.kp.below hb, h.b1, h.b2, h.b3, h.b4⟩
theorem ColB.size (h : ColB w W2 b0 S ov E U) : W2.heap.size ≤ U.heap.size := h.kp.1.1
theorem ColB.grown (h : ColB w W2 b0 S ov E U) {row : Option Nat} (hg : U.grownBy U' row) (hr : ∀ r, row = some r → W2.heap.size ≤ r ∧ ∃ o : Obj, U.heap[r]? = some o ∧ o.isCells = false) : ColB w W2 b0 S ov E U' := by
  have hr2 : ∀ r, row = some r → ∃ o : Obj, U.heap[r]? = some o ∧ o.isCells = false := fun r e => (hr r e).2
  refine ⟨row_own h.box hg hr2, ownsRow_own h.own hg hr2, h.bel.grown hg h.bel.size (fun j e => Nat.le_trans h.b4 (hr j e).1), ⟨h.kp.1.trans (KeepsS.of_grown hg (fun k hk => Nat.lt_of_lt_of_le (h.kp.2 k hk) h.size) (fun r e hS => by have := (hr r e).1; have := h.kp.2 r hS; omega)), h.kp.2⟩, h.b1, h.b2, h.b3, h.b4⟩
/-- Behind an append. -/
theorem ColB.push (h : ColB w W2 b0 S ov E U) {c : Ch} {dv v : Value} (hown : U'.ownsRow W2.heap.size 34 13 v (E.length + 1) (flatH E ++ chCells c dv)) (hg : U.grownBy U' ov.ownBlock) :
    ColB w W2 b0 S v (E ++ [(c, dv)]) (U'.setCell ⟨b0, 0, none⟩ v) ∧ Boxed U' b0 22 ov ∧ KeepsFrom W2.heap.size U (U'.setCell ⟨b0, 0, none⟩ v) ∧ KeepsS S U (U'.setCell ⟨b0, 0, none⟩ v) := by
  have hrow : ∀ j, ov.ownBlock = some j → W2.heap.size ≤ j := fun j e => (World.ownsRow.lt h.own j e).1
  have hbx : Boxed U' b0 22 ov := h.box.kept hg (fun e => by have := hrow b0 e.symm; have := h.b2; omega)
  have hvb : ∀ j, v.ownBlock = some j → W2.heap.size ≤ j := fun j e => (World.ownsRow.lt hown j e).1
  have far : ∀ k, k ≠ b0 → (U'.setCell ⟨b0, 0, none⟩ v).heap[k]? = U'.heap[k]? := fun k hk => RowKit.Below.heap_setCell _ _ _ _ hk
  have hks : KeepsS S U (U'.setCell ⟨b0, 0, none⟩ v) := (KeepsS.of_grown hg (fun k hk => Nat.lt_of_lt_of_le (h.kp.2 k hk) h.size) (fun r e hS => by have := hrow r e; have := h.kp.2 r hS; omega)).trans ⟨by simp [World.setCell], fun k hk => far k (fun e => h.b3 (e ▸ hk))⟩
  refine ⟨⟨hbx.set v, ?_, ?_, ⟨h.kp.1.trans hks, h.kp.2⟩, h.b1, h.b2, h.b3, h.b4⟩, hbx, (keepsFrom_row h.own hg).trans (keepsFrom_set _ _ _), hks⟩
  · have h1 : OwnH W2.heap.size U' v (E ++ [(c, dv)]) := OwnH.snoc hown
    exact ownsRow_keep h1 fun k e => far k (by have := hvb k e; have := h.b2; omega)
  · exact (h.bel.grown hg h.bel.size (fun j e => by have := hrow j e; have := h.b4; omega)).setCell (p := ⟨b0, 0, none⟩) h.b1 _
end

set_option maxRecDepth 100000 in
set_option maxHeartbeats 8000000 in
theorem appendSeq_in (n : Nat) (hn : 5 ≤ n) (gf : Nat) (lb : Array Value) (eg : ∀ args w, (callFunc gf args).run Tryz.prog w = .ok (.enter gf args) w) (S : Nat → Prop) (xs : List (Ch × Value)) (w : World) (hxs : ∀ x ∈ xs, ∃ a c, x.2 = .slice a x.1.deps.length c) (hxl : xs.length ≤ 4096)
    (hS : ∀ k, S k → k < w.heap.size) (hseq : SeqOf (n - 1) Tryz.prog gf lb encH (KeepsS S) xs w) :
    CallsIn Fence.wide n Tryz.prog 66 #[.slice none 0 0, .func (.func gf) #[] lb] w fun e w' => ∃ v', e = .returned v' ∧ OwnH w.heap.size w' v' xs ∧ Below w.heap.size w w' := by
  obtain ⟨i0, hi, hz0, hz1, hz2⟩ := info_parts infoChange
  have hro : Fence.wide.round = none := rfl
  have h1n : 1 ≤ n := by omega
  refine callsIn_of_wp_marks Tryz.func66 rfl trivial ?_ hro
  simp only [Tryz.ntmps66, List.size_toArray, List.length_cons, List.length_nil, Nat.reduceAdd, Nat.reduceSub, Array.replicate_succ, Array.replicate_zero, List.push_toArray, List.append_toArray, List.nil_append, List.cons_append]
  gi_wp2
  obtain ⟨W2, eW2⟩ : ∃ X, X = w.alloc (.cells #[.slice none 0 0] 22) := ⟨_, rfl⟩
  have hb2 : Below w.heap.size w W2 := by rw [eW2]; exact (Below.refl _ _).alloc (Nat.le_refl _) _
  have hsz2 : W2.heap.size = w.heap.size + 1 := by rw [eW2]; simp
  have HX2 : Hid (Boxed W2 w.heap.size 22 (.slice none 0 0)) := by rw [eW2]; exact World.alloc_heap_new w _
  rw [← eW2]
  clear eW2
  have HS2 : Hid (∀ k, S k → k < W2.heap.size) := fun k hk => by have := hS k hk; omega
  have HA0 : Hid (ColB w W2 w.heap.size S (.slice none 0 0) [] W2) := ⟨HX2.out, OwnH.nil0 _ _, hb2, ⟨KeepsS.refl _ _, HS2.out⟩, Nat.le_refl _, by omega, fun hk => by have := hS _ hk; omega, by omega⟩
  have HXs : Hid (∀ x ∈ xs, ∃ a c, x.2 = .slice a x.1.deps.length c) := hxs
  clear hxs hS HX2
  refine range_of h1n (gf := gf) (lb := lb) rfl eg hseq KeepsS.trans (keepsSK_b HS2.out) hb2 (fun _ => rfl)
    (fun k W => ∃ ov, ColB w W2 w.heap.size S ov (xs.take k) W) (fun _ _ _ => False)
    (fun k A B row ⟨ov, h1⟩ hg hr => ⟨ov, h1.grown hg hr⟩) (fun c k A B row hf _ _ => hf) ⟨_, HA0.out⟩
    (fun x a' W => ∃ Bx, W2.heap.size ≤ Bx ∧ W.heap[Bx]? = some (.cells (chCells x.1 x.2).toArray 34) ∧ a' = { tmps := #[.slice none 0 0, .func (.func gf) #[] lb, .pointer (some ⟨w.heap.size, 0, none⟩), undef, .slice none 0 0, .pointer (some ⟨Bx, 0, none⟩), .func (.func gf) #[] lb, chV x.1 x.2, undef, undef, undef, undef, undef], defers := [] })
    (fun x a' u A B row ⟨Bx, h1, h2, h5⟩ hg hr => ⟨Bx, h1, row_own h2 hg (fun r e => (hr r e).2), h5⟩)
    ?assign ?body ?done ?stop
  case assign =>
    rintro l k hk W K ⟨ov, hA⟩ hK
    obtain ⟨a0, c0, e1⟩ := HXs.out _ (List.getElem_mem hk)
    generalize xs[k] = x at *
    obtain ⟨⟨ac, ar, sq, ds, kd, nc, nr, pc, pr, fc, fr, nm, vl⟩, dv⟩ := x
    simp only at e1
    subst e1
    have hb : Below W.heap.size W (W.alloc (.cells #[.int .i64 ac, .int .i64 ar, .int .i64 sq, .slice a0 ds.length c0, .int .i64 kd, .int .i64 nc, .int .i64 nr, .int .i64 pc, .int .i64 pr, .int .i64 fc, .int .i64 fr, .string nm, .string vl] 34)) := (Below.refl _ _).alloc (Nat.le_refl _) _
    have hfin := fun a' e5 => hK a' (W.alloc (.cells #[.int .i64 ac, .int .i64 ar, .int .i64 sq, .slice a0 ds.length c0, .int .i64 kd, .int .i64 nc, .int .i64 nr, .int .i64 pc, .int .i64 pr, .int .i64 fc, .int .i64 fr, .string nm, .string vl] 34)) (keepsFrom_below hb) (KeepsS.of_below hb (fun j hj => Nat.lt_of_lt_of_le (hA.kp.2 j hj) hA.size)) ⟨ov, hA.below hb⟩ ⟨W.heap.size, hA.size, heap_alloc_new _ _, e5⟩
    have HFin : Hid (K { tmps := #[.slice none 0 0, .func (.func gf) #[] lb, .pointer (some ⟨w.heap.size, 0, none⟩), undef, .slice none 0 0, .pointer (some ⟨W.heap.size, 0, none⟩), .func (.func gf) #[] lb, .agg #[.int .i64 ac, .int .i64 ar, .int .i64 sq, .slice a0 ds.length c0, .int .i64 kd, .int .i64 nc, .int .i64 nr, .int .i64 pc, .int .i64 pr, .int .i64 fc, .int .i64 fr, .string nm, .string vl], undef, undef, undef, undef, undef], defers := [] } (W.alloc (.cells #[.int .i64 ac, .int .i64 ar, .int .i64 sq, .slice a0 ds.length c0, .int .i64 kd, .int .i64 nc, .int .i64 nr, .int .i64 pc, .int .i64 pr, .int .i64 fc, .int .i64 fr, .string nm, .string vl] 34))) := hfin _ rfl
    clear hK hfin hb hA
    simp only [encH, chV, chCells]
    gi_wp2
    exact HFin.out
  case body =>
    rintro l k hk a' W hlD ⟨ov, hA⟩ ⟨Bx, hx1, hx2, rfl⟩
    have eT : xs.take (k + 1) = xs.take k ++ [xs[k]] := List.take_succ_eq_append_getElem hk
    have hTl : (xs.take k).length ≤ 4096 := by rw [List.length_take]; omega
    obtain ⟨a0, c0, e1⟩ := HXs.out _ (List.getElem_mem hk)
    obtain ⟨E, eE⟩ : ∃ E, E = xs.take k := ⟨_, rfl⟩
    rw [← eE] at hA eT hTl
    have HTk : Hid (xs.take (k + 1) = E ++ [xs[k]]) := eT
    generalize xs[k] = x at *
    obtain ⟨⟨ac, ar, sq, ds, kd, nc, nr, pc, pr, fc, fr, nm, vl⟩, dv⟩ := x
    simp only at e1
    subst e1
    obtain ⟨aw, cw, eo⟩ := hA.own.form
    subst eo
    have HA : Hid (ColB w W2 w.heap.size S (.slice aw E.length cw) E W) := hA
    have HBx : Hid (W.heap[Bx]? = some (.cells #[.int .i64 ac, .int .i64 ar, .int .i64 sq, .slice a0 ds.length c0, .int .i64 kd, .int .i64 nc, .int .i64 nr, .int .i64 pc, .int .i64 pr, .int .i64 fc, .int .i64 fr, .string nm, .string vl] 34)) := hx2
    clear hA hx2 eT eE
    simp only [chV, chCells]
    have xo := HA.out.box.cell
    have xf := HA.out.box.frozen
    obtain ⟨k_0, k_1, k_2, k_3, k_4, k_5, k_6, k_7, k_8, k_9, k_10, k_11, k_12⟩ := row_cells HBx.out
    have hal : Below W.heap.size W (W.alloc (.cells #[.int .i64 ac, .int .i64 ar, .int .i64 sq, .slice a0 ds.length c0, .int .i64 kd, .int .i64 nc, .int .i64 nr, .int .i64 pc, .int .i64 pr, .int .i64 fc, .int .i64 fr, .string nm, .string vl] 34)) := (Below.refl _ _).alloc (Nat.le_refl _) _
    have HAa : Hid (ColB w W2 w.heap.size S (.slice aw E.length cw) E (W.alloc (.cells #[.int .i64 ac, .int .i64 ar, .int .i64 sq, .slice a0 ds.length c0, .int .i64 kd, .int .i64 nc, .int .i64 nr, .int .i64 pc, .int .i64 pr, .int .i64 fc, .int .i64 fr, .string nm, .string vl] 34))) := HA.out.below hal
    have HKa : Hid (KeepsFrom W2.heap.size W (W.alloc (.cells #[.int .i64 ac, .int .i64 ar, .int .i64 sq, .slice a0 ds.length c0, .int .i64 kd, .int .i64 nc, .int .i64 nr, .int .i64 pc, .int .i64 pr, .int .i64 fc, .int .i64 fr, .string nm, .string vl] 34)) ∧ KeepsS S W (W.alloc (.cells #[.int .i64 ac, .int .i64 ar, .int .i64 sq, .slice a0 ds.length c0, .int .i64 kd, .int .i64 nc, .int .i64 nr, .int .i64 pc, .int .i64 pr, .int .i64 fc, .int .i64 fr, .string nm, .string vl] 34))) := ⟨keepsFrom_below hal, KeepsS.of_below hal (fun j hj => Nat.lt_of_lt_of_le (HA.out.kp.2 j hj) HA.out.size)⟩
    have HNw : Hid (∀ j u, ([.int .i64 ac, .int .i64 ar, .int .i64 sq, .slice a0 ds.length c0, .int .i64 kd, .int .i64 nc, .int .i64 nr, .int .i64 pc, .int .i64 pr, .int .i64 fc, .int .i64 fr, .string nm, .string vl] : List Value)[j]? = some u → (W.alloc (.cells #[.int .i64 ac, .int .i64 ar, .int .i64 sq, .slice a0 ds.length c0, .int .i64 kd, .int .i64 nc, .int .i64 nr, .int .i64 pc, .int .i64 pr, .int .i64 fc, .int .i64 fr, .string nm, .string vl] 34)).cell? ((⟨W.heap.size, 0, none⟩ : Addr).add j) = some u) := fun j u hj => by
      rw [Addr.add_lit, cell_of_row _ _ _ _ _ _ (heap_alloc_new W _)]
      simpa using hj
    have hsz : W2.heap.size ≤ (W.alloc (.cells #[.int .i64 ac, .int .i64 ar, .int .i64 sq, .slice a0 ds.length c0, .int .i64 kd, .int .i64 nc, .int .i64 nr, .int .i64 pc, .int .i64 pr, .int .i64 fc, .int .i64 fr, .string nm, .string vl] 34)).heap.size := HAa.out.size
    clear hal
    gi_wp2_with (gi_at_builtin; refine wpListIn_append_own _ rfl _ _ 22 rfl W2.heap.size 34 i0 (.agg #[.int .i64 0, .int .i64 0, .int .i64 0, .slice none 0 0, .int .i64 0, .int .i64 0, .int .i64 0, .int .i64 0, .int .i64 0, .int .i64 0, .int .i64 0, .string ⟨#[]⟩, .string ⟨#[]⟩]) 13 136 Tryz.underlying22 hi hz0 hz1 hz2 rfl (by decide) _ _ _ rfl HAa.out.own ⟨W.heap.size, 0, none⟩ 1 1 [.int .i64 ac, .int .i64 ar, .int .i64 sq, .slice a0 ds.length c0, .int .i64 kd, .int .i64 nc, .int .i64 nr, .int .i64 pc, .int .i64 pr, .int .i64 fc, .int .i64 fr, .string nm, .string vl] rfl rfl HNw.out (fun x hx => (by simp at hx; rcases hx with rfl | rfl | rfl | rfl | rfl | rfl | rfl | rfl | rfl | rfl | rfl | rfl | rfl <;> rfl)) (by unfold maxLen; omega) (by omega) hsz ?_; intro v3 w3 hown3 hgrow3 _; obtain ⟨g3, c3, e3⟩ : ∃ g c, v3 = .slice (some ⟨g, 0, none⟩) (E.length + 1) c := (ownsRow_succ hown3); subst e3; have HP3 := hide7 (HAa.out.push (c := (⟨ac, ar, sq, ds, kd, nc, nr, pc, pr, fc, fr, nm, vl⟩ : Ch)) (dv := .slice a0 ds.length c0) hown3 hgrow3); have xo3 := HP3.out.2.1.cell; have xf3 := HP3.out.2.1.frozen; clear hown3 hgrow3)
    exact ⟨KeepsFrom.trans HKa.out.1 HP3.out.2.2.1, HKa.out.2.trans HP3.out.2.2.2, _, by rw [HTk.out]; exact HP3.out.1⟩
  case done =>
    rintro Dd W hDd ⟨ov, hA⟩ hDf
    have hXd : W.heap[Dd]? = some (.deferred (some [])) := hDf
    rw [List.take_length] at hA
    have HA : Hid (ColB w W2 w.heap.size S ov xs W) := hA
    have HDf : Hid (W.heap[Dd]? = some (.deferred (some []))) := hDf
    have x1 := hA.box.cell
    clear hA hDf hXd
    gi_wp2
    refine ⟨by simp, .inl ⟨_, _, rfl, run_takeDeferred HDf.out, ?_⟩⟩
    have hgp : W.grownBy (W.putObj Dd (.deferred none)) (some Dd) := grownBy_putObj' W Dd (.deferred none)
    have hE := HA.out.grown hgp (fun r e => by cases e; exact ⟨hDd, _, HDf.out, rfl⟩)
    exact ⟨_, results_tmp rfl _ _ _, ov, rfl, ownsRow_low hE.own hE.b4, hE.bel⟩
  case stop => rintro D c k W hD hk hf; exact hf.elim
theorem collect_any (gf : Nat) (lb : Array Value) (eg : ∀ args w, (callFunc gf args).run Tryz.prog w = .ok (.enter gf args) w) (S : Nat → Prop) (xs : List (Ch × Value)) (w : World) (hxs : ∀ x ∈ xs, ∃ a c, x.2 = .slice a x.1.deps.length c) (hxl : xs.length ≤ 4096)
    (hS : ∀ k, S k → k < w.heap.size) (hseq : SeqOf 4 Tryz.prog gf lb encH (KeepsS S) xs w) :
    Calls Tryz.prog 46 #[.func (.func gf) #[] lb] w fun e w' => ∃ v', e = .returned v' ∧ OwnH w.heap.size w' v' xs ∧ Below w.heap.size w w' := by
  go_enter Tryz.func46, Tryz.ntmps46
  go_wp2_with fail
  refine (callsIn_wide.1 (appendSeq_in 5 (Nat.le_refl _) gf lb eg S xs w hxs hxl hS hseq)).mono ?_
  rintro e w1 ⟨v1, rfl, ho, hb⟩
  have HO : Hid (OwnH w.heap.size w1 v1 xs) := ho
  have HB : Hid (Below w.heap.size w w1) := hb
  obtain ⟨a1, c1, e1⟩ := ho.form
  subst e1
  clear ho hb
  go_wp2
  go_ret
  exact ⟨_, rfl, HO.out, HB.out⟩
set_option maxHeartbeats 1000000 in
theorem orEmpty_ptr (lb : Nat) (w : World) :
    Calls Tryz.prog 36 #[.pointer (some ⟨lb, 0, none⟩)] w fun e w' => e = .returned (.pointer (some ⟨lb, 0, none⟩)) ∧ w' = w := by
  go_enter Tryz.func36, Tryz.ntmps36
  go_wp2
  go_ret
  exact ⟨rfl, rfl⟩

/-- Each: the changes that are not within known, gathered at the call, in a box. -/
def EachP (L : List Ch) (D : List (Ch × Value)) (kn : List Int) (w : World) (e : Ending) (w' : World) : Prop := ∃ v', e = .returned (.func (.func 47) #[] #[.pointer (some ⟨w.heap.size, 0, none⟩)]) ∧ Boxed w' w.heap.size 22 v' ∧ OwnH (w.heap.size + 1) w' v' (if checkL kn = 0 then lackE D L kn else []) ∧ Below w.heap.size w w'
set_option maxRecDepth 100000 in
set_option maxHeartbeats 8000000 in
theorem each_any (lb : Nat) (room : Int) (L : List Ch) (F : Nat → Prop) (mb : Nat) (ord : Value) (own : List Value) (D : List (Ch × Value)) (kv : Value) (kn : List Int) (w : World) (h : LogIs F w lb room L mb ord own D) (hs : Srt L) (hl : L.length ≤ 4096) (hk : IsI w kv kn) :
    Calls Tryz.prog 24 #[.pointer (some ⟨lb, 0, none⟩), kv] w (EachP L D kn w) := by
  have HIk : Hid (IsI w kv kn) := hk
  obtain ⟨ak, ck, rfl, hck, hkl, hrk⟩ := hk
  have HRk : Hid (kn = [] ∨ ∃ b o, ak = some ⟨b, o, none⟩ ∧ IntsAt w b o kn) := hrk
  have HL : Hid (LogIs F w lb room L mb ord own D) := h
  have HSrt : Hid (Srt L) := hs
  clear h hs hrk
  obtain ⟨W0, eW0⟩ : ∃ X, X = w.alloc (.cells #[.slice none 0 0] 22) := ⟨_, rfl⟩
  obtain ⟨b0, eb0⟩ : ∃ b, b = w.heap.size := ⟨_, rfl⟩
  have hb0 : Below w.heap.size w W0 := by rw [eW0]; exact (Below.refl _ _).alloc (Nat.le_refl _) _
  have hs0 : W0.heap.size = b0 + 1 := by rw [eW0, eb0]; simp
  have HX0 : Hid (Boxed W0 b0 22 (.slice none 0 0)) := by rw [eW0, eb0]; exact World.alloc_heap_new w _
  have HB0 : Hid (Below w.heap.size w W0) := hb0
  have HE0 : Hid (b0 = w.heap.size) := eb0
  have HS0 : Hid (W0.heap.size = b0 + 1) := hs0
  clear hb0 hs0
  go_enter Tryz.func24, Tryz.ntmps24
  go_wp2_with fail
  rw [← eW0, ← eb0]
  clear eW0 eb0
  refine (check_any _ kn _ (HIk.out.below HB0.out)).mono ?_
  rintro e w' ⟨rfl, hw⟩
  replace hw := hw.symm
  subst hw
  by_cases hc : checkL kn = 0
  · rw [hc]
    go_wp2_with fail
    refine (orEmpty_ptr lb _).mono ?_
    rintro e w1 ⟨rfl, hw1⟩
    replace hw1 := hw1.symm
    subst hw1
    go_wp2_with fail
    refine (missing_any lb (.slice ak kn.length ck) _ ⟨_, _, _, rfl⟩).mono ?_
    rintro e w2 ⟨rfl, hw2⟩
    have HC1 : Hid (w2.cell? ⟨W0.heap.size, 0, none⟩ = some (.pointer (some ⟨lb, 0, none⟩))) := by
      rw [hw2]
      have := (Boxed.new W0 23 (.pointer (some ⟨lb, 0, none⟩))).alloc (.cells #[.slice ak kn.length ck] 32)
      exact this.cell
    have HC2 : Hid (w2.cell? ⟨W0.heap.size + 1, 0, none⟩ = some (.slice ak kn.length ck)) := by
      rw [hw2]
      have := Boxed.new (W0.alloc (.cells #[.pointer (some ⟨lb, 0, none⟩)] 23)) 32 (.slice ak kn.length ck)
      rw [show (W0.alloc (.cells #[.pointer (some ⟨lb, 0, none⟩)] 23)).heap.size = W0.heap.size + 1 by simp] at this
      exact this.cell
    have hb2 : Below W0.heap.size W0 w2 := by rw [hw2]; exact ((Below.refl _ _).alloc (Nat.le_refl _) _).alloc (by simp) _
    have HZ2 : Hid (w2.heap.size = W0.heap.size + 2) := by show _ = _; rw [hw2]; simp
    clear hw2
    have HB2 : Hid (Below w.heap.size w w2) := HB0.out.trans (hb2.mono HB0.out.size)
    have HL2 : Hid (LogIs F w2 lb room L mb ord own D) := HL.out.below HB2.out
    have HX2 : Hid (Boxed w2 b0 22 (.slice none 0 0)) := (hb2.block b0 (by have := HS0.out; omega)).trans HX0.out
    have HRw : Hid (RowIn (fun k => k < w2.heap.size) w2 ak kn) := rowIn_seen _ HRk.out HB2.out (fun k hk => Nat.lt_of_lt_of_le hk HB2.out.size)
    have HSq := missing_seq 4 (by omega) W0.heap.size (W0.heap.size + 1) ck (fun k => k < w2.heap.size) F lb room L mb ord own D ak kn w2 HL2.out HSrt.out hl (fun k hk => HL2.out.lt k hk) (by have := HZ2.out; show _ < _; omega) (by have := HZ2.out; show _ < _; omega) (fun k hk => hk) HC1.out HC2.out HRw.out hck hkl
    have HLe : Hid (∀ x ∈ lackE D L kn, ∃ a c, x.2 = .slice a x.1.deps.length c) := fun x hx => by
      obtain ⟨k, hk, rfl⟩ := List.getElem_of_mem hx
      obtain ⟨c, a0, c0, e, _⟩ := lackE_get HL2.out HSrt.out hk
      rw [e]
      exact ⟨a0, c0, rfl⟩
    clear hb2 HC1 HC2 HRw HX0
    go_wp2_with fail
    refine (collect_any 64 _ (enters_of Tryz.func64 (by kernel_rfl) rfl) (fun k => k < w2.heap.size) (lackE D L kn) w2 HLe.out (by rw [lackE_length]; have : (lackL L kn).length ≤ L.length := List.length_filter_le _ _; omega) (fun k hk => hk) HSq).mono ?_
    rintro e w4 ⟨v4, rfl, ho4, hb4⟩
    have HX4 : Hid (Boxed w4 b0 22 (.slice none 0 0)) := (hb4.block b0 (by have := HS0.out; have := HZ2.out; omega)).trans HX2.out
    have HO4 : Hid (OwnH w2.heap.size w4 v4 (lackE D L kn)) := ho4
    have HB4 : Hid (Below w.heap.size w w4) := HB2.out.trans (hb4.mono HB2.out.size)
    obtain ⟨a4, c4, e4⟩ := ho4.form
    subst e4
    have x4 := HX4.out.cell
    have f4 := HX4.out.frozen
    clear ho4 hb4 HSq HLe
    go_wp2
    go_ret
    have e0 := HE0.out
    refine ⟨.slice a4 _ c4, by rw [← e0]; rfl, by rw [← e0]; exact HX4.out.set _, ?_, HB4.out.setCell (p := ⟨b0, 0, none⟩) (by show _ ≤ b0; omega) _⟩
    rw [if_pos hc]
    refine ownsRow_low (ownsRow_keep HO4.out fun k e => RowKit.Below.heap_setCell _ _ _ _ (fun e2 => ?_)) (by have := HS0.out; have := HZ2.out; omega)
    have h3 := HS0.out
    have h4 := HZ2.out
    have h1 := (World.ownsRow.lt HO4.out k e).1
    have h2 : k = b0 := e2
    omega
  · go_wp2
    go_ret
    have e0 := HE0.out
    exact ⟨.slice none 0 0, by rw [← e0]; rfl, by rw [← e0]; exact HX0.out, by rw [if_neg hc]; exact OwnH.nil0 _ _, HB0.out⟩

end Go.Proofs.YtdefmdmbkiiejaaGreat

namespace Go.Proofs.YtdefmdmbkiiejaaGreat
open Go.RowKit Go.Shelf
set_option linter.unusedVariables false
set_option linter.unusedSimpArgs false
attribute [local go_sem] Oper.semAt_some

/-- An iterator that hands out, one by one, values that are those of the list: what each is made of is known when it comes. -/
def SeqEx {α : Type} (n : Nat) (P : Program) (gf : Nat) (lb : Array Value) (Enc : α → Array Value → World → Prop) (Kp : World → World → Prop) (xs : List α) (w : World) : Prop :=
  ∀ (l : Nat) (J Jx : Nat → World → Prop) (W : World), Below w.heap.size w W → AbidesFrom W.heap.size J → AbidesFrom W.heap.size Jx →
    (∀ k (h : k < xs.length) W1 u, Enc xs[k] u W1 → J k W1 → YieldAt Fence.wide (n - 1) P l u W1 fun e W' => (e = .returned (.bool true) ∧ J (k + 1) W' ∧ Kp W1 W') ∨ (e = .returned (.bool false) ∧ Jx (k + 1) W')) →
    J 0 W → CallsIn Fence.wide n P gf (#[.func (.yield l) #[] #[]] ++ lb) W fun e W' => (∃ v, e = .returned v) ∧ (J xs.length W' ∨ ∃ k, k ≤ xs.length ∧ Jx k W')
theorem range_ofE {α : Type} {n : Nat} {P : Program} {g : Operand} {ps : Array Tmp} {assign body : Code} {Q : Exit → Act → World → Prop} {a : Act} {w : World} (hn : 1 ≤ n) {gf : Nat} {lb : Array Value} (hg : a.eval g = .func (.func gf) #[] lb) (eg : ∀ args w, (callFunc gf args).run P w = .ok (.enter gf args) w)
    {Enc : α → Array Value → World → Prop} {Kp : World → World → Prop} {xs : List α} {w0 : World} (hseq : SeqEx (n - 1) P gf lb Enc Kp xs w0) (hKt : ∀ {A B C : World}, Kp A B → Kp B C → Kp A C) (hKb : ∀ (W : World) (l : Nat) (o o' : Obj), w.heap.size ≤ l → W.heap[l]? = some o → o.isCells = false → o.isWalk = false → Kp W (W.putObj l o'))
    (hb0 : Below w0.heap.size w0 w) (hps : ∀ x u W, Enc x u W → u.size = ps.size) (I : Nat → World → Prop) (Ix : Code → Nat → World → Prop) (hI : OwnFrom w.heap.size I) (hIx : ∀ c, OwnFrom w.heap.size (Ix c)) (h0 : I 0 w)
    (Ax : α → Act → World → Prop) (hAx : ∀ x a', OwnFrom w.heap.size (fun (_ : Unit) W => Ax x a' W))
    (hassign : ∀ (l k : Nat) (h : k < xs.length) (u : Array Value) (W : World) (K : Act → World → Prop), Enc xs[k] u W → I k W → (∀ a' W', KeepsFrom w.heap.size W W' → Kp W W' → I k W' → Ax xs[k] a' W' → K a' W') →
      assign.wpIn (Fence.wide.inRound l) (n - 1 - 1) P (Exit.then K (fun _ _ _ => False)) { tmps := (ps.zip u).foldl (fun t (p, v) => t.setIfInBounds p v) a.tmps, defers := [] } W)
    (hbody : ∀ (l k : Nat) (h : k < xs.length) (a' : Act) (W : World), w.heap.size ≤ l → I k W → Ax xs[k] a' W → body.wpIn (Fence.wide.inRound l) (n - 1 - 1) P (roundP w.heap.size Kp I Ix (k + 1) W) a' W)
    (hdone : ∀ (D : Nat) (W : World), w.heap.size ≤ D → I xs.length W → W.heap[D]? = some (.deferred (some [])) → Q .normal { a with defers := { target := .collected D, args := #[] } :: a.defers } W)
    (hstop : ∀ (D : Nat) (c : Code) (k : Nat) (W : World), w.heap.size ≤ D → k ≤ xs.length → Ix c k W → W.heap[D]? = some (.deferred (some [])) → c.wpIn Fence.wide n P Q { a with defers := { target := .collected D, args := #[] } :: a.defers } W) :
    (Code.rangeFunc g ps assign body).wpIn Fence.wide n P Q a w := by
  refine wpIn_range_with hn hg eg (fun fn rec hrec => ?_)
  obtain ⟨W1, hW1⟩ : ∃ W1, (w.alloc (.deferred (some []))).alloc (.loop (rec .ready none)) = W1 := ⟨_, rfl⟩
  have hs1 : W1.heap.size = w.heap.size + 2 := by rw [← hW1]; simp
  have hL1 : W1.heap[w.heap.size + 1]? = some (.loop (rec .ready none)) := by
    rw [← hW1]; have := World.alloc_heap_new (w.alloc (.deferred (some []))) (.loop (rec .ready none)); rwa [World.size_alloc] at this
  have hD1 : W1.heap[w.heap.size]? = some (.deferred (some [])) := by
    rw [← hW1]; exact (Below.heap_alloc _ _ _ (by simp)).trans (World.alloc_heap_new w _)
  have hI1 : I 0 W1 := by rw [← hW1]; exact hI.alloc _ (hI.alloc _ h0)
  have hb1 : Below w0.heap.size w0 W1 := by
    rw [← hW1]; exact hb0.trans ((((Below.refl _ w).alloc (Nat.le_refl _) _).alloc (by simp) _).mono hb0.size)
  rw [hW1]
  refine (hseq (w.heap.size + 1) (fun k W => I k W ∧ W.heap[w.heap.size + 1]? = some (.loop (rec .ready none)) ∧ W.heap[w.heap.size]? = some (.deferred (some []))) (fun k W => ∃ c, Ix c k W ∧ W.heap[w.heap.size + 1]? = some (.loop (rec .done (some c))) ∧ W.heap[w.heap.size]? = some (.deferred (some []))) W1 hb1 ?_ ?_ ?_ ⟨hI1, hL1, hD1⟩).mono ?_
  · rintro k A B row ⟨h1, h2, h3⟩ hgr hr
    have far : ∀ j, j < W1.heap.size → j < A.heap.size → B.heap[j]? = A.heap[j]? := fun j hj hj2 => hgr.block j hj2 (fun e => by have := (hr j e.symm).1; omega)
    refine ⟨hI k A B row h1 hgr (fun r e => ?_), (far _ (by omega) (Array.getElem?_eq_some_iff.1 h2).1).trans h2, (far _ (by omega) (Array.getElem?_eq_some_iff.1 h3).1).trans h3⟩
    obtain ⟨q1, o, q2, q3⟩ := hr r e
    exact ⟨by omega, o, q2, walk_cells q3⟩
  · rintro k A B row ⟨c, h1, h2, h3⟩ hgr hr
    have far : ∀ j, j < W1.heap.size → j < A.heap.size → B.heap[j]? = A.heap[j]? := fun j hj hj2 => hgr.block j hj2 (fun e => by have := (hr j e.symm).1; omega)
    refine ⟨c, hIx c k A B row h1 hgr (fun r e => ?_), (far _ (by omega) (Array.getElem?_eq_some_iff.1 h2).1).trans h2, (far _ (by omega) (Array.getElem?_eq_some_iff.1 h3).1).trans h3⟩
    obtain ⟨q1, o, q2, q3⟩ := hr r e
    exact ⟨by omega, o, q2, walk_cells q3⟩
  · rintro k hk W2 u hu ⟨hi2, hl2, hd2⟩
    refine yield_round hrec hl2 (hps _ _ _ hu) (hassign (w.heap.size + 1) k hk u W2 _ hu hi2 ?_)
    intro a' W3 hkf hkp hi3 hax
    have hl3 := hkf.same (w.heap.size + 1) _ (by omega) hl2 rfl
    have hd3 := hkf.same w.heap.size _ (Nat.le_refl _) hd2 rfl
    refine ⟨hl3, ?_⟩
    have hi4 := hI.putObj (.loop { rec .ready none with state := .busy }) hi3 (by omega : w.heap.size ≤ w.heap.size + 1) hl3 rfl
    have hax4 := (hAx xs[k] a').putObj (s := ()) (.loop { rec .ready none with state := .busy }) hax (by omega : w.heap.size ≤ w.heap.size + 1) hl3 rfl
    have hkp4 := hKt hkp (hKb W3 (w.heap.size + 1) _ (.loop { rec .ready none with state := .busy }) (by omega) hl3 rfl rfl)
    have hl4 : (W3.putObj (w.heap.size + 1) (.loop { rec .ready none with state := .busy })).heap[w.heap.size + 1]? = some (.loop { rec .ready none with state := .busy }) := World.putObj_heap_same (Array.getElem?_eq_some_iff.1 hl3).1
    have hd4 : (W3.putObj (w.heap.size + 1) (.loop { rec .ready none with state := .busy })).heap[w.heap.size]? = some (.deferred (some [])) := (World.putObj_heap_other (by omega)).trans hd3
    refine wpIn_mono (hbody (w.heap.size + 1) k hk a' _ (by omega) hi4 hax4) ?_
    intro e a5 W5 hp
    cases e with
    | normal =>
      obtain ⟨p1, p2, p3⟩ := hp
      have hl5 := p1.same (w.heap.size + 1) _ (by omega) hl4 rfl
      have hd5 := p1.same w.heap.size _ (Nat.le_refl _) hd4 rfl
      refine ⟨hl5, .inl ⟨rfl, ⟨hI.putObj _ p3 (by omega : w.heap.size ≤ w.heap.size + 1) hl5 rfl, World.putObj_heap_same (Array.getElem?_eq_some_iff.1 hl5).1, (World.putObj_heap_other (by omega)).trans hd5⟩, hKt (hKt hkp4 p2) (hKb W5 (w.heap.size + 1) _ _ (by omega) hl5 rfl rfl)⟩⟩
    | exit id =>
      obtain ⟨p1, p3⟩ := hp
      have hl5 := p1.same (w.heap.size + 1) _ (by omega) hl4 rfl
      have hd5 := p1.same w.heap.size _ (Nat.le_refl _) hd4 rfl
      exact ⟨hl5, .inr ⟨rfl, _, (hIx _).putObj _ p3 (by omega : w.heap.size ≤ w.heap.size + 1) hl5 rfl, World.putObj_heap_same (Array.getElem?_eq_some_iff.1 hl5).1, (World.putObj_heap_other (by omega)).trans hd5⟩⟩
    | ret =>
      obtain ⟨p1, p3⟩ := hp
      have hl5 := p1.same (w.heap.size + 1) _ (by omega) hl4 rfl
      have hd5 := p1.same w.heap.size _ (Nat.le_refl _) hd4 rfl
      exact ⟨hl5, .inr ⟨rfl, _, (hIx _).putObj _ p3 (by omega : w.heap.size ≤ w.heap.size + 1) hl5 rfl, World.putObj_heap_same (Array.getElem?_eq_some_iff.1 hl5).1, (World.putObj_heap_other (by omega)).trans hd5⟩⟩
    | goto t => exact hp.elim
    | panic ch => exact hp.elim
    | outgrown => exact hp.elim
  · rintro e W2 ⟨⟨v, rfl⟩, (⟨h1, h2, h3⟩ | ⟨k, hk, c, h1, h2, h3⟩)⟩
    · exact ⟨⟨v, rfl⟩, .inl ⟨h2, hdone _ _ (Nat.le_refl _) (hI.putObj _ h1 (by omega : w.heap.size ≤ w.heap.size + 1) h2 rfl) ((World.putObj_heap_other (by omega)).trans h3)⟩⟩
    · exact ⟨⟨v, rfl⟩, .inr ⟨c, h2, hstop _ c k _ (Nat.le_refl _) hk ((hIx c).putObj _ h1 (by omega : w.heap.size ≤ w.heap.size + 1) h2 rfl) ((World.putObj_heap_other (by omega)).trans h3)⟩⟩

def HasE (W : World) (b : Nat) (cs : Array Value) (t : TypeId) : Prop := W.heap[b]? = some (.cells cs t)
/-- A copy of a change, its clock from block N on. -/
def EncC (N : Nat) (x : Ch × Value) (u : Array Value) (W : World) : Prop := ∃ a c, u = #[chV x.1 (.slice a x.1.deps.length c)] ∧ OwnI N W (.slice a x.1.deps.length c) x.1.deps
/-- The changes that Each has gathered, in blocks of S. -/
def GotE (S : Nat → Prop) (W : World) (av : Option Addr) (E : List (Ch × Value)) : Prop := ∀ X, KeepsS S W X → ∀ k (h : k < E.length), ∃ b o a0 c0, av = some ⟨b, o, none⟩ ∧ E[k].2 = .slice a0 E[k].1.deps.length c0 ∧ (∀ j u, (chCells E[k].1 E[k].2)[j]? = some u → X.cell? ⟨b, o + k * 13 + j, none⟩ = some u) ∧ IsI X E[k].2 E[k].1.deps
theorem GotE.keep {S : Nat → Prop} {W W' : World} {av : Option Addr} {E : List (Ch × Value)} (h : GotE S W av E) (hk : KeepsS S W W') : GotE S W' av E := fun X hX => h X (hk.trans hX)

set_option maxRecDepth 100000 in
set_option maxHeartbeats 8000000 in
theorem each1_in (n : Nat) (hn : 2 ≤ n) (l B N : Nat) (S : Nat → Prop) (av : Option Addr) (cv : Nat) (E : List (Ch × Value)) (J Jx : Nat → World → Prop) (W : World) (hN : N ≤ W.heap.size)
    (hB : W.cell? ⟨B, 0, none⟩ = some (.slice av E.length cv)) (hSB : S B) (hSl : ∀ k, S k → k < W.heap.size) (hR : GotE S W av E) (hcv : E.length ≤ cv) (hEl : E.length ≤ 4096)
    (hJ : AbidesFrom W.heap.size J)
    (hY : ∀ k (h : k < E.length) W1 u, EncC N E[k] u W1 → J k W1 → YieldAt Fence.wide (n - 1) Tryz.prog l u W1 fun e W' => (e = .returned (.bool true) ∧ J (k + 1) W' ∧ KeepsS S W1 W') ∨ (e = .returned (.bool false) ∧ Jx (k + 1) W')) (h0 : J 0 W) :
    CallsIn Fence.wide n Tryz.prog 47 #[.func (.yield l) #[] #[], .pointer (some ⟨B, 0, none⟩)] W fun e W' => (∃ v, e = .returned v) ∧ (J E.length W' ∨ ∃ k, k ≤ E.length ∧ Jx k W') := by
  have HR : Hid (GotE S W av E) := hR
  have HSl : Hid (∀ k, S k → k < W.heap.size) := hSl
  have HJ : Hid (AbidesFrom W.heap.size J) := hJ
  have HNn : Hid (N ≤ W.heap.size) := hN
  clear hR hSl hJ hN
  refine callsIn_of_wp Tryz.func47 rfl trivial ?_ rfl
  simp only [Tryz.ntmps47, List.size_toArray, List.length_cons, List.length_nil, Nat.reduceAdd, Nat.reduceSub, Array.replicate_succ, Array.replicate_zero, List.push_toArray, List.append_toArray, List.nil_append, List.cons_append]
  gi_wp2
  gi_loopw [4, 7] (fun _ i wr => ∃ k : Nat, k ≤ E.length ∧ i = .int .i64 k ∧ Hid (JH W.heap.size J k wr) ∧ Hid (KeepsH S W wr))
    (fun _ i _ => E.length - (intOf i).toNat)
  case atStart => exact ⟨0, Nat.zero_le _, rfl, ⟨h0, HJ.out⟩, ⟨KeepsS.refl _ _, HSl.out⟩⟩
  case round =>
    obtain ⟨k, hk, rfl, HJr, HKr⟩ := hrel
    by_cases hlt : k < E.length
    · obtain ⟨b, o, a0, c0, ea, e2, hcl, hI⟩ := HR.out wr HKr.out.1 k hlt
      subst ea
      have hsz := HKr.out.1.1
      have HY : Hid (∀ W1 u, EncC N E[k] u W1 → J k W1 → YieldAt Fence.wide (n - 1) Tryz.prog l u W1 fun e W' => (e = .returned (.bool true) ∧ J (k + 1) W' ∧ KeepsS S W1 W') ∨ (e = .returned (.bool false) ∧ Jx (k + 1) W')) := hY k hlt
      generalize E[k] = x at *
      obtain ⟨⟨ac, ar, sq, ds, kd, nc, nr, pc, pr, fc, fr, nm, vl⟩, dv⟩ := x
      simp only at e2 hI
      subst e2
      have HIr : Hid (IsI wr (.slice a0 ds.length c0) ds) := hI
      obtain ⟨k_0, k_1, k_2, k_3, k_4, k_5, k_6, k_7, k_8, k_9, k_10, k_11, k_12⟩ := chAll hcl
      simp only at k_0 k_1 k_2 k_3 k_4 k_5 k_6 k_7 k_8 k_9 k_10 k_11 k_12
      have kk1 : (k : Int) < (E.length : Int) := by omega
      have kk0 : (0 : Int) ≤ (k : Int) := by omega
      clear hI hcl
      gi_wp2_with fail
      obtain ⟨W4, eW4⟩ : ∃ X, X = wr.alloc (.cells #[.int .i64 ac, .int .i64 ar, .int .i64 sq, .slice a0 ds.length c0, .int .i64 kd, .int .i64 nc, .int .i64 nr, .int .i64 pc, .int .i64 pr, .int .i64 fc, .int .i64 fr, .string nm, .string vl] 34) := ⟨_, rfl⟩
      have hb4 : Below wr.heap.size wr W4 := by rw [eW4]; exact (Below.refl _ _).alloc (Nat.le_refl _) _
      rw [← eW4]
      have HI4 : Hid (IsI W4 (.slice a0 ds.length c0) ds) := HIr.out.below hb4
      have HJ4 : Hid (JH W.heap.size J k W4) := HJr.out.below hb4
      have HK4 : Hid (KeepsH S W W4) := HKr.out.below hb4
      have HX4 : Hid (HasE W4 wr.heap.size #[.int .i64 ac, .int .i64 ar, .int .i64 sq, .slice a0 ds.length c0, .int .i64 kd, .int .i64 nc, .int .i64 nr, .int .i64 pc, .int .i64 pr, .int .i64 fc, .int .i64 fr, .string nm, .string vl] 34) := by rw [eW4]; exact heap_alloc_new _ _
      have HN4 : Hid (N ≤ W4.heap.size) := by have := HNn.out; have := hb4.size; show N ≤ _; omega
      clear eW4 hb4 hsz k_0 k_1 k_2 k_3 k_4 k_5 k_6 k_7 k_8 k_9 k_10 k_11 k_12 HIr HJr HKr
      refine ⟨trivial, fun _ => (by omega), ?_⟩
      refine (callsIn_wide.2 (copyCh_any ac ar sq (.slice a0 ds.length c0) kd nc nr pc pr fc fr nm vl ds _ HI4.out)).mono ?_
      rintro e w9 ⟨v2, rfl, ho, hb9⟩
      obtain ⟨a2, c2, e2⟩ := ho.form
      subst e2
      have HJ9 : Hid (JH W.heap.size J k w9) := HJ4.out.below hb9
      have HK9 : Hid (KeepsH S W w9) := HK4.out.below hb9
      have HO9 : Hid (EncC N ((⟨ac, ar, sq, ds, kd, nc, nr, pc, pr, fc, fr, nm, vl⟩ : Ch), .slice a0 ds.length c0) #[chV (⟨ac, ar, sq, ds, kd, nc, nr, pc, pr, fc, fr, nm, vl⟩ : Ch) (.slice a2 ds.length c2)] w9) := ⟨a2, c2, rfl, ho.low (Nat.le_trans HN4.out (by omega))⟩
      obtain ⟨fn, tmps, assign, body, hy, hR⟩ := HY.out w9 _ HO9.out HJ9.out.1
      simp only [chV, chCells] at hy
      clear ho hb9 HI4 HJ4 HK4 HX4 HN4 HO9 HY hY
      gi_wp2
      refine ⟨fun _ => (by omega), hR.mono ?_⟩
      rintro e W3 (⟨rfl, hJ3, hk3⟩ | ⟨rfl, hJx3⟩)
      · have HJ3 : Hid (JH W.heap.size J (k + 1) W3) := ⟨hJ3, HJ.out⟩
        have HK3 : Hid (KeepsH S W W3) := ⟨HK9.out.1.trans hk3, HSl.out⟩
        clear hJ3 hk3
        gi_wp2
        go_roundw
        case rel => exact ⟨k + 1, by omega, by go_num, HJ3, HK3⟩
        case measure => simp [intOf]; omega
      · have HJ3 : Hid (Jx (k + 1) W3) := hJx3
        clear hJx3
        gi_wp2
        refine bodyPost_ret (results_none rfl _ _ _) rfl ?_
        exact ⟨⟨_, rfl⟩, .inr ⟨k + 1, by omega, HJ3.out⟩⟩
    · have HE : Hid (J E.length wr) := by
        have := HJr.out.1
        obtain rfl : k = E.length := by omega
        exact this
      gi_wp2
      go_end0
      exact ⟨⟨_, rfl⟩, .inl HE.out⟩
/-- The iterator that Each answers, wherever it is gone over: copies whose clocks lie from block N on. -/
theorem each1_seq (n : Nat) (hn : 2 ≤ n) (B : Nat) (S : Nat → Prop) (av : Option Addr) (cv : Nat) (E : List (Ch × Value)) (w : World)
    (hB : w.cell? ⟨B, 0, none⟩ = some (.slice av E.length cv)) (hSB : S B) (hSl : ∀ k, S k → k < w.heap.size) (hR : GotE S w av E) (hcv : E.length ≤ cv) (hEl : E.length ≤ 4096) :
    SeqEx n Tryz.prog 47 #[.pointer (some ⟨B, 0, none⟩)] (EncC w.heap.size) (KeepsS S) E w := fun l J Jx W hW hJ _ hY h0 =>
  have hk : KeepsS S w W := KeepsS.of_below hW hSl
  each1_in n hn l B w.heap.size S av cv E J Jx W hW.size ((hk.cell (p := ⟨B, 0, none⟩) hSB).trans hB) hSB (fun k h => Nat.lt_of_lt_of_le (hSl k h) hW.size) (hR.keep hk) hcv hEl hJ hY h0

end Go.Proofs.YtdefmdmbkiiejaaGreat

namespace Go.Proofs.YtdefmdmbkiiejaaGreat
open Go.RowKit
set_option linter.unusedVariables false
set_option linter.unusedSimpArgs false

theorem lackE_mem {F : Nat → Prop} {w : World} {lb : Nat} {room : Int} {L : List Ch} {mb : Nat} {ord : Value} {own : List Value} {D : List (Ch × Value)} (h : LogIs F w lb room L mb ord own D) (hs : Srt L) {kn : List Int} {x : Ch × Value} (hx : x ∈ lackE D L kn) : x ∈ D := by
  obtain ⟨c, hc, rfl⟩ := List.mem_map.1 hx
  exact List.mem_of_find?_eq_some (getD_of h hs (List.mem_filter.1 hc).1)
theorem lackE_fst (D : List (Ch × Value)) (L : List Ch) (kn : List Int) : (lackE D L kn).map Prod.fst = lackL L kn := by simp [lackE, Function.comp_def]

theorem gotE_of {S : Nat → Prop} {N : Nat} {W : World} {v : Value} {E : List (Ch × Value)} (hO : OwnH N W v E) (hS : ∀ k, v.ownBlock = some k → S k) (hD : ∀ x ∈ E, OwnI 0 W x.2 x.1.deps ∧ x.1.deps.length ≤ 17592186044416 ∧ ∀ k, x.2.ownBlock = some k → S k) :
    ∃ av cv, v = .slice av E.length cv ∧ E.length ≤ cv ∧ GotE S W av E := by
  rcases hO.2 with ⟨rfl, hn⟩ | ⟨g, cap, cur, rfl, hb, hc, hle, _⟩
  · exact ⟨none, 0, by rw [hn], by omega, fun X hX k hk => by omega⟩
  · refine ⟨_, cap, rfl, hle, fun X hX k hk => ?_⟩
    obtain ⟨h1, h2, h3⟩ := hD E[k] (List.getElem_mem hk)
    obtain ⟨a0, c0, e0⟩ := h1.form
    have hX1 := ownsRow_keep hO fun j e => hX.2 j (hS j e)
    refine ⟨g, 0, a0, c0, rfl, e0, fun j u hj => ?_, OwnI.isI (h1.keepF fun j e => hX.2 j (h3 j e)) h2⟩
    have hj13 : j < 13 := (List.getElem?_eq_some_iff.1 hj).1
    rw [Nat.zero_add, World.ownsRow.cellAt hX1 (k * 13 + j) (by omega)]
    exact flatH_get E k hk j u hj

end Go.Proofs.YtdefmdmbkiiejaaGreat

namespace Go.Proofs.YtdefmdmbkiiejaaGreat
open Go.RowKit Go.Shelf
set_option linter.unusedVariables false
attribute [local go_sem] Oper.semAt_some

/-- 'append(s, l...)', s empty and the call's own, l any list of numbers. -/
theorem wpListIn_append_I {F : Fence} {n : Nat} (w : World) {ops : Array Oper} {rest : List Oper} {o : Oper} {a : Act} {Q : Exit → Act → World → Prop}
    (hg : o.guard = none) (s x : Operand) (hop : o.op = Op.call { callee := Callee.builtin Builtin.append, args := #[s, x], argTypes := #[32, 32] })
    (base : Nat) (v : Value) (hs : a.eval s = v) (hown : w.ownsRow base 3 1 v 0 []) (vx : Value) (d : List Int) (hx : a.eval x = vx) (hI : IsI w vx d) (b3 : base ≤ w.heap.size)
    (hK : ∀ v' w', OwnI base w' v' d → w.grownBy w' v.ownBlock → wpListIn F n Tryz.prog ops Q rest (a.put o.dst v') w') : wpListIn F n Tryz.prog ops Q (o :: rest) a w := by
  obtain ⟨i0, hi, hz0, hz1, hz2⟩ := info_parts infoInt
  obtain ⟨al, cap, rfl, hc, hl, hr⟩ := hI
  match al with
  | none =>
    have e : d = [] := hr.resolve_right (fun ⟨_, _, e, _⟩ => by cases e)
    subst e
    refine wpListIn_plain hg fun K hK' => ?_
    have hrun : (Builtin.append_ #[32, 32] o.type #[v, .slice none 0 cap]).run Tryz.prog w = .ok v w := by
      rcases hown.2 with ⟨rfl, _⟩ | ⟨g, cp, cur, rfl, _⟩
      · simp [Builtin.append_, run_underlying Tryz.underlying32, sizeOf, typeInfo, hi, Builtin.lenOf, Builtin.firstCells]
      · simp [Builtin.append_, run_underlying Tryz.underlying32, sizeOf, typeInfo, hi, Builtin.lenOf, Builtin.firstCells, storeCells]
    unfold Oper.wpIn
    refine ⟨?_, ?_⟩
    · simp [Oper.about, hop, resolve, Target.leads, Sem.run_pure]
    · rw [Oper.semAt_plain F _ _ (by rw [hop]; intro c hc'; cases hc')]
      simp [execOp, hop, resolve, invoke, builtin, hs, hx, hrun, Result.andThen]
      exact hK' _ _ (hK v w hown ⟨rfl, rfl, rfl, Nat.le_refl _, fun _ _ _ => rfl⟩)
  | some ad =>
    have hn : ∀ j u, (cellsI d)[j]? = some u → w.cell? (ad.add j) = some u := by
      intro j u hj
      rcases hr with rfl | ⟨b, o, e, hr⟩
      · simp [cellsI] at hj
      · cases e
        exact hr.news j u hj
    refine wpListIn_append_own w hg s x 32 hop base 3 i0 (.int .i64 0) 1 8 Tryz.underlying32 hi hz0 hz1 hz2 rfl (by decide) v 0 [] hs hown ad d.length cap (cellsI d) hx (cellsI_length d) hn (cellsI_one d) (by unfold maxLen; omega) (by omega) b3 ?_
    intro v' w' h1 h2 _
    exact hK v' w' (by unfold OwnI; simpa using h1) h2

theorem eql_nilFunc (B : Nat) (w : World) : (binOp .eql 59 (.func (.func 47) #[] #[.pointer (some ⟨B, 0, none⟩)]) .nilFunc).run Tryz.prog w = .ok (.bool false) w := by kernel_rfl

theorem results_boolCell6 {fn : Func} (hr : fn.results = #[.cell 6 4]) (tmps : Array Value) (R : Nat) (w : World) (b : Bool) (hp : tmps.getD 6 undef = .pointer (some ⟨R, 0, none⟩)) (hc : w.cell? ⟨R, 0, none⟩ = some (.bool b)) : (results fn tmps).run Tryz.prog w = .ok (.bool b) w := by
  have hp' : tmps[6]?.getD undef = .pointer (some ⟨R, 0, none⟩) := by simpa using hp
  simp [results, hr, hp', asAddr, loadVar, isAgg, run_underlying Tryz.underlying4, load, go_sem]
  simp [Sem.run, hc]

/-- A row of numbers that may be written, in a block from B to below T. -/
def GivenI (B T : Nat) (W : World) (a : Option Addr) (m : Nat) : Prop := m = 0 ∨ ∃ g, a = some ⟨g, 0, none⟩ ∧ (B ≤ g ∧ g < T) ∧ ∀ i, i < m → (∃ x, W.cell? ⟨g, i, none⟩ = some (.int .i64 x)) ∧ W.frozen? ⟨g, i, none⟩ = false
theorem OwnI.given {B : Nat} {w : World} {v : Value} {D : List Int} (h : OwnI B w v D) : ∃ a cap, v = .slice a D.length cap ∧ GivenI B w.heap.size w a D.length := by
  have h0 := h
  rcases h.2 with ⟨rfl, hn⟩ | ⟨g, cap, cur, rfl, hg, hc, hcap, rest⟩
  · exact ⟨none, 0, by rw [hn], .inl hn⟩
  · refine ⟨_, cap, rfl, .inr ⟨g, rfl, ⟨hg, (Array.getElem?_eq_some_iff.1 hc).1⟩, fun i hi => ⟨⟨D[i], ?_⟩, World.ownsRow.frozenAt h0 i⟩⟩⟩
    rw [h0.cellAt i (by omega)]
    simp [cellsI, hi]
theorem GivenI.below {B T : Nat} {W W' : World} {a : Option Addr} {m : Nat} (h : GivenI B T W a m) (hb : Below T W W') : GivenI B T W' a m :=
  h.imp id fun ⟨g, e, hg, hr⟩ => ⟨g, e, hg, fun i hi => by
    obtain ⟨⟨x, hx⟩, hf⟩ := hr i hi
    exact ⟨⟨x, (hb.cell (p := ⟨g, i, none⟩) hg.2).trans hx⟩, (hb.frozen (p := ⟨g, i, none⟩) hg.2).trans hf⟩⟩
theorem GivenI.set {B T : Nat} {W : World} {a : Option Addr} {m : Nat} (h : GivenI B T W a m) (g k : Nat) (y : Int) : GivenI B T (W.setCell ⟨g, k, none⟩ (.int .i64 y)) a m :=
  h.imp id fun ⟨g', e, hg, hr⟩ => ⟨g', e, hg, fun i hi => by
    obtain ⟨⟨x, hx⟩, hf⟩ := hr i hi
    refine ⟨?_, by rw [World.frozen?_setCell]; exact hf⟩
    by_cases e2 : (⟨g, k, none⟩ : Addr) = ⟨g', i, none⟩
    · rw [e2]; exact ⟨y, World.cell?_setCell_same _ _ _ hx⟩
    · exact ⟨x, (World.cell?_setCell_other _ _ _ _ e2).trans hx⟩⟩

end Go.Proofs.YtdefmdmbkiiejaaGreat

namespace Go.Proofs.YtdefmdmbkiiejaaGreat
open Go.RowKit
set_option linter.unusedVariables false
set_option linter.unusedSimpArgs false

/-- The boxes, the wanted list, what Each has gathered: all below block bn. -/
structure GoS (w W : World) (bs br bw be bn : Nat) (st : Int) (aw : Option Addr) (cw : Nat) (av : Option Addr) (cv : Nat) (wl : List Ch) (E : List (Ch × Value)) : Prop where
  s : Boxed W bs 3 (.int .i64 st)
  r : Boxed W br 4 (.bool false)
  wb : Boxed W bw 22 (.slice aw wl.length cw)
  e : Boxed W be 22 (.slice av E.length cv)
  lt : w.heap.size ≤ bs ∧ bs < bn ∧ w.heap.size ≤ br ∧ br < bn ∧ bw < bn ∧ be < bn ∧ bn < W.heap.size ∧ bs ≠ br
  want : HFirm (fun k => k < bn) W (.slice aw wl.length cw) wl
  got : GotE (fun k => k < bn) W av E
  cap : E.length ≤ cv
  eq : E.map Prod.fst = wl
  len : wl.length ≤ 50
section
variable {w W W' : World} {bs br bw be bn : Nat} {st : Int} {aw : Option Addr} {cw : Nat} {av : Option Addr} {cv : Nat} {wl : List Ch} {E : List (Ch × Value)}
theorem GoS.below (h : GoS w W bs br bw be bn st aw cw av cv wl E) (hb : Below bn W W') : GoS w W' bs br bw be bn st aw cw av cv wl E := by
  have hl := h.lt
  have hk : KeepsS (fun k => k < bn) W W' := ⟨hb.size, fun k hk => hb.block k hk⟩
  exact ⟨(hb.block _ (by omega)).trans h.s, (hb.block _ (by omega)).trans h.r, (hb.block _ (by omega)).trans h.wb, (hb.block _ (by omega)).trans h.e, ⟨hl.1, hl.2.1, hl.2.2.1, hl.2.2.2.1, hl.2.2.2.2.1, hl.2.2.2.2.2.1, Nat.lt_of_lt_of_le hl.2.2.2.2.2.2.1 hb.size, hl.2.2.2.2.2.2.2⟩, h.want.keep hk, h.got.keep hk, h.cap, h.eq, h.len⟩
theorem GoS.up (h : GoS w W bs br bw be bn st aw cw av cv wl E) {b2 : Nat} (h1 : bn ≤ b2) (h2 : b2 < W.heap.size) : GoS w W bs br bw be b2 st aw cw av cv wl E := by
  have hl := h.lt
  refine ⟨h.s, h.r, h.wb, h.e, by omega, h.want.mono (fun k hk => by omega) (fun k hk => by omega), fun X hX => h.got X ⟨hX.1, fun k hk => hX.2 k (by omega)⟩, h.cap, h.eq, h.len⟩
/-- Out of what stood ahead of n. -/
theorem goS_of {w7 : World} {ve : Value} {N yb : Nat} (hs : Boxed w7 bs 3 (.int .i64 st)) (hr : Boxed w7 br 4 (.bool false)) (he : Boxed w7 be 22 ve) (hO : OwnH N w7 ve E) (hD : ∀ x ∈ E, OwnI 0 w7 x.2 x.1.deps ∧ x.1.deps.length ≤ 17592186044416 ∧ ∀ k, x.2.ownBlock = some k → k < yb) (hyb : yb ≤ w7.heap.size)
    (hB : Below w7.heap.size w7 W) (hbw : Boxed W bw 22 (.slice aw wl.length cw)) (hn : bn < W.heap.size) (h7 : w7.heap.size ≤ bn) (hwb : bw < bn) (hlt : w.heap.size ≤ bs ∧ w.heap.size ≤ br ∧ bs ≠ br) (hw : HFirm (fun k => k < bn) W (.slice aw wl.length cw) wl) (heq : E.map Prod.fst = wl) (hl : wl.length ≤ 50) :
    ∃ av cv, ve = .slice av E.length cv ∧ GoS w W bs br bw be bn st aw cw av cv wl E := by
  have ls := hs.lt
  have lr := hr.lt
  have le := he.lt
  have hO2 : OwnH N W ve E := ownsRow_keep hO fun k e => hB.block k (World.ownsRow.lt hO k e).2
  obtain ⟨av, cv, ev, hc, hg⟩ := gotE_of (S := fun k => k < bn) hO2 (fun k e => by have := (World.ownsRow.lt hO k e).2; omega) (fun x hx => ⟨(hD x hx).1.keepF fun k e => hB.block k (by have := (hD x hx).2.2 k e; omega), (hD x hx).2.1, fun k e => by have := (hD x hx).2.2 k e; omega⟩)
  subst ev
  exact ⟨av, cv, rfl, (hB.block _ ls).trans hs, (hB.block _ lr).trans hr, hbw, (hB.block _ le).trans he, by omega, hw, hg, hc, heq, hl⟩
/-- The k-th wanted change. -/
theorem GoS.at (h : GoS w W bs br bw be bn st aw cw av cv wl E) {k : Nat} (hk : k < E.length) : ∃ b o a2 e2, k < wl.length ∧ aw = some ⟨b, o, none⟩ ∧ IsI W (.slice a2 E[k].1.deps.length e2) E[k].1.deps ∧ b < bn ∧ ∀ X, Below bn W X → ∀ j u, (chCells E[k].1 (.slice a2 E[k].1.deps.length e2))[j]? = some u → X.cell? ⟨b, o + k * 13 + j, none⟩ = some u := by
  have hl : E.length = wl.length := by have := congrArg List.length h.eq; simpa using this
  have hk2 : k < wl.length := by omega
  obtain ⟨a, cap, e, _, h1⟩ := h.want.one
  obtain ⟨b, o, a2, e2, e3, h2, h3, h4⟩ := h1 k hk2
  have e4 : wl[k] = E[k].1 := by simp [← h.eq]
  rw [e4] at h2 h4
  cases e
  subst e3
  have h5 := h4 W (KeepsS.refl _ _)
  refine ⟨b, o, a2, e2, hk2, rfl, h2.isI, ?_, fun X hX => h4 X ⟨hX.size, fun k hk => hX.block k hk⟩⟩
  rcases h.want.2 with ⟨a, cap, e, _, _, h6⟩
  rcases h6 with h6 | ⟨b', o', e', hb', _⟩
  · rw [h6] at hk2; simp at hk2
  · cases e
    cases e'
    exact hb'
end
def BelN (n : Nat) (A X : World) : Prop := Below n A X ∧ n ≤ A.heap.size
theorem BelN.below {n : Nat} {A X Y : World} (h : BelN n A X) (hb : Below X.heap.size X Y) : BelN n A Y := ⟨h.1.trans (hb.mono (Nat.le_trans h.2 h.1.size)), h.2⟩
def BoxN (b : Nat) (v : Value) (X : World) : Prop := Boxed X b 3 v
theorem BoxN.below {b : Nat} {v : Value} {X Y : World} (h : BoxN b v X) (hb : Below X.heap.size X Y) : BoxN b v Y := (hb.block _ (Boxed.lt h)).trans h
/-- The copy that is handed out, in its box. -/
structure AxS (N : Nat) (x : Ch × Value) (Bx : Nat) (a : Option Addr) (c : Nat) (W : World) : Prop where
  box : W.heap[Bx]? = some (.cells (chCells x.1 (.slice a x.1.deps.length c)).toArray 34)
  own : OwnI N W (.slice a x.1.deps.length c) x.1.deps
  lo : N ≤ Bx
theorem AxS.below {N : Nat} {x : Ch × Value} {Bx : Nat} {a : Option Addr} {c : Nat} {W W' : World} (h : AxS N x Bx a c W) (hb : Below W.heap.size W W') : AxS N x Bx a c W' := ⟨(hb.block _ (Array.getElem?_eq_some_iff.1 h.box).1).trans h.box, h.own.below hb, h.lo⟩
theorem AxS.grown {N : Nat} {x : Ch × Value} {Bx : Nat} {a : Option Addr} {c : Nat} {W W' : World} {row : Option Nat} (h : AxS N x Bx a c W) (hg : W.grownBy W' row) (hr : ∀ r, row = some r → ∃ o : Obj, W.heap[r]? = some o ∧ o.isCells = false) : AxS N x Bx a c W' := ⟨row_own h.box hg hr, ownsRow_own h.own hg hr, h.lo⟩
/-- While the copy's clock is written over. -/
structure LpS (bn N hi : Nat) (W10 W : World) (Bx : Nat) (cs : Array Value) (a : Option Addr) (m : Nat) (v : Value) (X : World) : Prop where
  bel : Below bn W10 X
  kf : KF W10.heap.size W X
  kw : KeepsG (fun k => k < bn) W X
  bx : BoxN bn v X
  row : X.heap[Bx]? = some (.cells cs 34)
  giv : GivenI N hi X a m
  ne : ∀ g, a = some ⟨g, 0, none⟩ → g ≠ Bx
  lo : bn < N
theorem LpS.start {bn : Nat} {W10 W U : World} {x : Ch × Value} {Bx : Nat} {a : Option Addr} {c : Nat} {u : Value} (hb : BelN bn W10 U) (hf : KF W10.heap.size W U) (hw : KeepsG (fun k => k < bn) W U) (hx : BoxN bn u U) (ha : AxS W10.heap.size x Bx a c U) (hl : bn < W10.heap.size) (y : Int) :
    LpS bn W10.heap.size U.heap.size W10 W Bx (chCells x.1 (.slice a x.1.deps.length c)).toArray a x.1.deps.length (.int .i64 y) (U.setCell ⟨bn, 0, none⟩ (.int .i64 y)) := by
  have hlo := ha.lo
  obtain ⟨a', c', e, hg⟩ := ha.own.given
  cases e
  refine ⟨hb.1.setCell (p := ⟨bn, 0, none⟩) (Nat.le_refl _) _, KeepsFrom.trans hf (keepsFrom_set _ _ _), hw.set (Nat.lt_irrefl _), Boxed.set _ hx, (RowKit.Below.heap_setCell _ _ _ _ (by show Bx ≠ bn; omega)).trans ha.box, hg.set _ _ _, fun g e e2 => ?_, hl⟩
  subst e e2
  obtain ⟨cur, hc⟩ := ownsRow_type ha.own g rfl
  rw [ha.box] at hc
  have hne : (34 : TypeId) ≠ 3 := by decide
  simp only [Option.some.injEq, Obj.cells.injEq] at hc
  exact hne hc.2.1
theorem LpS.set {bn N hi : Nat} {W10 W : World} {Bx : Nat} {cs : Array Value} {a : Option Addr} {m : Nat} {v : Value} {X : World} (h : LpS bn N hi W10 W Bx cs a m v X) {g : Nat} (ea : a = some ⟨g, 0, none⟩) (hg : N ≤ g) (i : Nat) (y : Int) : LpS bn N hi W10 W Bx cs a m v (X.setCell ⟨g, i, none⟩ (.int .i64 y)) := by
  have hlo := h.lo
  exact ⟨h.bel.setCell (p := ⟨g, i, none⟩) (by show bn ≤ g; omega) _, KeepsFrom.trans h.kf (keepsFrom_set _ _ _), h.kw.set (by omega), (RowKit.Below.heap_setCell _ _ _ _ (by show bn ≠ g; omega)).trans h.bx, (RowKit.Below.heap_setCell _ _ _ _ (by show Bx ≠ g; exact fun e => h.ne g ea e.symm)).trans h.row, h.giv.set _ _ _, h.ne, h.lo⟩

end Go.Proofs.YtdefmdmbkiiejaaGreat
