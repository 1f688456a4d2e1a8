/- What All does. -/
import Derived.Test.YtngldpabfpcaiaaGreatTk
import Derived.Test.YtngldpabfpcaiaaGreatOlY
namespace Go.Proofs.YtngldpabfpcaiaaGreat
open Go.RowKit Go.Shelf
set_option linter.unusedVariables false
set_option linter.unusedSimpArgs false

attribute [local go_sem] Oper.semAt_some

def KeepsG (S : Nat → Prop) (A C : World) : Prop := KeepsS S A C ∧ ∀ k, S k → k < A.heap.size
theorem KeepsG.below {S : Nat → Prop} {A C C' : World} (h : KeepsG S A C) (hb : Below C.heap.size C C') : KeepsG S A C' := ⟨h.1.trans (KeepsS.of_below hb (fun k hk => Nat.lt_of_lt_of_le (h.2 k hk) h.1.1)), h.2⟩
theorem KeepsG.row {S : Nat → Prop} {A C C' : World} {N : Nat} {e : TypeId} {size : Nat} {v : Value} {n : Nat} {xs : List Value} (h : KeepsG S A C) (ho : C.ownsRow N e size v n xs) (hg : C.grownBy C' v.ownBlock) (hN : ∀ k, S k → k < N) : KeepsG S A C' :=
  ⟨h.1.trans (KeepsS.of_grown hg (fun k hk => Nat.lt_of_lt_of_le (h.2 k hk) h.1.1) (fun r er hS => by have := (World.ownsRow.lt ho r er).1; have := hN r hS; omega)), h.2⟩
theorem KeepsG.set {S : Nat → Prop} {A C : World} {b i : Nat} {v : Value} (h : KeepsG S A C) (hb : ¬ S b) : KeepsG S A (C.setCell ⟨b, i, none⟩ v) :=
  ⟨h.1.trans ⟨by simp [World.setCell], fun k hk => RowKit.Below.heap_setCell _ _ _ _ (fun (e : k = b) => hb (e ▸ hk))⟩, h.2⟩
theorem keepsG_t {S : Nat → Prop} {A B C : World} (h : KeepsG S A B) (k : KeepsG S B C) : KeepsG S A C := ⟨h.1.trans k.1, h.2⟩
/-- A row's cells, in a block. -/
def RowHas (W : World) (b : Nat) (cs : List Value) : Prop := b < W.heap.size ∧ ∀ j u, cs[j]? = some u → W.cell? ((⟨b, 0, none⟩ : Addr).add j) = some u
theorem RowHas.below {W W' : World} {b : Nat} {cs : List Value} (h : RowHas W b cs) (hb : Below W.heap.size W W') : RowHas W' b cs := ⟨Nat.lt_of_lt_of_le h.1 hb.size, fun j u hj => by
  have := h.2 j u hj
  rw [Addr.add_lit] at this ⊢
  exact (hb.cell (p := ⟨b, 0 + j, none⟩) h.1).trans this⟩
theorem RowHas.new (W : World) (cs : List Value) (t : TypeId) : RowHas (W.alloc (.cells cs.toArray t)) W.heap.size cs := ⟨by simp, fun j u hj => by
  rw [Addr.add_lit, cell_of_row _ _ _ _ _ _ (heap_alloc_new W (.cells cs.toArray t))]
  simpa using hj⟩
theorem lackE_get {F : Nat → Prop} {w : World} {lb : Nat} {room : Int} {L : List Ch} {mb : Nat} {ord : Value} {own : List Value} {D : List (Ch × Value)} (h : LogIs F w lb room L mb ord own D) (hs : Srt L) {kn : List Int} {k : Nat} (hk : k < (lackE D L kn).length) :
    ∃ (c : Ch) (a0 : Option Addr) (c0 : Nat), (lackE D L kn)[k] = (c, .slice a0 c.deps.length c0) ∧ OwnI 0 w (.slice a0 c.deps.length c0) c.deps ∧ Sized c ∧ c.deps.length ≤ 17592186044416 ∧ (∀ j, (Value.slice a0 c.deps.length c0).ownBlock = some j → F j) ∧ (lackL L kn).take (k + 1) = (lackL L kn).take k ++ [c] ∧ c ∈ L := by
  have hkl : k < (lackL L kn).length := by rw [← lackE_length D]; exact hk
  have hc : (lackL L kn)[k] ∈ L := (List.mem_filter.1 (List.getElem_mem hkl)).1
  have hm := List.mem_of_find?_eq_some (getD_of h hs hc)
  obtain ⟨h1, h2, h3⟩ := h.hdep _ hm
  have h4 := h.fd _ hm
  obtain ⟨a0, c0, e⟩ := h1.form
  simp only at e h1 h4
  rw [e] at h1 h4
  refine ⟨(lackL L kn)[k], a0, c0, ?_, h1, h2, h3, h4, List.take_succ_eq_append_getElem hkl, hc⟩
  rw [← e]
  simp [lackE]


set_option maxRecDepth 100000 in
set_option maxHeartbeats 8000000 in
theorem all_in (n : Nat) (hn : 5 ≤ n) (v : Value) (room : Int) (L : List Ch) (F : Nat → Prop) (w : World) (h : LogV F w v room L) (hs : Srt L) (hl : L.length ≤ 4096) :
    CallsIn Fence.wide n Tryz.prog 10 #[v] w fun e w' => ∃ v' E, e = .returned v' ∧ E.map Prod.fst = lackL L [] ∧ OwnH w.heap.size w' v' E ∧ (∀ x ∈ E, OwnI w.heap.size w' x.2 x.1.deps ∧ Sized x.1 ∧ x.1.deps.length ≤ 17592186044416) ∧ Below w.heap.size w w' := by
  obtain ⟨i0, hi, hz0, hz1, hz2⟩ := info_parts infoChange
  have hro : Fence.wide.round = none := rfl
  have h1n : 1 ≤ n := by omega
  have hFl := h.lt
  refine callsIn_of_wp_marks Tryz.func10 rfl trivial ?_ hro
  simp only [Tryz.ntmps10, List.size_toArray, List.length_cons, List.length_nil, Nat.reduceAdd, Nat.reduceSub, Array.replicate_succ, Array.replicate_zero, List.push_toArray, List.append_toArray, List.nil_append, List.cons_append]
  have hb0 : Below w.heap.size w (w.alloc (.cells #[.slice none 0 0] 22)) := (Below.refl _ _).alloc (Nat.le_refl _) _
  gi_wp2_with fail
  refine ⟨trivial, ?_⟩
  refine (callsIn_wide.2 (orEmpty_any v room L F _ (h.below hb0))).mono ?_
  rintro e w1 ⟨lb, F', rfl, ⟨mb, ord, own, D, h1⟩, h2, hff⟩
  have HL1 : Hid (LogIs F' w1 lb room L mb ord own D) := h1
  have HB1 : Hid (Below w.heap.size w w1) := hb0.trans (h2.mono (by simp))
  have HX1 : Hid (Boxed w1 w.heap.size 22 (.slice none 0 0)) := (h2.block _ (by simp)).trans (World.alloc_heap_new w _)
  have HF1 : Hid (¬ F' w.heap.size) := fun hk => by rcases hff _ hk with h3 | h3; exact absurd (hFl _ h3) (by omega); simp at h3; omega
  have hsz1 : w.heap.size < w1.heap.size := by have := h2.size; simp at this; omega
  clear h h1 h2 hff hb0
  gi_wp2_with fail
  refine ⟨trivial, ?_⟩
  refine (callsIn_wide.2 (missing_any lb (.slice none 0 0) _ ⟨_, _, _, rfl⟩)).mono ?_
  rintro e w2 ⟨rfl, hw2⟩
  gi_wp2
  obtain ⟨W2, eW2⟩ : ∃ X, X = w2 := ⟨_, rfl⟩
  have HC1 : Hid (W2.cell? ⟨w1.heap.size, 0, none⟩ = some (.pointer (some ⟨lb, 0, none⟩))) := by
    rw [eW2, hw2]
    have := (Boxed.new w1 24 (.pointer (some ⟨lb, 0, none⟩))).alloc (.cells #[.slice none 0 0] 23)
    exact this.cell
  have HC2 : Hid (W2.cell? ⟨w1.heap.size + 1, 0, none⟩ = some (.slice none 0 0)) := by
    rw [eW2, hw2]
    have := Boxed.new (w1.alloc (.cells #[.pointer (some ⟨lb, 0, none⟩)] 24)) 23 (.slice none 0 0)
    rw [show (w1.alloc (.cells #[.pointer (some ⟨lb, 0, none⟩)] 24)).heap.size = w1.heap.size + 1 by simp] at this
    exact this.cell
  have hb2 : Below w1.heap.size w1 W2 := by rw [eW2, hw2]; exact ((Below.refl _ _).alloc (Nat.le_refl _) _).alloc (by simp) _
  have hsz2 : W2.heap.size = w1.heap.size + 2 := by rw [eW2, hw2]; simp
  rw [← hw2, ← eW2]
  clear eW2 hw2
  have HL2 : Hid (LogIs F' W2 lb room L mb ord own D) := HL1.out.below hb2
  have HS : Hid (∀ k, (F' k ∨ k = w1.heap.size ∨ k = w1.heap.size + 1) → k < W2.heap.size) := fun k hk => by rcases hk with hk | rfl | rfl; exact HL2.out.lt k hk; omega; omega
  have HA0 : Hid (AllB w W2 w.heap.size (fun k => F' k ∨ k = w1.heap.size ∨ k = w1.heap.size + 1) (.slice none 0 0) [] W2) :=
    ⟨(hb2.block _ hsz1).trans HX1.out, OwnH.nil0 _ _, fun x hx => by simp at hx, HB1.out.trans (hb2.mono HB1.out.size), ⟨KeepsS.refl _ _, HS.out⟩, Nat.le_refl _, by omega, fun hk => by rcases hk with hk | hk | hk; exact HF1.out hk; omega; omega, by omega⟩
  obtain ⟨S, eS⟩ : ∃ S : Nat → Prop, S = fun k => F' k ∨ k = w1.heap.size ∨ k = w1.heap.size + 1 := ⟨_, rfl⟩
  rw [← eS] at HA0
  have HSF : Hid (∀ k, F' k → S k) := fun k hk => by rw [eS]; exact .inl hk
  have HSq := missing_seq (n - 1) (by omega) w1.heap.size (w1.heap.size + 1) 0 S F' lb room L mb ord own D none [] W2 HL2.out hs hl HSF.out (by rw [eS]; exact .inr (.inl rfl)) (by rw [eS]; exact .inr (.inr rfl)) HA0.out.kp.2 HC1.out HC2.out (.inl rfl) (Nat.le_refl _) (by simp)
  have HSrt : Hid (Srt L) := hs
  clear eS hb2 HX1 HF1 HS HC1 HC2 HL1 hs
  refine range_of h1n (gf := 47) (lb := #[.pointer (some ⟨w1.heap.size, 0, none⟩), .pointer (some ⟨w1.heap.size + 1, 0, none⟩)]) rfl (enters_of Tryz.func47 (by kernel_rfl) rfl) HSq KeepsS.trans (keepsSK_b HA0.out.kp.2) (Below.refl _ _) (fun _ => rfl)
    (fun k W => ∃ ov E, AllB w W2 w.heap.size S ov E W ∧ E.map Prod.fst = (lackL L []).take k) (fun _ _ _ => False)
    (fun k A B row ⟨ov, E, h1, h2⟩ hg hr => ⟨ov, E, h1.grown hg hr, h2⟩) (fun c k A B row hf _ _ => hf) ⟨_, _, HA0.out, rfl⟩
    (fun x a' W => ∃ Bx ov, W2.heap.size ≤ Bx ∧ W.heap[Bx]? = some (.cells (chCells x.1 x.2).toArray 38) ∧ Boxed W w.heap.size 22 ov ∧ ov.ownBlock ≠ some Bx ∧ a' = { tmps := #[v, undef, .slice none 0 0, .pointer (some ⟨w.heap.size, 0, none⟩), .pointer (some ⟨Bx, 0, none⟩), v, .pointer (some ⟨lb, 0, none⟩), .func (.func 47) #[] #[.pointer (some ⟨w1.heap.size, 0, none⟩), .pointer (some ⟨w1.heap.size + 1, 0, none⟩)], chV x.1 x.2, undef, undef, undef, undef, undef, undef], defers := [] })
    (fun x a' u A B row ⟨Bx, ov, h1, h2, h3, h4, h5⟩ hg hr => ⟨Bx, ov, h1, row_own h2 hg (fun r e => (hr r e).2), row_own h3 hg (fun r e => (hr r e).2), h4, h5⟩)
    ?assign ?body ?done ?stop
  case assign =>
    rintro l k hk W K ⟨ov, E, hA, hE⟩ hK
    have hkl : k < (lackL L []).length := by rw [← lackE_length D]; exact hk
    obtain ⟨⟨ac, ar, sq, ds, kd, nc, nr, pc, pr, fc, fr, nm, vl⟩, a0, c0, e1, _⟩ := lackE_get HL2.out HSrt.out hk
    rw [e1] at hK ⊢
    have hb : Below W.heap.size W (W.alloc (.cells #[.int .i64 ac, .int .i64 ar, .int .i64 sq, .slice a0 ds.length c0, .int .i64 kd, .int .i64 nc, .int .i64 nr, .int .i64 pc, .int .i64 pr, .int .i64 fc, .int .i64 fr, .string nm, .string vl] 38)) := (Below.refl _ _).alloc (Nat.le_refl _) _
    have hfin := fun a' e5 => hK a' (W.alloc (.cells #[.int .i64 ac, .int .i64 ar, .int .i64 sq, .slice a0 ds.length c0, .int .i64 kd, .int .i64 nc, .int .i64 nr, .int .i64 pc, .int .i64 pr, .int .i64 fc, .int .i64 fr, .string nm, .string vl] 38)) (keepsFrom_below hb) (KeepsS.of_below hb (fun j hj => Nat.lt_of_lt_of_le (hA.kp.2 j hj) hA.size)) ⟨ov, E, hA.below hb, hE⟩ ⟨W.heap.size, ov, hA.size, heap_alloc_new _ _, (hb.block _ hA.box.lt).trans hA.box, fun e => by have := (World.ownsRow.lt hA.own _ e).2; omega, e5⟩
    have HFin : Hid (K { tmps := #[v, undef, .slice none 0 0, .pointer (some ⟨w.heap.size, 0, none⟩), .pointer (some ⟨W.heap.size, 0, none⟩), v, .pointer (some ⟨lb, 0, none⟩), .func (.func 47) #[] #[.pointer (some ⟨w1.heap.size, 0, none⟩), .pointer (some ⟨w1.heap.size + 1, 0, none⟩)], .agg #[.int .i64 ac, .int .i64 ar, .int .i64 sq, .slice a0 ds.length c0, .int .i64 kd, .int .i64 nc, .int .i64 nr, .int .i64 pc, .int .i64 pr, .int .i64 fc, .int .i64 fr, .string nm, .string vl], undef, undef, undef, undef, undef, undef], defers := [] } (W.alloc (.cells #[.int .i64 ac, .int .i64 ar, .int .i64 sq, .slice a0 ds.length c0, .int .i64 kd, .int .i64 nc, .int .i64 nr, .int .i64 pc, .int .i64 pr, .int .i64 fc, .int .i64 fr, .string nm, .string vl] 38))) := hfin _ rfl
    clear hK hfin hb hA hE
    simp only [encH, chV, chCells]
    gi_wp2
    exact HFin.out
  case body =>
    rintro l k hk a' W hlD ⟨ov, E, hA, hE⟩ ⟨Bx, ov2, hx1, hx2, hx3, hx4, rfl⟩
    have eov : ov2 = ov := by have := hx3.symm.trans hA.box; injection this with this; injection this with this; injection this with this; injection this
    subst eov
    obtain ⟨⟨ac, ar, sq, ds, kd, nc, nr, pc, pr, fc, fr, nm, vl⟩, a0, c0, e1, e2, e3, e4, e5, e6, e7⟩ := lackE_get HL2.out HSrt.out hk
    rw [e1] at hx2
    simp only [e1]
    have hEl : E.length ≤ 4096 := by
      have h1 : E.length = ((lackL L []).take k).length := by rw [← hE]; simp
      rw [h1, List.length_take]
      have h2 : (lackL L []).length ≤ L.length := List.length_filter_le _ _
      omega
    obtain ⟨aw, cw, eo⟩ := hA.own.form
    subst eo
    have HA : Hid (AllB w W2 w.heap.size S (.slice aw E.length cw) E W) := hA
    have HKf : Hid (KF W2.heap.size W W) := keepsFrom_below (Below.refl _ _)
    have HKw : Hid (KeepsG S W W) := ⟨KeepsS.refl _ _, fun j hj => Nat.lt_of_lt_of_le (hA.kp.2 j hj) hA.size⟩
    have HIc : Hid (IsI W (.slice a0 ds.length c0) ds) := OwnI.isI (e2.keepF fun j e => hA.kp.1.2 j (HSF.out j (e5 j e))) e4
    have HBx : Hid (W.drew.heap[Bx]? = some (.cells #[.int .i64 ac, .int .i64 ar, .int .i64 sq, .slice a0 ds.length c0, .int .i64 kd, .int .i64 nc, .int .i64 nr, .int .i64 pc, .int .i64 pr, .int .i64 fc, .int .i64 fr, .string nm, .string vl] 38)) := hx2
    have HNe : Hid ((Value.slice aw E.length cw).ownBlock ≠ some Bx) := hx4
    have HSz : Hid (Sized (⟨ac, ar, sq, ds, kd, nc, nr, pc, pr, fc, fr, nm, vl⟩ : Ch) ∧ ds.length ≤ 17592186044416) := ⟨e3, e4⟩
    have HEm : Hid (E.map Prod.fst = (lackL L []).take k) := hE
    have HTk : Hid ((lackL L []).take k ++ [(⟨ac, ar, sq, ds, kd, nc, nr, pc, pr, fc, fr, nm, vl⟩ : Ch)] = (lackL L []).take (k + 1)) := e6.symm
    clear e1 e2 e3 e4 e5 e6 e7 hA hE hx2 hx3 hx4
    simp only [chV, chCells]
    gi_wp2
    refine region_round_held (S := fun W' => W'.heap[Bx]? = some (.cells #[.int .i64 ac, .int .i64 ar, .int .i64 sq, .slice a0 ds.length c0, .int .i64 kd, .int .i64 nc, .int .i64 nr, .int .i64 pc, .int .i64 pr, .int .i64 fc, .int .i64 fr, .string nm, .string vl] 38)) l (by kernel_rfl) (by kernel_rfl) (lets_block lets_round) HBx.out (fun hHeld => ?_)
    obtain ⟨Ua3u0, eW⟩ : ∃ X, X = W.drew := ⟨_, rfl⟩
    have hb : Below W.heap.size W Ua3u0 := by rw [eW]; exact (Below.refl _ _).drew
    replace HA : Hid (AllB w W2 w.heap.size S (.slice aw E.length cw) E Ua3u0) := HA.out.below hb
    replace HKf : Hid (KF W2.heap.size W Ua3u0) := HKf.out.below hb
    replace HKw : Hid (KeepsG S W Ua3u0) := HKw.out.below hb
    replace HIc : Hid (IsI Ua3u0 (.slice a0 ds.length c0) ds) := HIc.out.below hb
    rw [← eW] at hHeld ⊢
    clear eW hb
    refine tkW 1 (some 10) (v := ?_) ?_ hHeld ?_
    rotate_left
    · (intro w hSw; (try dsimp only at hSw); have hk := hSw; obtain ⟨k_0, k_1, k_2, k_3, k_4, k_5, k_6, k_7, k_8, k_9, k_10, k_11, k_12⟩ := row_cells hk; go_simp; try with_reducible rfl)
    refine wpAnyH_ready (rs := [0, 2]) (by kernel_rfl) (by simp) ?_
    refine AllReadyH.cons (o := ⟨some 9, _, _, _, _, _⟩) rfl (fun K hK => ?_) (AllReadyH.cons (o := ⟨some 11, _, _, _, _, _⟩) rfl (fun K hK => ?_) AllReadyH.nil)
    · have xo := HA.out.box.cell
      go_simp
      refine hK.out _ _ (hHeld) (fun hHeld2 => ?_)
      clear hK K hHeld
      have hHeld := hHeld2
      clear hHeld2
      (try simp only [Act.put, List.setIfInBounds_toArray, List.set_cons_zero, List.set_cons_succ])
      clear xo
      refine wpAnyH_ready (rs := [2]) (by kernel_rfl) (by simp) ?_
      refine AllReadyH.cons (o := ⟨some 11, _, _, _, _, _⟩) rfl (fun K hK => ?_) AllReadyH.nil
      have hWs := HA.out.size
      go_simp
      refine (copyCh_any ac ar sq (.slice a0 ds.length c0) kd nc nr pc pr fc fr nm vl ds _ HIc.out).mono ?_
      rintro e Ua3u2 ⟨v2, rfl, ho, hb⟩
      (try go_wp2_with fail)
      refine hK.out _ _ ((hb.block _ (Array.getElem?_eq_some_iff.1 hHeld).1).trans hHeld) (fun hHeld2 => ?_)
      clear hK K hHeld
      have hHeld := hHeld2
      clear hHeld2
      (try simp only [Act.put, List.setIfInBounds_toArray, List.set_cons_zero, List.set_cons_succ])
      replace HA : Hid (AllB w W2 w.heap.size S (.slice aw E.length cw) E Ua3u2) := HA.out.below hb
      replace HKf : Hid (KF W2.heap.size W Ua3u2) := HKf.out.below hb
      replace HKw : Hid (KeepsG S W Ua3u2) := HKw.out.below hb
      replace HIc : Hid (IsI Ua3u2 (.slice a0 ds.length c0) ds) := HIc.out.below hb
      obtain ⟨a2, c2, e2⟩ := ho.form
      subst e2
      have HO : Hid (OwnI W2.heap.size Ua3u2 (.slice a2 ds.length c2) ds) := ho.low (by omega)
      clear ho hWs
      clear hb
      refine wpAnyH_ready (rs := [3]) (by kernel_rfl) (by simp) ?_
      refine AllReadyH.cons (o := ⟨some 12, _, _, _, _, _⟩) rfl (fun K hK => ?_) AllReadyH.nil
      go_simp
      refine hK.out _ _ ((Below.block ((Below.refl _ Ua3u2).alloc (Nat.le_refl _) _) _ (Array.getElem?_eq_some_iff.1 hHeld).1).trans hHeld) (fun hHeld2 => ?_)
      clear hK K hHeld
      have hHeld := hHeld2
      clear hHeld2
      (try simp only [Act.put, List.setIfInBounds_toArray, List.set_cons_zero, List.set_cons_succ])
      obtain ⟨Ua3u3, eW⟩ : ∃ X, X = Ua3u2.alloc (.cells #[.int .i64 ac, .int .i64 ar, .int .i64 sq, .slice a2 ds.length c2, .int .i64 kd, .int .i64 nc, .int .i64 nr, .int .i64 pc, .int .i64 pr, .int .i64 fc, .int .i64 fr, .string nm, .string vl] 38) := ⟨_, rfl⟩
      have hb : Below Ua3u2.heap.size Ua3u2 Ua3u3 := by rw [eW]; exact (Below.refl _ _).alloc (Nat.le_refl _) _
      replace HA : Hid (AllB w W2 w.heap.size S (.slice aw E.length cw) E Ua3u3) := HA.out.below hb
      replace HKf : Hid (KF W2.heap.size W Ua3u3) := HKf.out.below hb
      replace HKw : Hid (KeepsG S W Ua3u3) := HKw.out.below hb
      replace HIc : Hid (IsI Ua3u3 (.slice a0 ds.length c0) ds) := HIc.out.below hb
      replace HO : Hid (OwnI W2.heap.size Ua3u3 (.slice a2 ds.length c2) ds) := HO.out.below hb
      have HV : Hid (RowHas Ua3u3 Ua3u2.heap.size [.int .i64 ac, .int .i64 ar, .int .i64 sq, .slice a2 ds.length c2, .int .i64 kd, .int .i64 nc, .int .i64 nr, .int .i64 pc, .int .i64 pr, .int .i64 fc, .int .i64 fr, .string nm, .string vl]) := by rw [eW]; exact RowHas.new _ _ _
      rw [← eW] at hHeld ⊢
      clear eW
      obtain ⟨vb, evb⟩ : ∃ vb, vb = Ua3u2.heap.size := ⟨_, rfl⟩
      rw [← evb] at HV ⊢
      clear evb
      clear hb
      refine wpAnyH_ready (rs := [4]) (by kernel_rfl) (by simp) ?_
      refine AllReadyH.cons (o := ⟨some 13, _, _, _, _, _⟩) rfl (fun K hK => ?_) AllReadyH.nil
      refine step_append_lies _ (by rfl) _ _ 22 (by rfl) W2.heap.size 38 i0 (.agg #[.int .i64 0, .int .i64 0, .int .i64 0, .slice none 0 0, .int .i64 0, .int .i64 0, .int .i64 0, .int .i64 0, .int .i64 0, .int .i64 0, .int .i64 0, .string ⟨#[]⟩, .string ⟨#[]⟩]) 13 136 Tryz.underlying22 hi hz0 hz1 hz2 rfl (by decide) (.slice aw E.length cw) E.length (flatH E) (by rfl) HA.out.own ⟨vb, 0, none⟩ 1 1 [.int .i64 ac, .int .i64 ar, .int .i64 sq, .slice a2 ds.length c2, .int .i64 kd, .int .i64 nc, .int .i64 nr, .int .i64 pc, .int .i64 pr, .int .i64 fc, .int .i64 fr, .string nm, .string vl] (by rfl) rfl HV.out.2 (fun x hx => by simp at hx; rcases hx with rfl | rfl | rfl | rfl | rfl | rfl | rfl | rfl | rfl | rfl | rfl | rfl | rfl <;> rfl) (by decide) (by unfold maxLen; omega) (by omega) (HA.out.size) Ua3u3.heap.size rfl ?_
      intro g3 c3 Ua3u4 hown3 hgrow3 hat3 hlt3
      have HP3 : Hid (∀ u, u = Value.slice (some ⟨g3, 0, none⟩) (E.length + 1) c3 → AllB w W2 w.heap.size S u (E ++ [((⟨ac, ar, sq, ds, kd, nc, nr, pc, pr, fc, fr, nm, vl⟩ : Ch), .slice a2 ds.length c2)]) (Ua3u4.setCell ⟨w.heap.size, 0, none⟩ u)) := fun u eu => by subst eu; exact HA.out.push hown3 hgrow3 HO.out HSz.out
      have HKf3 : Hid (KF W2.heap.size W Ua3u4) := KeepsFrom.trans HKf.out (keepsFrom_row HA.out.own hgrow3)
      have HKw3 : Hid (KeepsG S W Ua3u4) := HKw.out.row HA.out.own hgrow3 HA.out.kp.2
      have HBX3 : Hid (Boxed Ua3u4 w.heap.size 22 (.slice aw E.length cw)) := HA.out.box.kept hgrow3 (fun e => by have := (World.ownsRow.lt HA.out.own _ e.symm).1; have := HA.out.b2; omega)
      have HB0 : Hid (w.heap.size < W2.heap.size ∧ ¬ S w.heap.size) := ⟨HA.out.b2, HA.out.b3⟩
      refine hK.out _ _ ((hgrow3.block _ (Array.getElem?_eq_some_iff.1 hHeld).1 (fun e => HNe.out e.symm)).trans hHeld) (fun hHeld2 => ?_)
      clear hK K hHeld
      have hHeld := hHeld2
      clear hHeld2
      (try simp only [Act.put, List.setIfInBounds_toArray, List.set_cons_zero, List.set_cons_succ])
      clear hown3 hgrow3 hat3 hlt3 HA HKf HKw HIc HO HV
      refine wpAnyH_ready (rs := [5]) (by kernel_rfl) (by simp) ?_
      refine AllReadyH.cons (o := ⟨none, _, _, _, _, _⟩) rfl (fun K hK => ?_) AllReadyH.nil
      have xo := HBX3.out.cell
      have xf := HBX3.out.frozen
      go_simp
      refine hK.out _ _ ((RowKit.Below.heap_setCell _ _ _ _ (fun e => by have h1 := HB0.out.1; have e2 : Bx = w.heap.size := e; omega)).trans hHeld) (fun hHeld2 => ?_)
      clear hK K hHeld
      have hHeld := hHeld2
      clear hHeld2
      (try simp only [Act.put, List.setIfInBounds_toArray, List.set_cons_zero, List.set_cons_succ])
      obtain ⟨Ua3u5, eW⟩ : ∃ X, X = Ua3u4.setCell ⟨w.heap.size, 0, none⟩ (Value.slice (some ⟨g3, 0, none⟩) (E.length + 1) c3) := ⟨_, rfl⟩
      have HA4 : Hid (AllB w W2 w.heap.size S (Value.slice (some ⟨g3, 0, none⟩) (E.length + 1) c3) (E ++ [((⟨ac, ar, sq, ds, kd, nc, nr, pc, pr, fc, fr, nm, vl⟩ : Ch), .slice a2 ds.length c2)]) Ua3u5) := by rw [eW]; exact HP3.out _ rfl
      have HKf4 : Hid (KF W2.heap.size W Ua3u5) := by rw [eW]; exact KeepsFrom.trans HKf3.out (keepsFrom_set _ _ _)
      have HKw4 : Hid (KeepsG S W Ua3u5) := by rw [eW]; exact HKw3.out.set HB0.out.2
      rw [← eW] at hHeld ⊢
      clear eW xo xf HP3 HKf3 HKw3 HBX3
      refine wpAnyH_done (by kernel_rfl) ?_ _
      clear hHeld
      exact ⟨HKf4.out, HKw4.out.1, _, _, HA4.out, by rw [List.map_append, HEm.out]; exact HTk.out⟩
    · have hWs := HA.out.size
      go_simp
      refine (copyCh_any ac ar sq (.slice a0 ds.length c0) kd nc nr pc pr fc fr nm vl ds _ HIc.out).mono ?_
      rintro e Ua3u6 ⟨v2, rfl, ho, hb⟩
      (try go_wp2_with fail)
      refine hK.out _ _ ((hb.block _ (Array.getElem?_eq_some_iff.1 hHeld).1).trans hHeld) (fun hHeld2 => ?_)
      clear hK K hHeld
      have hHeld := hHeld2
      clear hHeld2
      (try simp only [Act.put, List.setIfInBounds_toArray, List.set_cons_zero, List.set_cons_succ])
      replace HA : Hid (AllB w W2 w.heap.size S (.slice aw E.length cw) E Ua3u6) := HA.out.below hb
      replace HKf : Hid (KF W2.heap.size W Ua3u6) := HKf.out.below hb
      replace HKw : Hid (KeepsG S W Ua3u6) := HKw.out.below hb
      replace HIc : Hid (IsI Ua3u6 (.slice a0 ds.length c0) ds) := HIc.out.below hb
      obtain ⟨a2, c2, e2⟩ := ho.form
      subst e2
      have HO : Hid (OwnI W2.heap.size Ua3u6 (.slice a2 ds.length c2) ds) := ho.low (by omega)
      clear ho hWs
      clear hb
      refine wpAnyH_ready (rs := [0, 3]) (by kernel_rfl) (by simp) ?_
      refine AllReadyH.cons (o := ⟨some 9, _, _, _, _, _⟩) rfl (fun K hK => ?_) (AllReadyH.cons (o := ⟨some 12, _, _, _, _, _⟩) rfl (fun K hK => ?_) AllReadyH.nil)
      · have xo := HA.out.box.cell
        go_simp
        refine hK.out _ _ (hHeld) (fun hHeld2 => ?_)
        clear hK K hHeld
        have hHeld := hHeld2
        clear hHeld2
        (try simp only [Act.put, List.setIfInBounds_toArray, List.set_cons_zero, List.set_cons_succ])
        clear xo
        refine wpAnyH_ready (rs := [3]) (by kernel_rfl) (by simp) ?_
        refine AllReadyH.cons (o := ⟨some 12, _, _, _, _, _⟩) rfl (fun K hK => ?_) AllReadyH.nil
        go_simp
        refine hK.out _ _ ((Below.block ((Below.refl _ Ua3u6).alloc (Nat.le_refl _) _) _ (Array.getElem?_eq_some_iff.1 hHeld).1).trans hHeld) (fun hHeld2 => ?_)
        clear hK K hHeld
        have hHeld := hHeld2
        clear hHeld2
        (try simp only [Act.put, List.setIfInBounds_toArray, List.set_cons_zero, List.set_cons_succ])
        obtain ⟨Ua3u8, eW⟩ : ∃ X, X = Ua3u6.alloc (.cells #[.int .i64 ac, .int .i64 ar, .int .i64 sq, .slice a2 ds.length c2, .int .i64 kd, .int .i64 nc, .int .i64 nr, .int .i64 pc, .int .i64 pr, .int .i64 fc, .int .i64 fr, .string nm, .string vl] 38) := ⟨_, rfl⟩
        have hb : Below Ua3u6.heap.size Ua3u6 Ua3u8 := by rw [eW]; exact (Below.refl _ _).alloc (Nat.le_refl _) _
        replace HA : Hid (AllB w W2 w.heap.size S (.slice aw E.length cw) E Ua3u8) := HA.out.below hb
        replace HKf : Hid (KF W2.heap.size W Ua3u8) := HKf.out.below hb
        replace HKw : Hid (KeepsG S W Ua3u8) := HKw.out.below hb
        replace HIc : Hid (IsI Ua3u8 (.slice a0 ds.length c0) ds) := HIc.out.below hb
        replace HO : Hid (OwnI W2.heap.size Ua3u8 (.slice a2 ds.length c2) ds) := HO.out.below hb
        have HV : Hid (RowHas Ua3u8 Ua3u6.heap.size [.int .i64 ac, .int .i64 ar, .int .i64 sq, .slice a2 ds.length c2, .int .i64 kd, .int .i64 nc, .int .i64 nr, .int .i64 pc, .int .i64 pr, .int .i64 fc, .int .i64 fr, .string nm, .string vl]) := by rw [eW]; exact RowHas.new _ _ _
        rw [← eW] at hHeld ⊢
        clear eW
        obtain ⟨vb, evb⟩ : ∃ vb, vb = Ua3u6.heap.size := ⟨_, rfl⟩
        rw [← evb] at HV ⊢
        clear evb
        clear hb
        refine wpAnyH_ready (rs := [4]) (by kernel_rfl) (by simp) ?_
        refine AllReadyH.cons (o := ⟨some 13, _, _, _, _, _⟩) rfl (fun K hK => ?_) AllReadyH.nil
        refine step_append_lies _ (by rfl) _ _ 22 (by rfl) W2.heap.size 38 i0 (.agg #[.int .i64 0, .int .i64 0, .int .i64 0, .slice none 0 0, .int .i64 0, .int .i64 0, .int .i64 0, .int .i64 0, .int .i64 0, .int .i64 0, .int .i64 0, .string ⟨#[]⟩, .string ⟨#[]⟩]) 13 136 Tryz.underlying22 hi hz0 hz1 hz2 rfl (by decide) (.slice aw E.length cw) E.length (flatH E) (by rfl) HA.out.own ⟨vb, 0, none⟩ 1 1 [.int .i64 ac, .int .i64 ar, .int .i64 sq, .slice a2 ds.length c2, .int .i64 kd, .int .i64 nc, .int .i64 nr, .int .i64 pc, .int .i64 pr, .int .i64 fc, .int .i64 fr, .string nm, .string vl] (by rfl) rfl HV.out.2 (fun x hx => by simp at hx; rcases hx with rfl | rfl | rfl | rfl | rfl | rfl | rfl | rfl | rfl | rfl | rfl | rfl | rfl <;> rfl) (by decide) (by unfold maxLen; omega) (by omega) (HA.out.size) Ua3u8.heap.size rfl ?_
        intro g3 c3 Ua3u9 hown3 hgrow3 hat3 hlt3
        have HP3 : Hid (∀ u, u = Value.slice (some ⟨g3, 0, none⟩) (E.length + 1) c3 → AllB w W2 w.heap.size S u (E ++ [((⟨ac, ar, sq, ds, kd, nc, nr, pc, pr, fc, fr, nm, vl⟩ : Ch), .slice a2 ds.length c2)]) (Ua3u9.setCell ⟨w.heap.size, 0, none⟩ u)) := fun u eu => by subst eu; exact HA.out.push hown3 hgrow3 HO.out HSz.out
        have HKf3 : Hid (KF W2.heap.size W Ua3u9) := KeepsFrom.trans HKf.out (keepsFrom_row HA.out.own hgrow3)
        have HKw3 : Hid (KeepsG S W Ua3u9) := HKw.out.row HA.out.own hgrow3 HA.out.kp.2
        have HBX3 : Hid (Boxed Ua3u9 w.heap.size 22 (.slice aw E.length cw)) := HA.out.box.kept hgrow3 (fun e => by have := (World.ownsRow.lt HA.out.own _ e.symm).1; have := HA.out.b2; omega)
        have HB0 : Hid (w.heap.size < W2.heap.size ∧ ¬ S w.heap.size) := ⟨HA.out.b2, HA.out.b3⟩
        refine hK.out _ _ ((hgrow3.block _ (Array.getElem?_eq_some_iff.1 hHeld).1 (fun e => HNe.out e.symm)).trans hHeld) (fun hHeld2 => ?_)
        clear hK K hHeld
        have hHeld := hHeld2
        clear hHeld2
        (try simp only [Act.put, List.setIfInBounds_toArray, List.set_cons_zero, List.set_cons_succ])
        clear hown3 hgrow3 hat3 hlt3 HA HKf HKw HIc HO HV
        refine wpAnyH_ready (rs := [5]) (by kernel_rfl) (by simp) ?_
        refine AllReadyH.cons (o := ⟨none, _, _, _, _, _⟩) rfl (fun K hK => ?_) AllReadyH.nil
        have xo := HBX3.out.cell
        have xf := HBX3.out.frozen
        go_simp
        refine hK.out _ _ ((RowKit.Below.heap_setCell _ _ _ _ (fun e => by have h1 := HB0.out.1; have e2 : Bx = w.heap.size := e; omega)).trans hHeld) (fun hHeld2 => ?_)
        clear hK K hHeld
        have hHeld := hHeld2
        clear hHeld2
        (try simp only [Act.put, List.setIfInBounds_toArray, List.set_cons_zero, List.set_cons_succ])
        obtain ⟨Ua3u10, eW⟩ : ∃ X, X = Ua3u9.setCell ⟨w.heap.size, 0, none⟩ (Value.slice (some ⟨g3, 0, none⟩) (E.length + 1) c3) := ⟨_, rfl⟩
        have HA4 : Hid (AllB w W2 w.heap.size S (Value.slice (some ⟨g3, 0, none⟩) (E.length + 1) c3) (E ++ [((⟨ac, ar, sq, ds, kd, nc, nr, pc, pr, fc, fr, nm, vl⟩ : Ch), .slice a2 ds.length c2)]) Ua3u10) := by rw [eW]; exact HP3.out _ rfl
        have HKf4 : Hid (KF W2.heap.size W Ua3u10) := by rw [eW]; exact KeepsFrom.trans HKf3.out (keepsFrom_set _ _ _)
        have HKw4 : Hid (KeepsG S W Ua3u10) := by rw [eW]; exact HKw3.out.set HB0.out.2
        rw [← eW] at hHeld ⊢
        clear eW xo xf HP3 HKf3 HKw3 HBX3
        refine wpAnyH_done (by kernel_rfl) ?_ _
        clear hHeld
        exact ⟨HKf4.out, HKw4.out.1, _, _, HA4.out, by rw [List.map_append, HEm.out]; exact HTk.out⟩
      · go_simp
        refine hK.out _ _ ((Below.block ((Below.refl _ Ua3u6).alloc (Nat.le_refl _) _) _ (Array.getElem?_eq_some_iff.1 hHeld).1).trans hHeld) (fun hHeld2 => ?_)
        clear hK K hHeld
        have hHeld := hHeld2
        clear hHeld2
        (try simp only [Act.put, List.setIfInBounds_toArray, List.set_cons_zero, List.set_cons_succ])
        obtain ⟨Ua3u11, eW⟩ : ∃ X, X = Ua3u6.alloc (.cells #[.int .i64 ac, .int .i64 ar, .int .i64 sq, .slice a2 ds.length c2, .int .i64 kd, .int .i64 nc, .int .i64 nr, .int .i64 pc, .int .i64 pr, .int .i64 fc, .int .i64 fr, .string nm, .string vl] 38) := ⟨_, rfl⟩
        have hb : Below Ua3u6.heap.size Ua3u6 Ua3u11 := by rw [eW]; exact (Below.refl _ _).alloc (Nat.le_refl _) _
        replace HA : Hid (AllB w W2 w.heap.size S (.slice aw E.length cw) E Ua3u11) := HA.out.below hb
        replace HKf : Hid (KF W2.heap.size W Ua3u11) := HKf.out.below hb
        replace HKw : Hid (KeepsG S W Ua3u11) := HKw.out.below hb
        replace HIc : Hid (IsI Ua3u11 (.slice a0 ds.length c0) ds) := HIc.out.below hb
        replace HO : Hid (OwnI W2.heap.size Ua3u11 (.slice a2 ds.length c2) ds) := HO.out.below hb
        have HV : Hid (RowHas Ua3u11 Ua3u6.heap.size [.int .i64 ac, .int .i64 ar, .int .i64 sq, .slice a2 ds.length c2, .int .i64 kd, .int .i64 nc, .int .i64 nr, .int .i64 pc, .int .i64 pr, .int .i64 fc, .int .i64 fr, .string nm, .string vl]) := by rw [eW]; exact RowHas.new _ _ _
        rw [← eW] at hHeld ⊢
        clear eW
        obtain ⟨vb, evb⟩ : ∃ vb, vb = Ua3u6.heap.size := ⟨_, rfl⟩
        rw [← evb] at HV ⊢
        clear evb
        clear hb
        refine wpAnyH_ready (rs := [0]) (by kernel_rfl) (by simp) ?_
        refine AllReadyH.cons (o := ⟨some 9, _, _, _, _, _⟩) rfl (fun K hK => ?_) AllReadyH.nil
        have xo := HA.out.box.cell
        go_simp
        refine hK.out _ _ (hHeld) (fun hHeld2 => ?_)
        clear hK K hHeld
        have hHeld := hHeld2
        clear hHeld2
        (try simp only [Act.put, List.setIfInBounds_toArray, List.set_cons_zero, List.set_cons_succ])
        clear xo
        refine wpAnyH_ready (rs := [4]) (by kernel_rfl) (by simp) ?_
        refine AllReadyH.cons (o := ⟨some 13, _, _, _, _, _⟩) rfl (fun K hK => ?_) AllReadyH.nil
        refine step_append_lies _ (by rfl) _ _ 22 (by rfl) W2.heap.size 38 i0 (.agg #[.int .i64 0, .int .i64 0, .int .i64 0, .slice none 0 0, .int .i64 0, .int .i64 0, .int .i64 0, .int .i64 0, .int .i64 0, .int .i64 0, .int .i64 0, .string ⟨#[]⟩, .string ⟨#[]⟩]) 13 136 Tryz.underlying22 hi hz0 hz1 hz2 rfl (by decide) (.slice aw E.length cw) E.length (flatH E) (by rfl) HA.out.own ⟨vb, 0, none⟩ 1 1 [.int .i64 ac, .int .i64 ar, .int .i64 sq, .slice a2 ds.length c2, .int .i64 kd, .int .i64 nc, .int .i64 nr, .int .i64 pc, .int .i64 pr, .int .i64 fc, .int .i64 fr, .string nm, .string vl] (by rfl) rfl HV.out.2 (fun x hx => by simp at hx; rcases hx with rfl | rfl | rfl | rfl | rfl | rfl | rfl | rfl | rfl | rfl | rfl | rfl | rfl <;> rfl) (by decide) (by unfold maxLen; omega) (by omega) (HA.out.size) Ua3u11.heap.size rfl ?_
        intro g3 c3 Ua3u13 hown3 hgrow3 hat3 hlt3
        have HP3 : Hid (∀ u, u = Value.slice (some ⟨g3, 0, none⟩) (E.length + 1) c3 → AllB w W2 w.heap.size S u (E ++ [((⟨ac, ar, sq, ds, kd, nc, nr, pc, pr, fc, fr, nm, vl⟩ : Ch), .slice a2 ds.length c2)]) (Ua3u13.setCell ⟨w.heap.size, 0, none⟩ u)) := fun u eu => by subst eu; exact HA.out.push hown3 hgrow3 HO.out HSz.out
        have HKf3 : Hid (KF W2.heap.size W Ua3u13) := KeepsFrom.trans HKf.out (keepsFrom_row HA.out.own hgrow3)
        have HKw3 : Hid (KeepsG S W Ua3u13) := HKw.out.row HA.out.own hgrow3 HA.out.kp.2
        have HBX3 : Hid (Boxed Ua3u13 w.heap.size 22 (.slice aw E.length cw)) := HA.out.box.kept hgrow3 (fun e => by have := (World.ownsRow.lt HA.out.own _ e.symm).1; have := HA.out.b2; omega)
        have HB0 : Hid (w.heap.size < W2.heap.size ∧ ¬ S w.heap.size) := ⟨HA.out.b2, HA.out.b3⟩
        refine hK.out _ _ ((hgrow3.block _ (Array.getElem?_eq_some_iff.1 hHeld).1 (fun e => HNe.out e.symm)).trans hHeld) (fun hHeld2 => ?_)
        clear hK K hHeld
        have hHeld := hHeld2
        clear hHeld2
        (try simp only [Act.put, List.setIfInBounds_toArray, List.set_cons_zero, List.set_cons_succ])
        clear hown3 hgrow3 hat3 hlt3 HA HKf HKw HIc HO HV
        refine wpAnyH_ready (rs := [5]) (by kernel_rfl) (by simp) ?_
        refine AllReadyH.cons (o := ⟨none, _, _, _, _, _⟩) rfl (fun K hK => ?_) AllReadyH.nil
        have xo := HBX3.out.cell
        have xf := HBX3.out.frozen
        go_simp
        refine hK.out _ _ ((RowKit.Below.heap_setCell _ _ _ _ (fun e => by have h1 := HB0.out.1; have e2 : Bx = w.heap.size := e; omega)).trans hHeld) (fun hHeld2 => ?_)
        clear hK K hHeld
        have hHeld := hHeld2
        clear hHeld2
        (try simp only [Act.put, List.setIfInBounds_toArray, List.set_cons_zero, List.set_cons_succ])
        obtain ⟨Ua3u14, eW⟩ : ∃ X, X = Ua3u13.setCell ⟨w.heap.size, 0, none⟩ (Value.slice (some ⟨g3, 0, none⟩) (E.length + 1) c3) := ⟨_, rfl⟩
        have HA4 : Hid (AllB w W2 w.heap.size S (Value.slice (some ⟨g3, 0, none⟩) (E.length + 1) c3) (E ++ [((⟨ac, ar, sq, ds, kd, nc, nr, pc, pr, fc, fr, nm, vl⟩ : Ch), .slice a2 ds.length c2)]) Ua3u14) := by rw [eW]; exact HP3.out _ rfl
        have HKf4 : Hid (KF W2.heap.size W Ua3u14) := by rw [eW]; exact KeepsFrom.trans HKf3.out (keepsFrom_set _ _ _)
        have HKw4 : Hid (KeepsG S W Ua3u14) := by rw [eW]; exact HKw3.out.set HB0.out.2
        rw [← eW] at hHeld ⊢
        clear eW xo xf HP3 HKf3 HKw3 HBX3
        refine wpAnyH_done (by kernel_rfl) ?_ _
        clear hHeld
        exact ⟨HKf4.out, HKw4.out.1, _, _, HA4.out, by rw [List.map_append, HEm.out]; exact HTk.out⟩
  case done =>
    rintro Dd W hDd ⟨ov, E, hA, hE⟩ hDf
    have hXd : W.heap[Dd]? = some (.deferred (some [])) := hDf
    have HA : Hid (AllB w W2 w.heap.size S ov E W) := hA
    have hE2 : E.map Prod.fst = lackL L [] := by rw [hE, lackE_length, List.take_length]
    have HE : Hid (E.map Prod.fst = lackL L []) := hE2
    have HDf : Hid (W.heap[Dd]? = some (.deferred (some []))) := hDf
    have x1 := hA.box.cell
    clear hA hE hE2 hDf hXd
    gi_wp2
    refine ⟨by simp, .inl ⟨_, _, rfl, run_takeDeferred HDf.out, ?_⟩⟩
    have hgp : W.grownBy (W.putObj Dd (.deferred none)) (some Dd) := grownBy_putObj' W Dd (.deferred none)
    have hE := HA.out.grown hgp (fun r e => by cases e; exact ⟨hDd, _, HDf.out, rfl⟩)
    exact ⟨_, results_tmp rfl _ _ _, ov, E, rfl, HE.out, ownsRow_low hE.own hE.b4, fun x hx => ⟨(hE.dep x hx).1.low hE.b4, (hE.dep x hx).2⟩, hE.bel⟩
  case stop => rintro D c k W hD hk hf; exact hf.elim

end Go.Proofs.YtngldpabfpcaiaaGreat
