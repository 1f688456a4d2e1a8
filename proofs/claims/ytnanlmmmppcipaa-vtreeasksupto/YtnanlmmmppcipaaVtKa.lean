/- The program's Keys. -/
import Derived.Test.YtnanlmmmppcipaaVtV
import Derived.Deep.AppendLies
namespace Go.Proofs.Ytnanlmmmppcipaa
open Go.RowKit Go.Shelf
set_option linter.unusedVariables false
set_option linter.unusedSimpArgs false

attribute [local go_sem] Oper.semAt_some

theorem infoSk9 : (Try.prog.info? 23).map (fun i => (i.zero, i.size, i.bytes)) = some (some (.agg #[.int .i64 0, .int .i64 0]), 2, 16) := by kernel_rfl
theorem own_cells {B : Nat} {W : World} {v : Value} {D : List St} (h : OwnSt B W v D) {k : Nat} (hk : v.ownBlock = some k) : ∃ c, W.heap[k]? = some (.cells c 23) := by
  rcases h.2 with ⟨rfl, _⟩ | ⟨g, cap, cur, rfl, _, hc, _⟩
  · cases hk
  · injection hk with hk
    subst hk
    exact ⟨cur, hc⟩
theorem keepsFrom_own {B N : Nat} {W W' : World} {v : Value} {D : List St} (h : OwnSt N W v D) (hg : W.grownBy W' v.ownBlock) : KeepsFrom B W W' := ⟨hg.size, fun k o _ hk ho => (hg.block k (Array.getElem?_eq_some_iff.1 hk).1 (fun e => by
  obtain ⟨c, hc⟩ := own_cells h e.symm
  rw [hk] at hc
  injection hc with hc
  subst hc
  cases ho)).trans hk⟩
theorem KpN.own {S : Nat → Prop} {N : Nat} {W W' : World} {v : Value} {D : List St} (h : OwnSt N W v D) (hS : ∀ k, S k → k < N) (hW : ∀ k, S k → k < W.heap.size) (hg : W.grownBy W' v.ownBlock) : KpN S N W W' := ⟨hg.size, fun k hk => by
  rcases hk with hk | ⟨hN, c, f, hc⟩
  · exact hg.block k (hW k hk) (fun e => by have := (OwnE.lt h k e.symm).1; have := hS k hk; omega)
  · refine hg.block k (Array.getElem?_eq_some_iff.1 hc).1 (fun e => ?_)
    obtain ⟨c2, h2⟩ := own_cells h e.symm
    rw [hc] at h2
    injection h2 with h2
    injection h2 with _ h3 _
    exact absurd h3 (by decide)⟩
theorem KpN.setB {S : Nat → Prop} {N : Nat} {A : World} {b i : Nat} {v : Value} (hb : ¬ S b) (hN : b < N) : KpN S N A (A.setCell ⟨b, i, none⟩ v) := KpN.set hb hN
/-- What stands in a round of Keys. -/
structure KyB (w W2 : World) (S : Nat → Prop) (ob : Nat) (v : Value) (D : List St) (W U : World) : Prop where
  rn : RnS w W2 S (B1 ob v 49) U
  ow : OwnSt W2.heap.size U v D
  kf : KeepsFrom W2.heap.size W U
  kn : KpN S W2.heap.size W U
section
variable {w W2 W U U' : World} {S : Nat → Prop} {ob : Nat} {v v' : Value} {D D' : List St}
theorem KyB.below (h : KyB w W2 S ob (v) (D) W U) (hb : Below U.heap.size U U') : KyB w W2 S ob (v) (D) W U' := ⟨h.rn.below hb, OwnE.below h.ow hb, h.kf.trans (keepsFrom_below hb), h.kn.trans (KpN.of_below hb fun k q => Nat.lt_of_lt_of_le (h.rn.sl k q) h.rn.kp.1)⟩
theorem RnS.own (h : RnS w W2 S (B1 ob v 49) U) (ho : OwnSt W2.heap.size U v D) (hg : U.grownBy U' v.ownBlock) : RnS w W2 S (B1 ob v 49) U' := by
  have hN : ∀ j, v.ownBlock = some j → W2.heap.size ≤ j := fun j e => (OwnE.lt ho j e).1
  refine ⟨fun b u t e => ?_, h.bel.grown hg h.bel.size (fun j e => by have := hN j e; have := h.le; omega), h.kp.trans ⟨hg.size, fun k q => hg.block k (Nat.lt_of_lt_of_le (h.sl k q) h.kp.1) (fun e => by have := hN k e.symm; have := h.sl k q; omega)⟩, h.sl, h.ns, h.le⟩
  have h1 := h.box b u t e
  exact (hg.block b (row_lt h1) (fun e2 => by have := hN b e2.symm; have := (h.ns b u t e).2.2; omega)).trans h1
theorem KyB.push (h : KyB w W2 S ob (v) (D) W U) (hg : U.grownBy U' v.ownBlock) (ho : OwnSt W2.heap.size U' v' D') : KyB w W2 S ob (v') (D') W (U'.setCell ⟨ob, 0, none⟩ v') := by
  have hns := h.rn.ns ob v 49 (B1.at _ _ _)
  have h9 := (h.rn.own h.ow hg).set (B1.at _ _ _) v'
  rw [B1.set] at h9
  refine ⟨h9, OwnE.keep ho fun k e => RowKit.Below.heap_setCell _ _ _ _ (by have := (OwnE.lt ho k e).1; show k ≠ ob; omega), (h.kf.trans (keepsFrom_own h.ow hg)).trans (keepsFrom_set _ _ _), (h.kn.trans (KpN.own h.ow h.rn.sl (fun k q => Nat.lt_of_lt_of_le (h.rn.sl k q) h.rn.kp.1) hg)).trans (KpN.set hns.1 hns.2.2)⟩
end

set_option maxRecDepth 100000 in
set_option maxHeartbeats 8000000 in
theorem keys_in (n0 : Nat) (hn : 5 ≤ n0) (G : Nat → Prop) (t : VT) (v : Value) (w : World) (h : VIs G w v t) (hsz : t.sz ≤ 1048576) :
    CallsIn Fence.wide n0 Try.prog 28 #[v] w fun e w' => ∃ v', e = .returned v' ∧ OwnSt w.heap.size w' v' ((flT t).map VT.k) ∧ Below w.heap.size w w' := by
  have hro : Fence.wide.round = none := rfl
  have h1n : 1 ≤ n0 := by omega
  obtain ⟨aa, ca, ak, ck, e1, fd⟩ := h.form
  subst e1
  clear h
  obtain ⟨i0, hin, hz0, hz1, hz2⟩ := info_parts infoSk9
  refine callsIn_of_wp_marks Try.func28 rfl trivial ?_ hro
  simp only [Try.ntmps28, List.size_toArray, List.length_cons, List.length_nil, Nat.reduceAdd, Nat.reduceSub, Array.replicate_succ, Array.replicate_zero, List.push_toArray, List.append_toArray, List.nil_append, List.cons_append]
  gi_wp2_with fail
  refine ⟨trivial, ?_⟩
  refine (callsIn_wide.2 (nodes_any w.heap.size _)).mono ?_
  rintro e W2 ⟨rfl, hw2⟩
  have hO0 : W2.heap[w.heap.size]? = some (.cells #[.int .i64 t.k.1, .int .i64 t.k.2, .string t.tg, .string t.tx, .slice aa t.at_.length ca, .slice ak t.ks.length ck] 27) := (by rw [hw2]; rw [Below.heap_alloc _ _ _ (by simp <;> omega)]; rw [Below.heap_alloc _ _ _ (by simp <;> omega)]; have h := heap_alloc_new w (.cells #[.int .i64 t.k.1, .int .i64 t.k.2, .string t.tg, .string t.tx, .slice aa t.at_.length ca, .slice ak t.ks.length ck] 27); exact h)
  have hO1 : W2.heap[w.heap.size + 1]? = some (.cells #[.slice none 0 0] 49) := (by rw [hw2]; rw [Below.heap_alloc _ _ _ (by simp <;> omega)]; have h := heap_alloc_new (w.alloc (.cells #[.int .i64 t.k.1, .int .i64 t.k.2, .string t.tg, .string t.tx, .slice aa t.at_.length ca, .slice ak t.ks.length ck] 27)) (.cells #[.slice none 0 0] 49); rw [show (w.alloc (.cells #[.int .i64 t.k.1, .int .i64 t.k.2, .string t.tg, .string t.tx, .slice aa t.at_.length ca, .slice ak t.ks.length ck] 27)).heap.size = w.heap.size + 1 by simp] at h; exact h)
  have hO2 : W2.heap[w.heap.size + 2]? = some (.cells #[.pointer (some ⟨w.heap.size, 0, none⟩)] 66) := (by rw [hw2]; have h := heap_alloc_new ((w.alloc (.cells #[.int .i64 t.k.1, .int .i64 t.k.2, .string t.tg, .string t.tx, .slice aa t.at_.length ca, .slice ak t.ks.length ck] 27)).alloc (.cells #[.slice none 0 0] 49)) (.cells #[.pointer (some ⟨w.heap.size, 0, none⟩)] 66); rw [show ((w.alloc (.cells #[.int .i64 t.k.1, .int .i64 t.k.2, .string t.tg, .string t.tx, .slice aa t.at_.length ca, .slice ak t.ks.length ck] 27)).alloc (.cells #[.slice none 0 0] 49)).heap.size = w.heap.size + 2 by simp] at h; exact h)
  have hb2 : Below w.heap.size w W2 := (by rw [hw2]; exact (((Below.refl _ _).alloc (Nat.le_refl _) _).alloc (by simp <;> omega) _).alloc (by simp <;> omega) _)
  have hs2 : W2.heap.size = w.heap.size + 3 := (by rw [hw2]; simp)
  have eB : ((w.alloc (.cells #[.int .i64 t.k.1, .int .i64 t.k.2, .string t.tg, .string t.tx, .slice aa t.at_.length ca, .slice ak t.ks.length ck] 27)).alloc (.cells #[.slice none 0 0] 49)).heap.size = w.heap.size + 2 := by simp
  rw [eB]
  clear eB hw2
  obtain ⟨ob, eob⟩ : ∃ b, b = w.heap.size + 1 := ⟨_, rfl⟩
  obtain ⟨pb, epb⟩ : ∃ b, b = w.heap.size + 2 := ⟨_, rfl⟩
  rw [← eob] at hO1
  rw [← epb] at hO2
  rw [← epb]
  obtain ⟨S, eS⟩ : ∃ S : Nat → Prop, S = fun k => k < W2.heap.size ∧ k ≠ ob := ⟨_, rfl⟩
  have hSl : ∀ k, S k → k < W2.heap.size := fun k q => by (rw [eS] at q; exact q.1)
  have hS0 : ∀ k, k < w.heap.size → S k := fun k q => by (rw [eS]; exact ⟨by omega, by omega⟩)
  have hST : S w.heap.size := by (rw [eS]; exact ⟨by omega, by omega⟩)
  have hns : ¬ S ob := fun q => by (rw [eS] at q; exact q.2 rfl)
  have hva := VAt.boxed fd hb2 hO0 hS0
  have HSq := nodes_seq (n0 - 1) S W2.heap.size pb w.heap.size t W2 hSl (Nat.le_refl _) (by rw [cell_of_row _ _ _ _ _ _ hO2]; rfl) hva hST (by omega)
  have HA0 : RnS w W2 S (B1 ob (.slice none 0 0) 49) W2 := RnS.mk1 hO1 hb2 hSl hns (by omega)
  obtain ⟨xs, exs⟩ : ∃ xs, xs = flatA W2 t 0 w.heap.size 0 := ⟨_, rfl⟩
  rw [← exs] at HSq
  have hxl : xs.length = t.sz := (by rw [exs]; exact flatA_len _ _ _ _ _)
  have hxp : xs.map Nd.ky = (flT t).map VT.k := (by have h1 : xs.map Nd.p = flatD t 0 := (by rw [exs]; exact flatA_p _ _ _ _ _); have h2 := flatD_snd t 0; rw [← h1, List.map_map] at h2; rw [← h2, List.map_map]; rfl)
  have HXl := hide9 hxl
  have HXp := hide9 hxp
  have HAt : Hid (∀ x ∈ xs, VAt S W2 x.t x.b x.o ∧ S x.b) := (by rw [exs]; exact flatA_at hva hST)
  have HNo : Hid (ob < W2.heap.size ∧ ¬ S ob) := ⟨by omega, hns⟩
  have hms := hsz
  clear hxp hxl exs eS hS0 hST hns hva fd hO0 hO1 hO2 hb2 hs2 epb
  gi_wp2
  rw [← eob]
  clear eob
  refine range_of h1n (gf := 58) (lb := #[.pointer (some ⟨pb, 0, none⟩)]) rfl (enters_of Try.func58 (by kernel_rfl) rfl) HSq KpN.trans (fun W l o o' hl ho hc _ => KpN.obj hl hSl ho hc) (Below.refl _ _) (fun _ => rfl)
    (fun k W => ∃ v, RnS w W2 S (B1 ob v 49) W ∧ OwnSt W2.heap.size W v ((xs.take k).map Nd.ky)) (fun _ _ _ => False)
    (fun k A B row ⟨v, h1, h2⟩ hg hr => ⟨v, h1.grown hg hr, OwnE.keep h2 fun j e => (by obtain ⟨c, hc⟩ := own_cells h2 e; exact (row_own hc hg (fun r q => (hr r q).2)).trans hc.symm)⟩) (fun c k A B row hf hg hr => hf.elim) ⟨_, HA0, OwnE.nil0 _ _⟩
    (fun x a' W => a' = { tmps := #[.agg #[.int .i64 t.k.1, .int .i64 t.k.2, .string t.tg, .string t.tx, .slice aa t.at_.length ca, .slice ak t.ks.length ck], .pointer (some ⟨w.heap.size, 0, none⟩), .slice none 0 0, .pointer (some ⟨ob, 0, none⟩), undef, .pointer (some ⟨x.b, x.o, none⟩), .func (.func 58) #[] #[.pointer (some ⟨pb, 0, none⟩)], .int .i64 (x.d : Int), .pointer (some ⟨x.b, x.o, none⟩), undef, undef, undef, undef, undef, undef, undef, undef], defers := [] }) (fun x a' u A B row h5 _ _ => h5) ?assign ?body ?done ?stop
  clear HA0
  case assign =>
    rintro l k hk W K ⟨v, hA, hO⟩ hK
    have hfin := hK _ W (KeepsFrom.refl _ _) (KpN.of_below (Below.refl _ _) (fun j q => Nat.lt_of_lt_of_le (hA.sl j q) hA.kp.1)) ⟨v, hA, hO⟩ rfl
    have HFin := hide9 hfin
    clear hK hfin hA hO
    generalize xs[k] = x at *
    simp only [encN] at *
    gi_wp2
    first | exact HFin.out | (simp; exact HFin.out)
  case body =>
    rintro l k hk a' W hlD ⟨v, hrn, how⟩ rfl
    have hkl := hk
    rw [HXl.out] at hkl
    obtain ⟨hxv, hxS⟩ := HAt.out xs[k] (List.getElem_mem hk)
    have hD : (xs.take (k + 1)).map Nd.ky = (xs.take k).map Nd.ky ++ [xs[k].t.k] := (by rw [List.take_succ_eq_append_getElem hk, List.map_append]; rfl)
    have hDl : ((xs.take k).map Nd.ky).length = k := (by rw [List.length_map, List.length_take]; omega)
    obtain ⟨D, eD⟩ : ∃ D, D = (xs.take k).map Nd.ky := ⟨_, rfl⟩
    rw [← eD] at how hD hDl
    obtain ⟨x, ex⟩ : ∃ x, x = xs[k] := ⟨_, rfl⟩
    rw [← ex] at hxv hxS hD ⊢
    obtain ⟨av, cv, ev⟩ := OwnE.form how
    subst ev
    have HC : Hid (KyB w W2 S ob (.slice av D.length cv) (D) W W) := ⟨hrn, how, KeepsFrom.refl _ _, ⟨Nat.le_refl _, fun _ _ => rfl⟩⟩
    have HXv : Hid (VAt S W2 x.t x.b x.o ∧ S x.b) := ⟨hxv, hxS⟩
    obtain ⟨_, _, _, _, kc0, kc1, _⟩ := hxv.cells
    have HX2 : Hid (W2.cell? ⟨x.b, x.o, none⟩ = some (.int .i64 x.t.k.1) ∧ W2.cell? ⟨x.b, x.o + 1, none⟩ = some (.int .i64 x.t.k.2)) := ⟨kc0, kc1⟩
    have HD := hide9 hD
    have hdk : D.length ≤ 1048576 := by omega
    clear hxv hxS hD hDl eD ex kc0 kc1 hrn how hkl
    gi_wp2
    refine region_round_held (S := fun W' => 0 ≤ W'.heap.size) l (by kernel_rfl) (by kernel_rfl) (lets_block lets_round) (Nat.zero_le _) (fun hHeld => ?_)
    obtain ⟨Uk1u0, eW⟩ : ∃ X, X = W.drew := ⟨_, rfl⟩
    have hb : Below W.heap.size W Uk1u0 := by rw [eW]; exact (Below.refl _ _).drew
    replace HC : Hid (KyB w W2 S ob (.slice av D.length cv) (D) W Uk1u0) := HC.out.below hb
    rw [← eW] at hHeld ⊢
    clear eW hb
    refine tkW 1 (some 10) (v := ?_) ?_ hHeld ?_
    rotate_left
    · (intro ww _; go_simp; try with_reducible rfl)
    refine tkW 2 (some 11) (v := ?_) ?_ hHeld ?_
    rotate_left
    · (intro ww hSw; (try dsimp only at hSw); go_simp; try with_reducible rfl)
    refine tkW 3 (some 12) (v := ?_) ?_ hHeld ?_
    rotate_left
    · (intro ww _; go_simp; try with_reducible rfl)
    refine wpAnyH_ready (rs := [0, 4]) (by kernel_rfl) (by simp) ?_
    refine AllReadyH.cons (o := ⟨some 9, _, _, _, _, _⟩) rfl (fun K hK => ?_) (AllReadyH.cons (o := ⟨some 13, _, _, _, _, _⟩) rfl (fun K hK => ?_) AllReadyH.nil)
    · have q0 := HC.out.rn.cell (B1.at _ _ _)
      go_simp
      refine hK.out _ _ (Nat.zero_le _) (fun hHeld2 => ?_)
      clear hK K hHeld
      have hHeld := hHeld2
      clear hHeld2
      (try simp only [Act.put, List.setIfInBounds_toArray, List.set_cons_zero, List.set_cons_succ])
      clear q0
      refine wpAnyH_ready (rs := [4]) (by kernel_rfl) (by simp) ?_
      refine AllReadyH.cons (o := ⟨some 13, _, _, _, _, _⟩) rfl (fun K hK => ?_) AllReadyH.nil
      have q0 : Uk1u0.cell? ⟨x.b, x.o, none⟩ = some (.int .i64 x.t.k.1) := (HC.out.rn.kp.cell (p := ⟨x.b, x.o, none⟩) HXv.out.2).trans HX2.out.1
      have q1 : Uk1u0.cell? ⟨x.b, x.o + 1, none⟩ = some (.int .i64 x.t.k.2) := (HC.out.rn.kp.cell (p := ⟨x.b, x.o + 1, none⟩) HXv.out.2).trans HX2.out.2
      go_simp
      refine hK.out _ _ (Nat.zero_le _) (fun hHeld2 => ?_)
      clear hK K hHeld
      have hHeld := hHeld2
      clear hHeld2
      (try simp only [Act.put, List.setIfInBounds_toArray, List.set_cons_zero, List.set_cons_succ])
      clear q0 q1
      refine wpAnyH_ready (rs := [5]) (by kernel_rfl) (by simp) ?_
      refine AllReadyH.cons (o := ⟨some 14, _, _, _, _, _⟩) rfl (fun K hK => ?_) AllReadyH.nil
      have hbx : Below Uk1u0.heap.size Uk1u0 (Uk1u0.alloc (.cells #[.int .i64 x.t.k.1, .int .i64 x.t.k.2] 23)) := (Below.refl _ _).alloc (Nat.le_refl _) _
      go_simp
      refine hK.out _ _ (Nat.zero_le _) (fun hHeld2 => ?_)
      clear hK K hHeld
      have hHeld := hHeld2
      clear hHeld2
      (try simp only [Act.put, List.setIfInBounds_toArray, List.set_cons_zero, List.set_cons_succ])
      obtain ⟨Uk1u3, eW⟩ : ∃ X, X = Uk1u0.alloc (.cells #[.int .i64 x.t.k.1, .int .i64 x.t.k.2] 23) := ⟨_, rfl⟩
      have hb : Below Uk1u0.heap.size Uk1u0 Uk1u3 := by rw [eW]; exact (Below.refl _ _).alloc (Nat.le_refl _) _
      replace HC : Hid (KyB w W2 S ob (.slice av D.length cv) (D) W Uk1u3) := HC.out.below hb
      clear hbx
      have HVb : Hid (Uk1u3.heap[Uk1u0.heap.size]? = some (.cells #[.int .i64 x.t.k.1, .int .i64 x.t.k.2] 23)) := by rw [eW]; exact heap_alloc_new _ _
      rw [← eW] at hHeld ⊢
      clear eW
      obtain ⟨vb, evb⟩ : ∃ b, b = Uk1u0.heap.size := ⟨_, rfl⟩
      rw [← evb] at HVb ⊢
      clear evb
      clear hb
      refine wpAnyH_ready (rs := [6]) (by kernel_rfl) (by simp) ?_
      refine AllReadyH.cons (o := ⟨some 15, _, _, _, _, _⟩) rfl (fun K hK => ?_) AllReadyH.nil
      refine step_append_lies _ (by rfl) _ _ 49 (by rfl) W2.heap.size 23 i0 (.agg #[.int .i64 0, .int .i64 0]) 2 16 Try.underlying49 hin hz0 hz1 hz2 rfl (by decide) (.slice av D.length cv) D.length (flatE stCells D) (by rfl) HC.out.ow ⟨vb, 0, none⟩ 1 1 (stCells x.t.k) (by rfl) rfl (World.news_of_block HVb.out) (fun y hy => by simp [stCells] at hy; rcases hy with rfl | rfl <;> rfl) (by decide) (by unfold maxLen; omega) (by omega) (Nat.le_trans (Nat.le_refl _) (by have := HC.out.rn.kp.1; exact this)) Uk1u3.heap.size rfl ?_
      intro g3 c3 Uk1u4 hown3 hgrow3 hat3 hlt3
      have HO3 : Hid (OwnSt W2.heap.size Uk1u4 (.slice (some ⟨g3, 0, none⟩) (D.length + 1) c3) (D ++ [x.t.k])) := OwnE.snoc rfl hown3
      have HC3 : Hid (KyB w W2 S ob (.slice (some ⟨g3, 0, none⟩) (D.length + 1) c3) (D ++ [x.t.k]) W (Uk1u4.setCell ⟨ob, 0, none⟩ (.slice (some ⟨g3, 0, none⟩) (D.length + 1) c3))) := HC.out.push hgrow3 HO3.out
      have HR3 := hide9 (HC.out.rn.own HC.out.ow hgrow3)
      clear hown3 hgrow3 hat3 hlt3
      refine hK.out _ _ (Nat.zero_le _) (fun hHeld2 => ?_)
      clear hK K hHeld
      have hHeld := hHeld2
      clear hHeld2
      (try simp only [Act.put, List.setIfInBounds_toArray, List.set_cons_zero, List.set_cons_succ])
      clear HC HVb HO3
      refine wpAnyH_ready (rs := [7]) (by kernel_rfl) (by simp) ?_
      refine AllReadyH.cons (o := ⟨none, _, _, _, _, _⟩) rfl (fun K hK => ?_) AllReadyH.nil
      have q0 := HR3.out.cell (B1.at _ _ _)
      have q1 := HR3.out.free (B1.at _ _ _)
      go_simp
      refine hK.out _ _ (Nat.zero_le _) (fun hHeld2 => ?_)
      clear hK K hHeld
      have hHeld := hHeld2
      clear hHeld2
      (try simp only [Act.put, List.setIfInBounds_toArray, List.set_cons_zero, List.set_cons_succ])
      clear q0 q1 HR3
      refine wpAnyH_done (by kernel_rfl) ?_ _
      clear hHeld
      gi_wp2
      refine ⟨HC3.out.kf, HC3.out.kn, _, HC3.out.rn, ?_⟩
      have h9 := HC3.out.ow
      rw [← HD.out] at h9
      exact h9
    · have q0 : Uk1u0.cell? ⟨x.b, x.o, none⟩ = some (.int .i64 x.t.k.1) := (HC.out.rn.kp.cell (p := ⟨x.b, x.o, none⟩) HXv.out.2).trans HX2.out.1
      have q1 : Uk1u0.cell? ⟨x.b, x.o + 1, none⟩ = some (.int .i64 x.t.k.2) := (HC.out.rn.kp.cell (p := ⟨x.b, x.o + 1, none⟩) HXv.out.2).trans HX2.out.2
      go_simp
      refine hK.out _ _ (Nat.zero_le _) (fun hHeld2 => ?_)
      clear hK K hHeld
      have hHeld := hHeld2
      clear hHeld2
      (try simp only [Act.put, List.setIfInBounds_toArray, List.set_cons_zero, List.set_cons_succ])
      clear q0 q1
      refine wpAnyH_ready (rs := [0, 5]) (by kernel_rfl) (by simp) ?_
      refine AllReadyH.cons (o := ⟨some 9, _, _, _, _, _⟩) rfl (fun K hK => ?_) (AllReadyH.cons (o := ⟨some 14, _, _, _, _, _⟩) rfl (fun K hK => ?_) AllReadyH.nil)
      · have q0 := HC.out.rn.cell (B1.at _ _ _)
        go_simp
        refine hK.out _ _ (Nat.zero_le _) (fun hHeld2 => ?_)
        clear hK K hHeld
        have hHeld := hHeld2
        clear hHeld2
        (try simp only [Act.put, List.setIfInBounds_toArray, List.set_cons_zero, List.set_cons_succ])
        clear q0
        refine wpAnyH_ready (rs := [5]) (by kernel_rfl) (by simp) ?_
        refine AllReadyH.cons (o := ⟨some 14, _, _, _, _, _⟩) rfl (fun K hK => ?_) AllReadyH.nil
        have hbx : Below Uk1u0.heap.size Uk1u0 (Uk1u0.alloc (.cells #[.int .i64 x.t.k.1, .int .i64 x.t.k.2] 23)) := (Below.refl _ _).alloc (Nat.le_refl _) _
        go_simp
        refine hK.out _ _ (Nat.zero_le _) (fun hHeld2 => ?_)
        clear hK K hHeld
        have hHeld := hHeld2
        clear hHeld2
        (try simp only [Act.put, List.setIfInBounds_toArray, List.set_cons_zero, List.set_cons_succ])
        obtain ⟨Uk1u8, eW⟩ : ∃ X, X = Uk1u0.alloc (.cells #[.int .i64 x.t.k.1, .int .i64 x.t.k.2] 23) := ⟨_, rfl⟩
        have hb : Below Uk1u0.heap.size Uk1u0 Uk1u8 := by rw [eW]; exact (Below.refl _ _).alloc (Nat.le_refl _) _
        replace HC : Hid (KyB w W2 S ob (.slice av D.length cv) (D) W Uk1u8) := HC.out.below hb
        clear hbx
        have HVb : Hid (Uk1u8.heap[Uk1u0.heap.size]? = some (.cells #[.int .i64 x.t.k.1, .int .i64 x.t.k.2] 23)) := by rw [eW]; exact heap_alloc_new _ _
        rw [← eW] at hHeld ⊢
        clear eW
        obtain ⟨vb, evb⟩ : ∃ b, b = Uk1u0.heap.size := ⟨_, rfl⟩
        rw [← evb] at HVb ⊢
        clear evb
        clear hb
        refine wpAnyH_ready (rs := [6]) (by kernel_rfl) (by simp) ?_
        refine AllReadyH.cons (o := ⟨some 15, _, _, _, _, _⟩) rfl (fun K hK => ?_) AllReadyH.nil
        refine step_append_lies _ (by rfl) _ _ 49 (by rfl) W2.heap.size 23 i0 (.agg #[.int .i64 0, .int .i64 0]) 2 16 Try.underlying49 hin hz0 hz1 hz2 rfl (by decide) (.slice av D.length cv) D.length (flatE stCells D) (by rfl) HC.out.ow ⟨vb, 0, none⟩ 1 1 (stCells x.t.k) (by rfl) rfl (World.news_of_block HVb.out) (fun y hy => by simp [stCells] at hy; rcases hy with rfl | rfl <;> rfl) (by decide) (by unfold maxLen; omega) (by omega) (Nat.le_trans (Nat.le_refl _) (by have := HC.out.rn.kp.1; exact this)) Uk1u8.heap.size rfl ?_
        intro g3 c3 Uk1u9 hown3 hgrow3 hat3 hlt3
        have HO3 : Hid (OwnSt W2.heap.size Uk1u9 (.slice (some ⟨g3, 0, none⟩) (D.length + 1) c3) (D ++ [x.t.k])) := OwnE.snoc rfl hown3
        have HC3 : Hid (KyB w W2 S ob (.slice (some ⟨g3, 0, none⟩) (D.length + 1) c3) (D ++ [x.t.k]) W (Uk1u9.setCell ⟨ob, 0, none⟩ (.slice (some ⟨g3, 0, none⟩) (D.length + 1) c3))) := HC.out.push hgrow3 HO3.out
        have HR3 := hide9 (HC.out.rn.own HC.out.ow hgrow3)
        clear hown3 hgrow3 hat3 hlt3
        refine hK.out _ _ (Nat.zero_le _) (fun hHeld2 => ?_)
        clear hK K hHeld
        have hHeld := hHeld2
        clear hHeld2
        (try simp only [Act.put, List.setIfInBounds_toArray, List.set_cons_zero, List.set_cons_succ])
        clear HC HVb HO3
        refine wpAnyH_ready (rs := [7]) (by kernel_rfl) (by simp) ?_
        refine AllReadyH.cons (o := ⟨none, _, _, _, _, _⟩) rfl (fun K hK => ?_) AllReadyH.nil
        have q0 := HR3.out.cell (B1.at _ _ _)
        have q1 := HR3.out.free (B1.at _ _ _)
        go_simp
        refine hK.out _ _ (Nat.zero_le _) (fun hHeld2 => ?_)
        clear hK K hHeld
        have hHeld := hHeld2
        clear hHeld2
        (try simp only [Act.put, List.setIfInBounds_toArray, List.set_cons_zero, List.set_cons_succ])
        clear q0 q1 HR3
        refine wpAnyH_done (by kernel_rfl) ?_ _
        clear hHeld
        gi_wp2
        refine ⟨HC3.out.kf, HC3.out.kn, _, HC3.out.rn, ?_⟩
        have h9 := HC3.out.ow
        rw [← HD.out] at h9
        exact h9
      · have hbx : Below Uk1u0.heap.size Uk1u0 (Uk1u0.alloc (.cells #[.int .i64 x.t.k.1, .int .i64 x.t.k.2] 23)) := (Below.refl _ _).alloc (Nat.le_refl _) _
        go_simp
        refine hK.out _ _ (Nat.zero_le _) (fun hHeld2 => ?_)
        clear hK K hHeld
        have hHeld := hHeld2
        clear hHeld2
        (try simp only [Act.put, List.setIfInBounds_toArray, List.set_cons_zero, List.set_cons_succ])
        obtain ⟨Uk1u11, eW⟩ : ∃ X, X = Uk1u0.alloc (.cells #[.int .i64 x.t.k.1, .int .i64 x.t.k.2] 23) := ⟨_, rfl⟩
        have hb : Below Uk1u0.heap.size Uk1u0 Uk1u11 := by rw [eW]; exact (Below.refl _ _).alloc (Nat.le_refl _) _
        replace HC : Hid (KyB w W2 S ob (.slice av D.length cv) (D) W Uk1u11) := HC.out.below hb
        clear hbx
        have HVb : Hid (Uk1u11.heap[Uk1u0.heap.size]? = some (.cells #[.int .i64 x.t.k.1, .int .i64 x.t.k.2] 23)) := by rw [eW]; exact heap_alloc_new _ _
        rw [← eW] at hHeld ⊢
        clear eW
        obtain ⟨vb, evb⟩ : ∃ b, b = Uk1u0.heap.size := ⟨_, rfl⟩
        rw [← evb] at HVb ⊢
        clear evb
        clear hb
        refine wpAnyH_ready (rs := [0]) (by kernel_rfl) (by simp) ?_
        refine AllReadyH.cons (o := ⟨some 9, _, _, _, _, _⟩) rfl (fun K hK => ?_) AllReadyH.nil
        have q0 := HC.out.rn.cell (B1.at _ _ _)
        go_simp
        refine hK.out _ _ (Nat.zero_le _) (fun hHeld2 => ?_)
        clear hK K hHeld
        have hHeld := hHeld2
        clear hHeld2
        (try simp only [Act.put, List.setIfInBounds_toArray, List.set_cons_zero, List.set_cons_succ])
        clear q0
        refine wpAnyH_ready (rs := [6]) (by kernel_rfl) (by simp) ?_
        refine AllReadyH.cons (o := ⟨some 15, _, _, _, _, _⟩) rfl (fun K hK => ?_) AllReadyH.nil
        refine step_append_lies _ (by rfl) _ _ 49 (by rfl) W2.heap.size 23 i0 (.agg #[.int .i64 0, .int .i64 0]) 2 16 Try.underlying49 hin hz0 hz1 hz2 rfl (by decide) (.slice av D.length cv) D.length (flatE stCells D) (by rfl) HC.out.ow ⟨vb, 0, none⟩ 1 1 (stCells x.t.k) (by rfl) rfl (World.news_of_block HVb.out) (fun y hy => by simp [stCells] at hy; rcases hy with rfl | rfl <;> rfl) (by decide) (by unfold maxLen; omega) (by omega) (Nat.le_trans (Nat.le_refl _) (by have := HC.out.rn.kp.1; exact this)) Uk1u11.heap.size rfl ?_
        intro g3 c3 Uk1u13 hown3 hgrow3 hat3 hlt3
        have HO3 : Hid (OwnSt W2.heap.size Uk1u13 (.slice (some ⟨g3, 0, none⟩) (D.length + 1) c3) (D ++ [x.t.k])) := OwnE.snoc rfl hown3
        have HC3 : Hid (KyB w W2 S ob (.slice (some ⟨g3, 0, none⟩) (D.length + 1) c3) (D ++ [x.t.k]) W (Uk1u13.setCell ⟨ob, 0, none⟩ (.slice (some ⟨g3, 0, none⟩) (D.length + 1) c3))) := HC.out.push hgrow3 HO3.out
        have HR3 := hide9 (HC.out.rn.own HC.out.ow hgrow3)
        clear hown3 hgrow3 hat3 hlt3
        refine hK.out _ _ (Nat.zero_le _) (fun hHeld2 => ?_)
        clear hK K hHeld
        have hHeld := hHeld2
        clear hHeld2
        (try simp only [Act.put, List.setIfInBounds_toArray, List.set_cons_zero, List.set_cons_succ])
        clear HC HVb HO3
        refine wpAnyH_ready (rs := [7]) (by kernel_rfl) (by simp) ?_
        refine AllReadyH.cons (o := ⟨none, _, _, _, _, _⟩) rfl (fun K hK => ?_) AllReadyH.nil
        have q0 := HR3.out.cell (B1.at _ _ _)
        have q1 := HR3.out.free (B1.at _ _ _)
        go_simp
        refine hK.out _ _ (Nat.zero_le _) (fun hHeld2 => ?_)
        clear hK K hHeld
        have hHeld := hHeld2
        clear hHeld2
        (try simp only [Act.put, List.setIfInBounds_toArray, List.set_cons_zero, List.set_cons_succ])
        clear q0 q1 HR3
        refine wpAnyH_done (by kernel_rfl) ?_ _
        clear hHeld
        gi_wp2
        refine ⟨HC3.out.kf, HC3.out.kn, _, HC3.out.rn, ?_⟩
        have h9 := HC3.out.ow
        rw [← HD.out] at h9
        exact h9
  case done =>
    rintro Dd W hDd ⟨v, hA, hO⟩ hDf
    rw [List.take_length, HXp.out] at hO
    have x1 := hA.cell (B1.at _ _ _)
    have HA := hide9 hA
    have HO := hide9 hO
    have HDf := hide9 hDf
    clear hA hO hDf
    gi_wp2
    refine ⟨by simp, .inl ⟨_, _, rfl, run_takeDeferred HDf.out, ?_⟩⟩
    have hE := HA.out.grown (grownBy_putObj' W Dd (.deferred none)) (fun r e => by cases e; exact ⟨hDd, _, HDf.out, rfl⟩)
    have hO2 : OwnSt W2.heap.size (W.putObj Dd (.deferred none)) v ((flT t).map VT.k) := OwnE.keep HO.out fun j e => (by obtain ⟨c, hc⟩ := own_cells HO.out e; exact (row_own hc (grownBy_putObj' W Dd (.deferred none)) (fun r q => by cases q; exact ⟨_, HDf.out, rfl⟩)).trans hc.symm)
    exact ⟨_, results_tmp rfl _ _ _, ⟨v, rfl, OwnE.low hO2 HA.out.le, hE.bel⟩⟩
  case stop =>
    rintro D c k W hD hk hf; exact hf.elim

theorem keys_any (G : Nat → Prop) (t : VT) (v : Value) (w : World) (h : VIs G w v t) (hsz : t.sz ≤ 1048576) : Calls Try.prog 28 #[v] w fun e w' => ∃ v', e = .returned v' ∧ OwnSt w.heap.size w' v' ((flT t).map VT.k) ∧ Below w.heap.size w w' := callsIn_wide.1 (keys_in 5 (Nat.le_refl _) G t v w h hsz)

end Go.Proofs.Ytnanlmmmppcipaa
