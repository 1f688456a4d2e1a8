/- spotsOf: where each node of a tree stands, by its key. -/
import Derived.Test.YthhnglpkfcmjiaaKDiO
namespace Go.Proofs.Ythhnglpkfcmjiaa
open Go.RowKit Go.Shelf
set_option linter.unusedVariables false
set_option linter.unusedSimpArgs false
attribute [local go_sem] Oper.semAt_some
theorem VAt.cells9 {G : Nat → Prop} {w : World} {t : VT} {b : Nat} (h : VAt G w t b 0) : w.cell? ⟨b, 0, none⟩ = some (.int .i64 t.k.1) := by
  obtain ⟨_, _, _, _, c0, _⟩ := h.cells
  exact c0
/-- Where nodes lie stays the same while nothing there changes. -/
theorem flatS_same_n (G : Nat → Prop) (w W : World) (hb : Below w.heap.size w W) : ∀ (n : Nat) (t : VT) (u : St) (i b o : Nat), t.sz ≤ n → VAt G w t b o → flatS W t u i b o = flatS w t u i b o
  | 0, t, _, _, _, _, h, _ => by have := t.sz_pos; omega
  | n + 1, t, u, i, b, o, h, hv => by
    rw [flatS_eq, flatS_eq]
    have key : ∀ (l : List VT) (v : St) (j b2 o2 : Nat), (∀ i (hi : i < l.length), VAt G w l[i] b2 (o2 + i * 6) ∧ l[i].sz ≤ n) → flatsS W l v j b2 o2 = flatsS w l v j b2 o2 := fun l => by
      induction l with
      | nil => intro _ _ _ _ _; simp [flatsS]
      | cons y r ihr =>
        intro v j b2 o2 hl
        have h0 := hl 0 (by simp)
        rw [Nat.zero_mul, Nat.add_zero, List.getElem_cons_zero] at h0
        rw [flatsS, flatsS, flatS_same_n G w W hb n y v j b2 o2 h0.2 h0.1, ihr v (j + 1) b2 (o2 + 6) (fun i hi => ?_)]
        have h1 := hl (i + 1) (by simpa using hi)
        rw [List.getElem_cons_succ, show o2 + (i + 1) * 6 = o2 + 6 + i * 6 by omega] at h1
        exact h1
    by_cases hk : t.ks = []
    · rw [hk]; simp [flatsS]
    · obtain ⟨b2, o2, ck, ekb, hg, hlt, c5, _⟩ := hv.kbo (i := 0) (by cases h9 : t.ks with | nil => exact absurd h9 hk | cons _ _ => simp)
      have e5 : kbo W b o = kbo w b o := by
        unfold kbo
        rw [hb.cell (p := ⟨b, o + 5, none⟩) (cell_lt (p := ⟨b, o + 5, none⟩) c5)]
      rw [e5, ekb]
      rw [key t.ks t.k 0 b2 o2 fun j hj => ?_]
      obtain ⟨b3, o3, ck3, ekb3, _, _, _, hv3⟩ := hv.kbo hj
      rw [ekb] at ekb3
      injection ekb3 with e1 e2
      subst e1 e2
      exact ⟨hv3, by have := VT.kid hj; omega⟩
theorem flatS_same {G : Nat → Prop} {w W : World} {t : VT} {b o : Nat} (hv : VAt G w t b o) (hb : Below w.heap.size w W) (u : St) (i : Nat) : flatS W t u i b o = flatS w t u i b o := flatS_same_n G w W hb t.sz t u i b o (Nat.le_refl _) hv
set_option maxRecDepth 100000 in
set_option maxHeartbeats 8000000 in
theorem spotsOf_in (n0 : Nat) (hn : 5 ≤ n0) (G : Nat → Prop) (t : VT) (Bt : Nat) (w : World) (hv : VAt G w t Bt 0) (hnd : ((flT t).map VT.k).Nodup) :
    CallsIn Fence.wide n0 Try.prog 29 #[.pointer (some ⟨Bt, 0, none⟩)] w fun e w' => ∃ mb, e = .returned (.map (some mb)) ∧ MpS w' mb (flatS w t (0, 0) 0 Bt 0) ∧ w.heap.size ≤ mb ∧ Below w.heap.size w w' := by
  have hro : Fence.wide.round = none := rfl
  have h1n : 1 ≤ n0 := by omega
  refine callsIn_of_wp_marks Try.func29 rfl trivial ?_ hro
  simp only [Try.ntmps29, List.size_toArray, List.length_cons, List.length_nil, Nat.reduceAdd, Nat.reduceSub, Array.replicate_succ, Array.replicate_zero, List.push_toArray, List.append_toArray, List.nil_append, List.cons_append]
  have hmm := @run_makeMap Try.prog
  gi_wp2_with fail
  clear hmm
  refine ⟨trivial, ?_⟩
  refine (callsIn_wide.2 (spots_any Bt _)).mono ?_
  rintro e W2 ⟨rfl, hw2⟩
  have hO0 : W2.heap[w.heap.size]? = some (.map #[] 0) := (by rw [hw2]; rw [Below.heap_alloc _ _ _ (by simp <;> omega)]; rw [Below.heap_alloc _ _ _ (by simp <;> omega)]; have h := heap_alloc_new w (.map #[] 0); exact h)
  have hO1 : W2.heap[w.heap.size + 1]? = some (.cells #[.map (some w.heap.size)] 56) := (by rw [hw2]; rw [Below.heap_alloc _ _ _ (by simp <;> omega)]; have h := heap_alloc_new (w.alloc (.map #[] 0)) (.cells #[.map (some w.heap.size)] 56); rw [show (w.alloc (.map #[] 0)).heap.size = w.heap.size + 1 by simp] at h; exact h)
  have hO2 : W2.heap[w.heap.size + 2]? = some (.cells #[.pointer (some ⟨Bt, 0, none⟩)] 58) := (by rw [hw2]; have h := heap_alloc_new ((w.alloc (.map #[] 0)).alloc (.cells #[.map (some w.heap.size)] 56)) (.cells #[.pointer (some ⟨Bt, 0, none⟩)] 58); rw [show ((w.alloc (.map #[] 0)).alloc (.cells #[.map (some w.heap.size)] 56)).heap.size = w.heap.size + 2 by simp] at h; exact h)
  have hb2 : Below w.heap.size w W2 := (by rw [hw2]; exact (((Below.refl _ _).alloc (Nat.le_refl _) _).alloc (by simp <;> omega) _).alloc (by simp <;> omega) _)
  have hs2 : W2.heap.size = w.heap.size + 3 := (by rw [hw2]; simp)
  have eB : ((w.alloc (.map #[] 0)).alloc (.cells #[.map (some w.heap.size)] 56)).heap.size = w.heap.size + 2 := by simp
  rw [eB]
  clear eB hw2
  obtain ⟨mb, emb⟩ : ∃ b, b = w.heap.size := ⟨_, rfl⟩
  obtain ⟨vb, evb⟩ : ∃ b, b = w.heap.size + 1 := ⟨_, rfl⟩
  obtain ⟨pb, epb⟩ : ∃ b, b = w.heap.size + 2 := ⟨_, rfl⟩
  rw [← emb] at hO0
  rw [← evb, ← emb] at hO1
  rw [← epb] at hO2
  rw [← evb, ← epb, ← emb]
  obtain ⟨S, eS⟩ : ∃ S : Nat → Prop, S = fun k => k < W2.heap.size ∧ k ≠ mb := ⟨_, rfl⟩
  have hSl : ∀ k, S k → k < W2.heap.size := fun k q => by (rw [eS] at q; exact q.1)
  have hS0 : ∀ k, k < w.heap.size → S k := fun k q => by (rw [eS]; exact ⟨by omega, by omega⟩)
  have hSv : S vb := by (rw [eS]; exact ⟨by omega, by omega⟩)
  have hlB := cell_lt hv.cells9
  have hva : VAt S W2 t Bt 0 := (hv.turn hb2.size (fun k q l => ⟨hS0 k l, hb2.block k l⟩) (hb2.block _ hlB))
  have HSq := spots_seq (n0 - 1) S W2.heap.size pb Bt t W2 hSl (Nat.le_refl _) (by rw [cell_of_row _ _ _ _ _ _ hO2]; rfl) hva (hS0 _ hlB)
  obtain ⟨xs, exs⟩ : ∃ xs, xs = flatS w t (0, 0) 0 Bt 0 := ⟨_, rfl⟩
  rw [flatS_same hv hb2 (0, 0) 0, ← exs] at HSq
  have HA0 : DgS w W2 S B0 (M1 mb []) W2 := ⟨⟨fun _ _ _ e => (by cases e), hb2, KeepsS.refl _ _, hSl, fun _ _ _ e => (by cases e), hb2.size⟩, fun b D e => (by obtain ⟨rfl, rfl⟩ := M1.of e; exact ⟨#[], 0, hO0, ⟨rfl, List.nodup_nil, fun x h => by simp at h⟩⟩), fun b D e => (by obtain ⟨rfl, rfl⟩ := M1.of e; exact ⟨fun q => by (rw [eS] at q; exact q.2 rfl), by omega, by omega, rfl⟩)⟩
  have HVs : Hid (S vb ∧ W2.cell? ⟨vb, 0, none⟩ = some (.map (some mb))) := ⟨hSv, by rw [cell_of_row _ _ _ _ _ _ hO1]; rfl⟩
  have HAt : Hid (∀ x ∈ xs, VAt S W2 x.t x.b x.o ∧ S x.b) := (by rw [exs, ← flatS_same hv hb2 (0, 0) 0]; exact flatS_at hva (hS0 _ hlB))
  have HNd : Hid ((xs.map skU).Nodup) := (by show List.Nodup _; have h1 := flatS_t w t (0, 0) 0 Bt 0; rw [← exs] at h1; rw [← h1, List.map_map] at hnd; exact hnd)
  have Hmb : Hid (w.heap.size ≤ mb) := (by show _ ≤ _; omega)
  have HXs := hide9 exs
  clear exs eS hS0 hSv hva hlB hO0 hO1 hO2 hb2 hs2 emb evb epb
  gi_wp2
  refine range_K h1n (gf := 52) (lb := #[.pointer (some ⟨pb, 0, none⟩)]) rfl (enters_of Try.func52 (by kernel_rfl) rfl) HSq KpS.trans (fun W l o o' hl ho hc _ => KpS.obj (fun q => by have := hSl l q; omega) ho hc) (Below.refl _ _) (fun _ => rfl)
    (fun k W => DgS w W2 S B0 (M1 mb (xs.take k)) W) (fun _ _ _ => False)
    (fun k A B row h1 hg hr => h1.grown hg hr) (fun c k A B row hf hg hr => hf.elim) HA0
    (fun x a' W => ∃ sb, SbX W2 sb x W ∧ a' = { tmps := #[.pointer (some ⟨Bt, 0, none⟩), undef, .map none, .pointer (some ⟨vb, 0, none⟩), .pointer (some ⟨sb, 0, none⟩), .map (some mb), .pointer (some ⟨Bt, 0, none⟩), .func (.func 52) #[] #[.pointer (some ⟨pb, 0, none⟩)], .agg #[.pointer (some ⟨x.b, x.o, none⟩), .int .i64 x.a.1, .int .i64 x.a.2, .int .i64 (x.i : Int)], undef, undef, undef, undef, undef, undef, undef, undef], defers := [] }) (fun x a' u A B row ⟨sb, h1, h5⟩ hg hr => ⟨sb, h1.grown hg (fun r e => (hr r e).2), h5⟩) ?assign ?body ?done ?stop
  clear HA0
  case assign =>
    rintro l k hk W K hA hK
    obtain ⟨x, ex⟩ : ∃ x, x = xs[k] := ⟨_, rfl⟩
    rw [← ex] at hK ⊢
    clear ex
    have Hz : Hid ((W.alloc (.cells #[.pointer none, .int .i64 0, .int .i64 0, .int .i64 0] 64)).heap[W.heap.size]? = some (.cells #[.pointer none, .int .i64 0, .int .i64 0, .int .i64 0] 64)) := heap_alloc_new _ _
    obtain ⟨Wn, eW⟩ : ∃ X, X = (W.alloc (.cells #[.pointer none, .int .i64 0, .int .i64 0, .int .i64 0] 64)).setRow W.heap.size #[.pointer (some ⟨x.b, x.o, none⟩), .int .i64 x.a.1, .int .i64 x.a.2, .int .i64 (x.i : Int)] := ⟨_, rfl⟩
    have hb : Below W.heap.size W Wn := (by rw [eW]; exact ((Below.refl _ _).alloc (Nat.le_refl _) _).grown (grown_setRow _ _ _) (by simp) (fun k e => by cases e; exact Nat.le_refl _))
    obtain ⟨sb, esb⟩ : ∃ n, n = W.heap.size := ⟨_, rfl⟩
    have hsx : SbX W2 sb x Wn := ⟨by rw [eW, esb]; exact setRow_same Hz.out, by rw [esb]; exact hA.rn.kp.1⟩
    have HFin : Hid (∀ a' : Act, _ → K a' Wn) := fun a' ha => hK a' Wn (keepsFrom_below hb) (hA.kp0 hb) (hA.below hb) ⟨sb, hsx, ha⟩
    have HEw := hide9 (And.intro eW esb)
    clear hK hb hsx eW esb hA
    simp only [encS] at *
    gi_wp2_with (refine wpListIn_store_rowS rfl 64 (.tmp 4) (.tmp 8) rfl W.heap.size 64 #[.pointer none, .int .i64 0, .int .i64 0, .int .i64 0] #[.pointer (some ⟨x.b, x.o, none⟩), .int .i64 x.a.1, .int .i64 x.a.2, .int .i64 (x.i : Int)] rfl rfl Hz.out sizeSp rfl (by simp [Value.oneCell']) ?_)
    rw [← HEw.out.1, ← HEw.out.2]
    exact HFin.out _ rfl
  case body =>
    rintro l k hk a' W hlD hdg ⟨sb, hsx, rfl⟩
    obtain ⟨hxv, hxS⟩ := HAt.out xs[k] (List.getElem_mem hk)
    have hD : xs.take (k + 1) = xs.take k ++ [xs[k]] := List.take_succ_eq_append_getElem hk
    have hnew : getP skU (xs.take k) (skU xs[k]) = none := (by unfold getP; rw [List.find?_eq_none]; intro y hy; have h1 := HNd.out; rw [← List.take_append_drop (k + 1) xs, hD, List.map_append, List.map_append, List.append_assoc, List.nodup_append] at h1; have h2 := h1.2.2 (skU y) (List.mem_map.2 ⟨y, hy, rfl⟩) (skU xs[k]) (by simp); simpa using h2)
    obtain ⟨D, eD⟩ : ∃ D, D = xs.take k := ⟨_, rfl⟩
    rw [← eD] at hdg hD hnew
    obtain ⟨x, ex⟩ : ∃ x, x = xs[k] := ⟨_, rfl⟩
    rw [← ex] at hxv hxS hD hnew hsx ⊢
    have HD := hide9 hD
    have HC : Hid (DgS w W2 S (B0) (M1 mb D) W) := hdg
    have HC0 : Hid (DgS w W2 S (B0) (M1 mb D) W) := hdg
    have HSb : Hid (SbX W2 sb x W) := hsx
    have HSb0 : Hid (SbX W2 sb x W) := hsx
    have HXv : Hid (VAt S W2 x.t x.b x.o ∧ S x.b) := ⟨hxv, hxS⟩
    obtain ⟨_, _, _, _, kc0, kc1, _⟩ := hxv.cells
    have HX2 : Hid (W2.cell? ⟨x.b, x.o, none⟩ = some (.int .i64 x.t.k.1) ∧ W2.cell? ⟨x.b, x.o + 1, none⟩ = some (.int .i64 x.t.k.2)) := ⟨kc0, kc1⟩
    have Hnew := hide9 hnew
    have HKf : Hid (KeepsFrom W2.heap.size W W) := KeepsFrom.refl _ _
    have HKp : Hid (KpS S W2.heap.size W W) := KpS.refl _ _ _
    clear hxv hxS hD eD ex kc0 kc1 hdg hsx hnew
    gi_wp2
    refine region_round_held (S := fun W' => KeepsS (fun k => S k ∨ k = sb) W W') l (by kernel_rfl) (by kernel_rfl) (lets_block lets_roundK) (KeepsS.of_below (Below.refl W.heap.size W).drew (fun k q => by rcases q with q | rfl; exact Nat.lt_of_lt_of_le (HC.out.rn.sl k q) HC.out.rn.kp.1; exact row_lt HSb.out.1)) (fun hHeld => ?_)
    obtain ⟨Us1u0, eW⟩ : ∃ X, X = W.drew := ⟨_, rfl⟩
    have hb : Below W.heap.size W Us1u0 := by rw [eW]; exact (Below.refl _ _).drew
    replace HC : Hid (DgS w W2 S (B0) (M1 mb D) Us1u0) := HC.out.below hb
    replace HSb : Hid (SbX W2 sb x Us1u0) := HSb.out.below hb
    replace HKf : Hid (KeepsFrom W2.heap.size W Us1u0) := HKf.out.trans (keepsFrom_below hb)
    replace HKp : Hid (KpS S W2.heap.size W Us1u0) := HKp.out.trans (HC0.out.kp0 hb)
    rw [← eW] at hHeld ⊢
    clear eW hb
    refine tkW 0 (some 9) (v := ?_) ?_ hHeld ?_
    rotate_left
    · (intro ww hSw; (try dsimp only at hSw); have q0 : ww.cell? ⟨vb, 0, none⟩ = some (.map (some mb)) := (hSw.cell (p := ⟨vb, 0, none⟩) (.inl HVs.out.1)).trans ((HC0.out.rn.kp.cell (p := ⟨vb, 0, none⟩) HVs.out.1).trans HVs.out.2); go_simp; try with_reducible rfl)
    refine tkW 1 (some 10) (v := ?_) ?_ hHeld ?_
    rotate_left
    · (intro ww _; go_simp; try with_reducible rfl)
    refine tkW 2 (some 11) (v := ?_) ?_ hHeld ?_
    rotate_left
    · (intro ww hSw; (try dsimp only at hSw); obtain ⟨z0, z1, z2, z3⟩ := row4 ((hSw.2 sb (.inr rfl)).trans HSb0.out.1); go_simp; try with_reducible rfl)
    refine tkW 3 (some 12) (v := ?_) ?_ hHeld ?_
    rotate_left
    · (intro ww hSw; (try dsimp only at hSw); go_simp; try with_reducible rfl)
    refine tkW 4 (some 13) (v := ?_) ?_ hHeld ?_
    rotate_left
    · (intro ww _; go_simp; try with_reducible rfl)
    refine tkW 5 (some 14) (v := ?_) ?_ hHeld ?_
    rotate_left
    · (intro ww hSw; (try dsimp only at hSw); have q6 : ww.cell? ⟨x.b, x.o, none⟩ = some (.int .i64 x.t.k.1) := (hSw.cell (p := ⟨x.b, x.o, none⟩) (.inl HXv.out.2)).trans ((HC0.out.rn.kp.cell (p := ⟨x.b, x.o, none⟩) HXv.out.2).trans HX2.out.1); have q7 : ww.cell? ⟨x.b, x.o + 1, none⟩ = some (.int .i64 x.t.k.2) := (hSw.cell (p := ⟨x.b, x.o + 1, none⟩) (.inl HXv.out.2)).trans ((HC0.out.rn.kp.cell (p := ⟨x.b, x.o + 1, none⟩) HXv.out.2).trans HX2.out.2); go_simp; try with_reducible rfl)
    refine tkW 6 (some 15) (v := ?_) ?_ hHeld ?_
    rotate_left
    · (intro ww hSw; (try dsimp only at hSw); obtain ⟨z0, z1, z2, z3⟩ := row4 ((hSw.2 sb (.inr rfl)).trans HSb0.out.1); go_simp; try with_reducible rfl)
    refine wpAnyH_ready (rs := [7]) (by kernel_rfl) (by simp) ?_
    refine AllReadyH.cons (o := ⟨none, _, _, _, _, _⟩) rfl (fun K hK => ?_) AllReadyH.nil
    obtain ⟨Us1u1, hup, hgr, _, hor⟩ := store_st 56 64 uSpk (HC.out.ms mb D (M1.at _ _)) x
    have hup2 : (Instr.mapUpdate 56 (.map (some mb)) (.agg #[.int .i64 x.t.k.1, .int .i64 x.t.k.2]) (.agg #[.pointer (some ⟨x.b, x.o, none⟩), .int .i64 x.a.1, .int .i64 x.a.2, .int .i64 (x.i : Int)])).run Try.prog Us1u0 = .ok () Us1u1 := hup
    have hm2 : MpS Us1u1 mb (D ++ [x]) := hor.elim (fun h9 => h9.2) (fun ⟨x9, _, h9, _⟩ => (by rw [Hnew.out] at h9; cases h9))
    have hkm := HC.out.kpM (M1.at _ _) hgr
    have HC2 : Hid (DgS w W2 S (B0) (M1 mb (D ++ [x])) Us1u1) := (by have h9 := HC.out.store (M1.at _ _) hgr hm2; rw [M1.set] at h9; exact h9)
    have HKf2 : Hid (KeepsFrom W2.heap.size W Us1u1) := HKf.out.trans (KeepsFrom.of_grownBy hgr fun j e => by cases e; exact (HC.out.mn mb D (M1.at _ _)).2.2.1)
    have HKp2 : Hid (KpS S W2.heap.size W Us1u1) := HKp.out.trans hkm
    have hkp : KeepsS (fun k => S k ∨ k = sb) W Us1u1 := hHeld.trans ⟨hkm.1, fun k q => by rcases q with q | rfl; exact hkm.2 k (.inl q); exact hkm.2 _ (.inr ⟨HSb.out.2, _, _, _, HSb.out.1, .inr rfl⟩)⟩
    clear hup hgr hor hm2 hkm
    go_simp
    refine hK.out _ _ (hkp) (fun hHeld2 => ?_)
    clear hK K hHeld
    have hHeld := hHeld2
    clear hHeld2
    (try simp only [Act.put, List.setIfInBounds_toArray, List.set_cons_zero, List.set_cons_succ])
    clear hkp hup2 HC HKf HKp HSb
    refine wpAnyH_done (by kernel_rfl) ?_ _
    clear hHeld
    gi_wp2
    exact ⟨HKf2.out, HKp2.out, (by show DgS w W2 S B0 (M1 mb (xs.take (k + 1))) _; rw [HD.out]; exact HC2.out)⟩
  case done =>
    rintro Dd W hDd hA hDf
    rw [List.take_length] at hA
    have HA := hide9 hA
    have HDf := hide9 hDf
    have x1 : W.cell? ⟨vb, 0, none⟩ = some (.map (some mb)) := (hA.rn.kp.cell (p := ⟨vb, 0, none⟩) HVs.out.1).trans HVs.out.2
    clear hA hDf
    gi_wp2
    refine ⟨by simp, .inl ⟨_, _, rfl, run_takeDeferred HDf.out, ?_⟩⟩
    have hE := HA.out.grown (grownBy_putObj' W Dd (.deferred none)) (fun r e => by cases e; exact ⟨hDd, _, HDf.out, rfl⟩)
    exact ⟨_, results_tmp rfl _ _ _, mb, rfl, (by rw [← HXs.out]; exact hE.ms mb _ (M1.at _ _)), Hmb.out, hE.rn.bel⟩
  case stop =>
    rintro D c k W hD hk hf; exact hf.elim
end Go.Proofs.Ythhnglpkfcmjiaa
