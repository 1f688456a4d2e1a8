/- The program's Check. -/
import Derived.Test.YtljmlbidbacdjabVtE
namespace Go.Proofs.Ytljmlbidbacdjab
open Go.RowKit Go.Shelf
set_option linter.unusedVariables false
set_option linter.unusedSimpArgs false

attribute [local go_sem] Oper.semAt_some

set_option maxRecDepth 100000 in
set_option maxHeartbeats 16000000 in
theorem check_in (n0 : Nat) (hn : 5 ≤ n0) (G : Nat → Prop) (t : VT) (v : Value) (w : World) (h : VIs G w v t) (hsz : t.sz ≤ 1048576) (hbn : BnA t) :
    CallsIn Fence.wide n0 Try.prog 33 #[v] w fun e w' => e = .returned (.int .i64 (chkT t)) ∧ Below w.heap.size w w' := by
  have hro : Fence.wide.round = none := rfl
  have h1n : 1 ≤ n0 := by omega
  have HV0 := hide9 h
  obtain ⟨aa, ca, ak, ck, e1, fd⟩ := h.form
  subst e1
  clear h
  refine callsIn_of_wp_marks Try.func33 rfl trivial ?_ hro
  simp only [Try.ntmps33, List.size_toArray, List.length_cons, List.length_nil, Nat.reduceAdd, Nat.reduceSub, Array.replicate_succ, Array.replicate_zero, List.push_toArray, List.append_toArray, List.nil_append, List.cons_append]
  have hbw : Below w.heap.size w ((w.alloc (.cells #[.int .i64 t.k.1, .int .i64 t.k.2, .string t.tg, .string t.tx, .slice aa t.at_.length ca, .slice ak t.ks.length ck] 42)).alloc (.cells #[.int .i64 0] 27)) := ((Below.refl _ _).alloc (Nat.le_refl _) _).alloc (by simp) _
  have hvw := HV0.out.below hbw
  gi_wp2_with fail
  refine ⟨trivial, ?_⟩
  refine (callsIn_wide.2 (tooMany_any G t _ _ hvw hsz)).mono ?_
  rintro e W1 ⟨rfl, hb1⟩
  have hT0 : ((w.alloc (.cells #[.int .i64 t.k.1, .int .i64 t.k.2, .string t.tg, .string t.tx, .slice aa t.at_.length ca, .slice ak t.ks.length ck] 42)).alloc (.cells #[.int .i64 0] 27)).heap[w.heap.size]? = some (.cells #[.int .i64 t.k.1, .int .i64 t.k.2, .string t.tg, .string t.tx, .slice aa t.at_.length ca, .slice ak t.ks.length ck] 42) := (Below.heap_alloc _ _ _ (by simp)).trans (heap_alloc_new w _)
  have hR0 : ((w.alloc (.cells #[.int .i64 t.k.1, .int .i64 t.k.2, .string t.tg, .string t.tx, .slice aa t.at_.length ca, .slice ak t.ks.length ck] 42)).alloc (.cells #[.int .i64 0] 27)).heap[w.heap.size + 1]? = some (.cells #[.int .i64 0] 27) := (by have h9 := heap_alloc_new (w.alloc (.cells #[.int .i64 t.k.1, .int .i64 t.k.2, .string t.tg, .string t.tx, .slice aa t.at_.length ca, .slice ak t.ks.length ck] 42)) (.cells #[.int .i64 0] 27); rw [show (w.alloc (.cells #[.int .i64 t.k.1, .int .i64 t.k.2, .string t.tg, .string t.tx, .slice aa t.at_.length ca, .slice ak t.ks.length ck] 42)).heap.size = w.heap.size + 1 by simp] at h9; exact h9)
  have hT1 := (hb1.block _ (row_lt hT0)).trans hT0
  have hR1 := (hb1.block _ (row_lt hR0)).trans hR0
  have hbW : Below w.heap.size w W1 := hbw.trans (hb1.mono hbw.size)
  clear hb1 hbw hvw hT0 hR0
  by_cases hbig : 8192 < t.sz
  · have HF : Hid (chkT t = 3) := if_pos hbig
    rw [decide_eq_true hbig]
    have r1 : W1.cell? ⟨w.heap.size + 1, 0, none⟩ = some (.int .i64 0) := (by rw [cell_of_row _ _ _ _ _ _ hR1]; rfl)
    have r2 : W1.frozen? ⟨w.heap.size + 1, 0, none⟩ = false := frozen_of_row _ _ _ _ _ hR1
    have HR2 : Hid ((W1.setCell ⟨w.heap.size + 1, 0, none⟩ (.int .i64 3)).cell? ⟨w.heap.size + 1, 0, none⟩ = some (.int .i64 3)) := (by show _ = _; rw [cell_of_row _ _ _ _ _ _ (heap_setCell_same W1 _ 0 _ _ _ hR1)]; rfl)
    have HB2 : Hid (Below w.heap.size w (W1.setCell ⟨w.heap.size + 1, 0, none⟩ (.int .i64 3))) := hbW.setCell (p := ⟨w.heap.size + 1, 0, none⟩) (by show w.heap.size ≤ w.heap.size + 1; omega) _
    clear hbig hT1 hR1 hbW
    gi_wp2
    exact ⟨_, results_intCell2 rfl _ (w.heap.size + 1) _ 3 rfl HR2.out, by rw [HF.out], HB2.out⟩
  · have HT0 : Hid (chkT t = chkR [] (flatD t 0)) := if_neg hbig
    rw [decide_eq_false hbig]
    clear hbig
    have hmm := @run_makeMap Try.prog
    gi_wp2_with fail
    clear hmm
    refine ⟨trivial, ?_⟩
    refine (callsIn_wide.2 (nodes_any w.heap.size _)).mono ?_
    rintro e W2 ⟨rfl, hw2⟩
    have hX : Below W1.heap.size W1 W2 := (by rw [hw2]; exact (((Below.refl _ _).alloc (Nat.le_refl _) _).alloc (by simp <;> omega) _).alloc (by simp <;> omega) _)
    have hs2 : W2.heap.size = W1.heap.size + 3 := (by rw [hw2]; simp)
    have hM2 : W2.heap[W1.heap.size]? = some (.map #[] 0) := (by rw [hw2, Below.heap_alloc _ _ _ (by simp <;> omega), Below.heap_alloc _ _ _ (by simp <;> omega)]; exact heap_alloc_new _ _)
    have hV2 : W2.heap[W1.heap.size + 1]? = some (.cells #[.map (some W1.heap.size)] 94) := (by rw [hw2, Below.heap_alloc _ _ _ (by simp <;> omega)]; have h9 := heap_alloc_new (W1.alloc (.map #[] 0)) (.cells #[.map (some W1.heap.size)] 94); rw [show (W1.alloc (.map #[] 0)).heap.size = W1.heap.size + 1 by simp] at h9; exact h9)
    have hP2 : W2.heap[W1.heap.size + 2]? = some (.cells #[.pointer (some ⟨w.heap.size, 0, none⟩)] 98) := (by rw [hw2]; have h9 := heap_alloc_new ((W1.alloc (.map #[] 0)).alloc (.cells #[.map (some W1.heap.size)] 94)) (.cells #[.pointer (some ⟨w.heap.size, 0, none⟩)] 98); rw [show ((W1.alloc (.map #[] 0)).alloc (.cells #[.map (some W1.heap.size)] 94)).heap.size = W1.heap.size + 2 by simp] at h9; exact h9)
    have hT2 := (hX.block _ (row_lt hT1)).trans hT1
    have hR2 := (hX.block _ (row_lt hR1)).trans hR1
    have eB : ((W1.alloc (.map #[] 0)).alloc (.cells #[.map (some W1.heap.size)] 94)).heap.size = W1.heap.size + 2 := by simp
    rw [eB]
    clear eB hw2
    have hlt1 := row_lt hR1
    have hb2 : Below w.heap.size w W2 := hbW.trans (hX.mono hbW.size)
    obtain ⟨mb, emb⟩ : ∃ b, b = W1.heap.size := ⟨_, rfl⟩
    obtain ⟨vb, evb⟩ : ∃ b, b = W1.heap.size + 1 := ⟨_, rfl⟩
    obtain ⟨pb, epb⟩ : ∃ b, b = W1.heap.size + 2 := ⟨_, rfl⟩
    rw [← emb] at hM2
    rw [← evb, ← emb] at hV2
    rw [← epb] at hP2
    rw [← evb, ← epb, ← emb]
    obtain ⟨S, eS⟩ : ∃ S : Nat → Prop, S = fun k => k < W2.heap.size ∧ k ≠ w.heap.size + 1 ∧ k ≠ mb := ⟨_, rfl⟩
    have hSl : ∀ k, S k → k < W2.heap.size := fun k q => by (rw [eS] at q; exact q.1)
    have hS0 : ∀ k, k < w.heap.size → S k := fun k q => by (rw [eS]; exact ⟨by omega, by omega, by omega⟩)
    have hST : S w.heap.size := by (rw [eS]; exact ⟨by omega, by omega, by omega⟩)
    have hSv : S vb := by (rw [eS]; exact ⟨by omega, by omega, by omega⟩)
    have hva := VAt.boxed fd hb2 hT2 hS0
    have HSq := nodes_seq (n0 - 1) S W2.heap.size pb w.heap.size t W2 hSl (Nat.le_refl _) (by rw [cell_of_row _ _ _ _ _ _ hP2]; rfl) hva hST (by omega)
    obtain ⟨rb, erb⟩ : ∃ b, b = w.heap.size + 1 := ⟨_, rfl⟩
    have Hrb : Hid (rb = w.heap.size + 1) := erb
    rw [← erb] at hR2
    have HNm : Hid ((¬ S mb ∧ mb < W2.heap.size ∧ w.heap.size ≤ mb) ∧ mb ≠ rb ∧ ¬ S rb ∧ rb < W2.heap.size) := ⟨⟨fun q => by (rw [eS] at q; exact q.2.2 rfl), by omega, by omega⟩, by omega, fun q => by (rw [eS] at q; exact q.2.1 erb), by omega⟩
    have HA0 : RnS w W2 S (B1 rb (.int .i64 0) 27) W2 := RnS.mk1 hR2 hb2 hSl HNm.out.2.2.1 (by omega)
    have HM0 : MapIs id kU W2 mb ([] : List St) := ⟨#[], 0, hM2, ⟨rfl, List.nodup_nil, fun x h => by simp at h⟩⟩
    have HVs : Hid (S vb ∧ W2.cell? ⟨vb, 0, none⟩ = some (.map (some mb))) := ⟨hSv, by rw [cell_of_row _ _ _ _ _ _ hV2]; rfl⟩
    obtain ⟨xs, exs⟩ : ∃ xs, xs = flatA W2 t 0 w.heap.size 0 := ⟨_, rfl⟩
    rw [← exs] at HSq
    have hxp : xs.map Nd.p = flatD t 0 := (by rw [exs]; exact flatA_p _ _ _ _ _)
    have HXp := hide9 hxp
    have HAt : Hid (∀ x ∈ xs, VAt S W2 x.t x.b x.o ∧ S x.b) := (by rw [exs]; exact flatA_at hva hST)
    have HBn : Hid (∀ x ∈ xs, BnT x.t) := fun x hx => hbn x.p (by rw [← hxp]; exact List.mem_map.2 ⟨x, hx, rfl⟩)
    clear hxp exs eS hS0 hST hSv hva fd hT2 hR2 hM2 hV2 hP2 hX hbW hT1 hR1 hlt1 emb evb epb hb2 hs2
    gi_wp2
    rw [← erb]
    clear erb
    refine range_of h1n (gf := 78) (lb := #[.pointer (some ⟨pb, 0, none⟩)]) rfl (enters_of Try.func78 (by kernel_rfl) rfl) HSq KpN.trans (fun W l o o' hl ho hc _ => KpN.obj hl hSl ho hc) (Below.refl _ _) (fun _ => rfl)
      (fun k W => RnS w W2 S (B1 rb (.int .i64 0) 27) W ∧ MapIs id kU W mb ((xs.take k).map Nd.ky) ∧ chkR [] (xs.map Nd.p) = chkR ((xs.take k).map Nd.ky) ((xs.drop k).map Nd.p))
      (fun c k W => c = .ret ∧ RnS w W2 S (B1 rb (.int .i64 (chkR [] (xs.map Nd.p))) 27) W)
      (fun k A B row h1 hg hr => ⟨h1.1.grown hg hr, h1.2.1.keep (hg.block _ h1.2.1.lt (fun e => by have := (hr _ e.symm).1; have := HNm.out.1.2.1; omega)), h1.2.2⟩) (fun c k A B row hf hg hr => ⟨hf.1, hf.2.grown hg hr⟩) ⟨HA0, HM0, rfl⟩
      (fun x a' W => a' = { tmps := #[.agg #[.int .i64 t.k.1, .int .i64 t.k.2, .string t.tg, .string t.tx, .slice aa t.at_.length ca, .slice ak t.ks.length ck], .pointer (some ⟨w.heap.size, 0, none⟩), .pointer (some ⟨rb, 0, none⟩), .pointer (some ⟨vb, 0, none⟩), .int .i64 (x.d : Int), .pointer (some ⟨x.b, x.o, none⟩), undef, undef, undef, .agg #[.int .i64 t.k.1, .int .i64 t.k.2, .string t.tg, .string t.tx, .slice aa t.at_.length ca, .slice ak t.ks.length ck], .bool false, .map (some mb), .func (.func 78) #[] #[.pointer (some ⟨pb, 0, none⟩)], .int .i64 (x.d : Int), .pointer (some ⟨x.b, x.o, none⟩), undef, undef, undef, undef, undef, undef, undef, undef, undef, undef, undef, undef, undef, undef, undef, undef, undef, undef, undef, undef, undef, undef, undef, undef, undef, undef, undef, undef], defers := [] }) (fun x a' u A B row h5 _ _ => h5) ?assign ?body ?done ?stop
    clear HA0 HM0
    case assign =>
      rintro l k hk W K hA hK
      have hfin := hK _ W (KeepsFrom.refl _ _) (KpN.of_below (Below.refl _ _) (fun j q => Nat.lt_of_lt_of_le (hA.1.sl j q) hA.1.kp.1)) hA rfl
      have HFin := hide9 hfin
      clear hK hfin hA
      generalize xs[k] = x at *
      simp only [encN] at *
      gi_wp2
      first | exact HFin.out | (simp; exact HFin.out)
    case body =>
      rintro l k hk a' W hlD ⟨hrn, hmp, hck⟩ rfl
      have hxm := List.getElem_mem hk
      obtain ⟨hxv, hxS⟩ := HAt.out xs[k] hxm
      have hbn := HBn.out xs[k] hxm
      have hD : (xs.take (k + 1)).map Nd.ky = (xs.take k).map Nd.ky ++ [xs[k].t.k] := (by rw [List.take_succ_eq_append_getElem hk, List.map_append]; rfl)
      have hdr : (xs.drop k).map Nd.p = xs[k].p :: (xs.drop (k + 1)).map Nd.p := (by rw [List.drop_eq_getElem_cons hk]; rfl)
      rw [hdr, chkR] at hck
      obtain ⟨D, eD⟩ : ∃ D, D = (xs.take k).map Nd.ky := ⟨_, rfl⟩
      rw [← eD] at hmp hck hD
      obtain ⟨x, ex⟩ : ∃ x, x = xs[k] := ⟨_, rfl⟩
      rw [← ex] at hxv hxS hbn hD hck ⊢
      have HC : Hid (CkB w W2 S rb mb (.int .i64 0) (D) W W) := ⟨hrn, hmp, KeepsFrom.refl _ _, ⟨Nat.le_refl _, fun _ _ => rfl⟩, HNm.out⟩
      have HXv : Hid (VAt S W2 x.t x.b x.o ∧ S x.b) := ⟨hxv, hxS⟩
      obtain ⟨_, _, _, _, kc0, kc1, _⟩ := hxv.cells
      have HX2 : Hid (W2.cell? ⟨x.b, x.o, none⟩ = some (.int .i64 x.t.k.1) ∧ W2.cell? ⟨x.b, x.o + 1, none⟩ = some (.int .i64 x.t.k.2)) := ⟨kc0, kc1⟩
      have Hbn := hide9 hbn
      have HD := hide9 hD
      have Hck : Hid (chkR [] (xs.map Nd.p) = if keyB x.d x.t.k = false then 2 else if hasS D x.t.k = true then 5 else if chkN x.t ≠ 0 then chkN x.t else chkR (D ++ [x.t.k]) ((xs.drop (k + 1)).map Nd.p)) := hck
      have k0 := (hrn.kp.cell (p := ⟨x.b, x.o, none⟩) hxS).trans kc0
      have k1 := (hrn.kp.cell (p := ⟨x.b, x.o + 1, none⟩) hxS).trans kc1
      clear hxm hxv hxS hbn hD hdr hck eD ex kc0 kc1 hrn hmp
      gi_wp2_with fail
      clear k0 k1
      refine ⟨trivial, fun h => (by cases h), ?_⟩
      refine (CallsIn.inRound l (callsIn_wide.2 (isKeyRight_any x.t.k x.d _))).mono ?_
      rintro e V ⟨rfl, hb⟩
      replace HC : Hid (CkB w W2 S rb mb (.int .i64 0) (D) W V) := HC.out.below hb
      clear hb
      cases hky : keyB x.d x.t.k
      · have HF : Hid (chkR [] (xs.map Nd.p) = 2) := Hck.out.trans (if_pos hky)
        clear hky Hck
        have r1 := HC.out.rn.cell (B1.at _ _ _)
        have r2 := HC.out.rn.free (B1.at _ _ _)
        gi_wp2
        have h8 := HC.out.set (.int .i64 (2))
        exact ⟨h8.kf, rfl, (by rw [HF.out]; exact h8.rn)⟩
      · have Hck2 := hide9 (Hck.out.trans (if_neg (by simp [hky])))
        clear hky Hck
        have HVb : Hid (vb < V.heap.size ∧ V.cell? ⟨vb, 0, none⟩ = some (.map (some mb))) := ⟨Nat.lt_of_lt_of_le (HC.out.rn.sl _ HVs.out.1) HC.out.rn.kp.1, (HC.out.rn.kp.cell (p := ⟨vb, 0, none⟩) HVs.out.1).trans HVs.out.2⟩
        have HKy : Hid (x.b < V.heap.size ∧ V.cell? ⟨x.b, x.o, none⟩ = some (.int .i64 x.t.k.1) ∧ V.cell? ⟨x.b, x.o + 1, none⟩ = some (.int .i64 x.t.k.2)) := ⟨Nat.lt_of_lt_of_le (HC.out.rn.sl _ HXv.out.2) HC.out.rn.kp.1, (HC.out.rn.kp.cell (p := ⟨x.b, x.o, none⟩) HXv.out.2).trans HX2.out.1, (HC.out.rn.kp.cell (p := ⟨x.b, x.o + 1, none⟩) HXv.out.2).trans HX2.out.2⟩
        have HMp : Hid (MapIs id kU V mb D) := HC.out.mp
        gi_wp2
        skip
        rcases getP_has (D := D) (s := x.t.k) with ⟨hg, hh⟩ | ⟨y, hg, hh⟩
        · have HGp : Hid (getP id D x.t.k = none) := hg
          have Hck3 := hide9 (Hck2.out.trans (if_neg (by simp [hh])))
          clear hg hh Hck2
          refine region_round_held (S := fun W' => Below V.heap.size V W') l (by kernel_rfl) (by kernel_rfl) (lets_then (lets_then (lets_block lets_round))) (Below.refl _ _).drew (fun hHeld => ?_)
          obtain ⟨Uf1u0, eW⟩ : ∃ X, X = V.drew := ⟨_, rfl⟩
          have hb : Below V.heap.size V Uf1u0 := by rw [eW]; exact (Below.refl _ _).drew
          replace HC : Hid (CkB w W2 S rb mb (.int .i64 0) (D) W Uf1u0) := HC.out.below hb
          rw [← eW] at hHeld ⊢
          clear eW hb
          refine tkW 0 (some 23) (v := ?_) ?_ hHeld ?_
          rotate_left
          · (intro ww hSw; (try dsimp only at hSw); have q0 := (hSw.cell (p := ⟨vb, 0, none⟩) HVb.out.1).trans HVb.out.2; go_simp; try with_reducible rfl)
          refine tkW 1 (some 24) (v := ?_) ?_ hHeld ?_
          rotate_left
          · (intro ww _; go_simp; try with_reducible rfl)
          refine tkW 2 (some 25) (v := ?_) ?_ hHeld ?_
          rotate_left
          · (intro ww hSw; (try dsimp only at hSw); go_simp; try with_reducible rfl)
          refine tkW 3 (some 26) (v := ?_) ?_ hHeld ?_
          rotate_left
          · (intro ww _; go_simp; try with_reducible rfl)
          refine tkW 4 (some 27) (v := ?_) ?_ hHeld ?_
          rotate_left
          · (intro ww hSw; (try dsimp only at hSw); have q0 := (hSw.cell (p := ⟨x.b, x.o, none⟩) HKy.out.1).trans HKy.out.2.1; have q1 := (hSw.cell (p := ⟨x.b, x.o + 1, none⟩) HKy.out.1).trans HKy.out.2.2; go_simp; try with_reducible rfl)
          refine tkW 5 (some 28) (v := ?_) ?_ hHeld ?_
          rotate_left
          · (intro ww hSw; (try dsimp only at hSw); have hl : (Instr.lookup 94 (.map (some mb)) (.agg #[.int .i64 x.t.k.1, .int .i64 x.t.k.2]) true).run Try.prog ww = .ok (.tuple #[.agg #[], .bool false]) ww := (look_st 94 100 (.agg #[]) uSet zSet (HMp.out.keep (hSw.block _ HMp.out.lt)) x.t.k).trans (by first | rw [HGp.out] | (obtain ⟨y9, e9⟩ := HGp.out; rw [e9]; rfl)); go_simp; try with_reducible rfl)
          refine tkW 6 (some 22) (v := ?_) ?_ hHeld ?_
          rotate_left
          · (intro ww _; go_simp; try with_reducible rfl)
          refine tkW 7 (some 29) (v := ?_) ?_ hHeld ?_
          rotate_left
          · (intro ww _; go_simp; try with_reducible rfl)
          refine tkW 8 (some 30) (v := ?_) ?_ hHeld ?_
          rotate_left
          · (intro ww _; go_simp; try with_reducible rfl)
          refine wpAnyH_ready (rs := [9]) (by kernel_rfl) (by simp) ?_
          refine AllReadyH.cons (o := ⟨some 6, _, _, _, _, _⟩) rfl (fun K hK => ?_) AllReadyH.nil
          have hbx : Below Uf1u0.heap.size Uf1u0 (Uf1u0.alloc (.cells #[] 100)) := (Below.refl _ _).alloc (Nat.le_refl _) _
          go_simp
          refine hK.out _ _ (hHeld.trans (hbx.mono hHeld.size)) (fun hHeld2 => ?_)
          clear hK K hHeld
          have hHeld := hHeld2
          clear hHeld2
          (try simp only [Act.put, List.setIfInBounds_toArray, List.set_cons_zero, List.set_cons_succ])
          obtain ⟨Uf1u1, eW⟩ : ∃ X, X = Uf1u0.alloc (.cells #[] 100) := ⟨_, rfl⟩
          have hb : Below Uf1u0.heap.size Uf1u0 Uf1u1 := by rw [eW]; exact (Below.refl _ _).alloc (Nat.le_refl _) _
          replace HC : Hid (CkB w W2 S rb mb (.int .i64 0) (D) W Uf1u1) := HC.out.below hb
          rw [← eW] at hHeld ⊢
          clear eW
          clear hbx
          obtain ⟨eb, eeb⟩ : ∃ b, b = Uf1u0.heap.size := ⟨_, rfl⟩
          rw [← eeb]
          clear eeb
          clear hb
          refine wpAnyH_ready (rs := [10]) (by kernel_rfl) (by simp) ?_
          refine AllReadyH.cons (o := ⟨none, _, _, _, _, _⟩) rfl (fun K hK => ?_) AllReadyH.nil
          go_simp
          refine hK.out _ _ (hHeld) (fun hHeld2 => ?_)
          clear hK K hHeld
          have hHeld := hHeld2
          clear hHeld2
          (try simp only [Act.put, List.setIfInBounds_toArray, List.set_cons_zero, List.set_cons_succ])
          refine tkW 11 (some 7) (v := ?_) ?_ hHeld ?_
          rotate_left
          · (intro ww _; go_simp; try with_reducible rfl)
          refine wpAnyH_done (by kernel_rfl) ?_ _
          clear hHeld HMp HVb HKy
          obtain ⟨V, eV⟩ : ∃ X, X = Uf1u1 := ⟨_, rfl⟩
          rw [← eV] at HC ⊢
          clear eV
          gi_wp2
          refine region_round_held (S := fun W' => 0 ≤ W'.heap.size) l (by kernel_rfl) (by kernel_rfl) (lets_then (lets_block lets_round)) (Nat.zero_le _) (fun hHeld => ?_)
          obtain ⟨Um2u0, eW⟩ : ∃ X, X = V.drew := ⟨_, rfl⟩
          have hb : Below V.heap.size V Um2u0 := by rw [eW]; exact (Below.refl _ _).drew
          replace HC : Hid (CkB w W2 S rb mb (.int .i64 0) (D) W Um2u0) := HC.out.below hb
          rw [← eW] at hHeld ⊢
          clear eW hb
          refine tkW 1 (some 33) (v := ?_) ?_ hHeld ?_
          rotate_left
          · (intro ww _; go_simp; try with_reducible rfl)
          refine tkW 2 (some 34) (v := ?_) ?_ hHeld ?_
          rotate_left
          · (intro ww hSw; (try dsimp only at hSw); go_simp; try with_reducible rfl)
          refine tkW 3 (some 35) (v := ?_) ?_ hHeld ?_
          rotate_left
          · (intro ww _; go_simp; try with_reducible rfl)
          refine tkW 5 (some 37) (v := ?_) ?_ hHeld ?_
          rotate_left
          · (intro ww hSw; (try dsimp only at hSw); go_simp; try with_reducible rfl)
          refine wpAnyH_ready (rs := [0, 4]) (by kernel_rfl) (by simp) ?_
          refine AllReadyH.cons (o := ⟨some 32, _, _, _, _, _⟩) rfl (fun K hK => ?_) (AllReadyH.cons (o := ⟨some 36, _, _, _, _, _⟩) rfl (fun K hK => ?_) AllReadyH.nil)
          · have q0 : Um2u0.cell? ⟨vb, 0, none⟩ = some (.map (some mb)) := (HC.out.rn.kp.cell (p := ⟨vb, 0, none⟩) HVs.out.1).trans HVs.out.2
            go_simp
            refine hK.out _ _ (Nat.zero_le _) (fun hHeld2 => ?_)
            clear hK K hHeld
            have hHeld := hHeld2
            clear hHeld2
            (try simp only [Act.put, List.setIfInBounds_toArray, List.set_cons_zero, List.set_cons_succ])
            clear q0
            refine wpAnyH_ready (rs := [4]) (by kernel_rfl) (by simp) ?_
            refine AllReadyH.cons (o := ⟨some 36, _, _, _, _, _⟩) rfl (fun K hK => ?_) AllReadyH.nil
            have q0 : Um2u0.cell? ⟨x.b, x.o, none⟩ = some (.int .i64 x.t.k.1) := (HC.out.rn.kp.cell (p := ⟨x.b, x.o, none⟩) HXv.out.2).trans HX2.out.1
            have q1 : Um2u0.cell? ⟨x.b, x.o + 1, none⟩ = some (.int .i64 x.t.k.2) := (HC.out.rn.kp.cell (p := ⟨x.b, x.o + 1, none⟩) HXv.out.2).trans HX2.out.2
            go_simp
            refine hK.out _ _ (Nat.zero_le _) (fun hHeld2 => ?_)
            clear hK K hHeld
            have hHeld := hHeld2
            clear hHeld2
            (try simp only [Act.put, List.setIfInBounds_toArray, List.set_cons_zero, List.set_cons_succ])
            clear q0 q1
            refine wpAnyH_ready (rs := [6]) (by kernel_rfl) (by simp) ?_
            refine AllReadyH.cons (o := ⟨none, _, _, _, _, _⟩) rfl (fun K hK => ?_) AllReadyH.nil
            obtain ⟨Um2u3, hup, hgr, _, hor⟩ := store_st 94 100 uSet HC.out.mp x.t.k
            have hup2 : (Instr.mapUpdate 94 (.map (some mb)) (.agg #[.int .i64 x.t.k.1, .int .i64 x.t.k.2]) (.agg #[])).run Try.prog Um2u0 = .ok () Um2u3 := hup
            have hm2 : MapIs id kU Um2u3 mb (D ++ [x.t.k]) := hor.elim (fun h9 => h9.2) (fun ⟨x9, _, h9, _⟩ => (by rw [show getP id D (id x.t.k) = none from HGp.out] at h9; cases h9))
            have HC2 : Hid (CkB w W2 S rb mb (.int .i64 0) (D ++ [x.t.k]) W Um2u3) := HC.out.put hgr hm2
            clear hup hgr hor hm2
            go_simp
            refine hK.out _ _ (Nat.zero_le _) (fun hHeld2 => ?_)
            clear hK K hHeld
            have hHeld := hHeld2
            clear hHeld2
            (try simp only [Act.put, List.setIfInBounds_toArray, List.set_cons_zero, List.set_cons_succ])
            clear hup2 HC
            refine wpAnyH_done (by kernel_rfl) ?_ _
            clear hHeld
            gi_wp2_with fail
            refine ⟨trivial, fun h => (by cases h), ?_⟩
            have hva := HXv.out.1.turn (G' := S) HC2.out.rn.kp.1 (fun j q _ => ⟨q, HC2.out.rn.kp.2 j q⟩) (HC2.out.rn.kp.2 _ HXv.out.2)
            refine (CallsIn.inRound l (callsIn_wide.2 (checkFields_any S x.t x.b x.o _ hva Hbn.out))).mono ?_
            rintro e V2 ⟨rfl, hb⟩
            have HC : Hid (CkB w W2 S rb mb (.int .i64 0) (D ++ [x.t.k]) W V2) := HC2.out.below hb
            clear hb hva HC2
            by_cases hn : chkN x.t = 0
            · have HF : Hid (chkR [] (xs.map Nd.p) = chkR (D ++ [x.t.k]) ((xs.drop (k + 1)).map Nd.p)) := Hck3.out.trans (if_neg (fun h => h hn))
              have hn2 : (chkN x.t == 0) = true := by simp [hn]
              rw [hn]
              clear hn hn2
              gi_wp2
              refine ⟨HC.out.kf, HC.out.kn, HC.out.rn, ?_, ?_⟩
              · show MapIs id kU V2 mb _; rw [HD.out]; exact HC.out.mp
              · show chkR [] _ = chkR _ _; rw [HD.out]; exact HF.out
            · have HF : Hid (chkR [] (xs.map Nd.p) = chkN x.t) := Hck3.out.trans (if_pos hn)
              have hn2 : (chkN x.t == 0) = false := by simpa using hn
              clear hn
              have r1 := HC.out.rn.cell (B1.at _ _ _)
              have r2 := HC.out.rn.free (B1.at _ _ _)
              gi_wp2
              have h8 := HC.out.set (.int .i64 (chkN x.t))
              exact ⟨h8.kf, rfl, (by rw [HF.out]; exact h8.rn)⟩
          · have q0 : Um2u0.cell? ⟨x.b, x.o, none⟩ = some (.int .i64 x.t.k.1) := (HC.out.rn.kp.cell (p := ⟨x.b, x.o, none⟩) HXv.out.2).trans HX2.out.1
            have q1 : Um2u0.cell? ⟨x.b, x.o + 1, none⟩ = some (.int .i64 x.t.k.2) := (HC.out.rn.kp.cell (p := ⟨x.b, x.o + 1, none⟩) HXv.out.2).trans HX2.out.2
            go_simp
            refine hK.out _ _ (Nat.zero_le _) (fun hHeld2 => ?_)
            clear hK K hHeld
            have hHeld := hHeld2
            clear hHeld2
            (try simp only [Act.put, List.setIfInBounds_toArray, List.set_cons_zero, List.set_cons_succ])
            clear q0 q1
            refine wpAnyH_ready (rs := [0]) (by kernel_rfl) (by simp) ?_
            refine AllReadyH.cons (o := ⟨some 32, _, _, _, _, _⟩) rfl (fun K hK => ?_) AllReadyH.nil
            have q0 : Um2u0.cell? ⟨vb, 0, none⟩ = some (.map (some mb)) := (HC.out.rn.kp.cell (p := ⟨vb, 0, none⟩) HVs.out.1).trans HVs.out.2
            go_simp
            refine hK.out _ _ (Nat.zero_le _) (fun hHeld2 => ?_)
            clear hK K hHeld
            have hHeld := hHeld2
            clear hHeld2
            (try simp only [Act.put, List.setIfInBounds_toArray, List.set_cons_zero, List.set_cons_succ])
            clear q0
            refine wpAnyH_ready (rs := [6]) (by kernel_rfl) (by simp) ?_
            refine AllReadyH.cons (o := ⟨none, _, _, _, _, _⟩) rfl (fun K hK => ?_) AllReadyH.nil
            obtain ⟨Um2u6, hup, hgr, _, hor⟩ := store_st 94 100 uSet HC.out.mp x.t.k
            have hup2 : (Instr.mapUpdate 94 (.map (some mb)) (.agg #[.int .i64 x.t.k.1, .int .i64 x.t.k.2]) (.agg #[])).run Try.prog Um2u0 = .ok () Um2u6 := hup
            have hm2 : MapIs id kU Um2u6 mb (D ++ [x.t.k]) := hor.elim (fun h9 => h9.2) (fun ⟨x9, _, h9, _⟩ => (by rw [show getP id D (id x.t.k) = none from HGp.out] at h9; cases h9))
            have HC2 : Hid (CkB w W2 S rb mb (.int .i64 0) (D ++ [x.t.k]) W Um2u6) := HC.out.put hgr hm2
            clear hup hgr hor hm2
            go_simp
            refine hK.out _ _ (Nat.zero_le _) (fun hHeld2 => ?_)
            clear hK K hHeld
            have hHeld := hHeld2
            clear hHeld2
            (try simp only [Act.put, List.setIfInBounds_toArray, List.set_cons_zero, List.set_cons_succ])
            clear hup2 HC
            refine wpAnyH_done (by kernel_rfl) ?_ _
            clear hHeld
            gi_wp2_with fail
            refine ⟨trivial, fun h => (by cases h), ?_⟩
            have hva := HXv.out.1.turn (G' := S) HC2.out.rn.kp.1 (fun j q _ => ⟨q, HC2.out.rn.kp.2 j q⟩) (HC2.out.rn.kp.2 _ HXv.out.2)
            refine (CallsIn.inRound l (callsIn_wide.2 (checkFields_any S x.t x.b x.o _ hva Hbn.out))).mono ?_
            rintro e V2 ⟨rfl, hb⟩
            have HC : Hid (CkB w W2 S rb mb (.int .i64 0) (D ++ [x.t.k]) W V2) := HC2.out.below hb
            clear hb hva HC2
            by_cases hn : chkN x.t = 0
            · have HF : Hid (chkR [] (xs.map Nd.p) = chkR (D ++ [x.t.k]) ((xs.drop (k + 1)).map Nd.p)) := Hck3.out.trans (if_neg (fun h => h hn))
              have hn2 : (chkN x.t == 0) = true := by simp [hn]
              rw [hn]
              clear hn hn2
              gi_wp2
              refine ⟨HC.out.kf, HC.out.kn, HC.out.rn, ?_, ?_⟩
              · show MapIs id kU V2 mb _; rw [HD.out]; exact HC.out.mp
              · show chkR [] _ = chkR _ _; rw [HD.out]; exact HF.out
            · have HF : Hid (chkR [] (xs.map Nd.p) = chkN x.t) := Hck3.out.trans (if_pos hn)
              have hn2 : (chkN x.t == 0) = false := by simpa using hn
              clear hn
              have r1 := HC.out.rn.cell (B1.at _ _ _)
              have r2 := HC.out.rn.free (B1.at _ _ _)
              gi_wp2
              have h8 := HC.out.set (.int .i64 (chkN x.t))
              exact ⟨h8.kf, rfl, (by rw [HF.out]; exact h8.rn)⟩
        · have HGp : Hid (∃ y, getP id D x.t.k = some y) := ⟨y, hg⟩
          have HF : Hid (chkR [] (xs.map Nd.p) = 5) := Hck2.out.trans (if_pos hh)
          clear hg hh Hck2
          refine region_round_held (S := fun W' => Below V.heap.size V W') l (by kernel_rfl) (by kernel_rfl) (lets_then (lets_then (lets_block lets_round))) (Below.refl _ _).drew (fun hHeld => ?_)
          obtain ⟨Ug3u0, eW⟩ : ∃ X, X = V.drew := ⟨_, rfl⟩
          have hb : Below V.heap.size V Ug3u0 := by rw [eW]; exact (Below.refl _ _).drew
          replace HC : Hid (CkB w W2 S rb mb (.int .i64 0) (D) W Ug3u0) := HC.out.below hb
          rw [← eW] at hHeld ⊢
          clear eW hb
          refine tkW 0 (some 23) (v := ?_) ?_ hHeld ?_
          rotate_left
          · (intro ww hSw; (try dsimp only at hSw); have q0 := (hSw.cell (p := ⟨vb, 0, none⟩) HVb.out.1).trans HVb.out.2; go_simp; try with_reducible rfl)
          refine tkW 1 (some 24) (v := ?_) ?_ hHeld ?_
          rotate_left
          · (intro ww _; go_simp; try with_reducible rfl)
          refine tkW 2 (some 25) (v := ?_) ?_ hHeld ?_
          rotate_left
          · (intro ww hSw; (try dsimp only at hSw); go_simp; try with_reducible rfl)
          refine tkW 3 (some 26) (v := ?_) ?_ hHeld ?_
          rotate_left
          · (intro ww _; go_simp; try with_reducible rfl)
          refine tkW 4 (some 27) (v := ?_) ?_ hHeld ?_
          rotate_left
          · (intro ww hSw; (try dsimp only at hSw); have q0 := (hSw.cell (p := ⟨x.b, x.o, none⟩) HKy.out.1).trans HKy.out.2.1; have q1 := (hSw.cell (p := ⟨x.b, x.o + 1, none⟩) HKy.out.1).trans HKy.out.2.2; go_simp; try with_reducible rfl)
          refine tkW 5 (some 28) (v := ?_) ?_ hHeld ?_
          rotate_left
          · (intro ww hSw; (try dsimp only at hSw); have hl : (Instr.lookup 94 (.map (some mb)) (.agg #[.int .i64 x.t.k.1, .int .i64 x.t.k.2]) true).run Try.prog ww = .ok (.tuple #[.agg #[], .bool true]) ww := (look_st 94 100 (.agg #[]) uSet zSet (HMp.out.keep (hSw.block _ HMp.out.lt)) x.t.k).trans (by first | rw [HGp.out] | (obtain ⟨y9, e9⟩ := HGp.out; rw [e9]; rfl)); go_simp; try with_reducible rfl)
          refine tkW 6 (some 22) (v := ?_) ?_ hHeld ?_
          rotate_left
          · (intro ww _; go_simp; try with_reducible rfl)
          refine tkW 7 (some 29) (v := ?_) ?_ hHeld ?_
          rotate_left
          · (intro ww _; go_simp; try with_reducible rfl)
          refine tkW 8 (some 30) (v := ?_) ?_ hHeld ?_
          rotate_left
          · (intro ww _; go_simp; try with_reducible rfl)
          refine wpAnyH_ready (rs := [9]) (by kernel_rfl) (by simp) ?_
          refine AllReadyH.cons (o := ⟨some 6, _, _, _, _, _⟩) rfl (fun K hK => ?_) AllReadyH.nil
          have hbx : Below Ug3u0.heap.size Ug3u0 (Ug3u0.alloc (.cells #[] 100)) := (Below.refl _ _).alloc (Nat.le_refl _) _
          go_simp
          refine hK.out _ _ (hHeld.trans (hbx.mono hHeld.size)) (fun hHeld2 => ?_)
          clear hK K hHeld
          have hHeld := hHeld2
          clear hHeld2
          (try simp only [Act.put, List.setIfInBounds_toArray, List.set_cons_zero, List.set_cons_succ])
          obtain ⟨Ug3u1, eW⟩ : ∃ X, X = Ug3u0.alloc (.cells #[] 100) := ⟨_, rfl⟩
          have hb : Below Ug3u0.heap.size Ug3u0 Ug3u1 := by rw [eW]; exact (Below.refl _ _).alloc (Nat.le_refl _) _
          replace HC : Hid (CkB w W2 S rb mb (.int .i64 0) (D) W Ug3u1) := HC.out.below hb
          rw [← eW] at hHeld ⊢
          clear eW
          clear hbx
          obtain ⟨eb, eeb⟩ : ∃ b, b = Ug3u0.heap.size := ⟨_, rfl⟩
          rw [← eeb]
          clear eeb
          clear hb
          refine wpAnyH_ready (rs := [10]) (by kernel_rfl) (by simp) ?_
          refine AllReadyH.cons (o := ⟨none, _, _, _, _, _⟩) rfl (fun K hK => ?_) AllReadyH.nil
          go_simp
          refine hK.out _ _ (hHeld) (fun hHeld2 => ?_)
          clear hK K hHeld
          have hHeld := hHeld2
          clear hHeld2
          (try simp only [Act.put, List.setIfInBounds_toArray, List.set_cons_zero, List.set_cons_succ])
          refine tkW 11 (some 7) (v := ?_) ?_ hHeld ?_
          rotate_left
          · (intro ww _; go_simp; try with_reducible rfl)
          refine wpAnyH_done (by kernel_rfl) ?_ _
          clear hHeld HMp HVb HKy
          have r1 := HC.out.rn.cell (B1.at _ _ _)
          have r2 := HC.out.rn.free (B1.at _ _ _)
          gi_wp2
          have h8 := HC.out.set (.int .i64 (5))
          exact ⟨h8.kf, rfl, (by rw [HF.out]; exact h8.rn)⟩
    case done =>
      rintro Dd W hDd ⟨hA, _, hck⟩ hDf
      rw [List.take_length, List.drop_length] at hck
      have HF : Hid (chkT t = 0) := (by show _ = _; rw [HT0.out, ← HXp.out, hck]; rfl)
      have x1 := hA.cell (B1.at _ _ _)
      have x2 := hA.free (B1.at _ _ _)
      have h8 := hA.set (B1.at _ _ _) (.int .i64 0)
      rw [B1.set] at h8
      have H8 := hide9 h8
      have HDg : Hid ((W.setCell ⟨rb, 0, none⟩ (.int .i64 0)).heap[Dd]? = some (.deferred (some []))) := (RowKit.Below.heap_setCell _ _ _ _ (by have := HNm.out.2.2.2; show Dd ≠ rb; omega)).trans hDf
      clear hA h8 hDf hck
      gi_wp2
      refine ⟨by simp, .inl ⟨_, _, rfl, run_takeDeferred HDg.out, ?_⟩⟩
      have hE := H8.out.grown (grownBy_putObj' _ Dd (.deferred none)) (fun r e => by cases e; exact ⟨hDd, _, HDg.out, rfl⟩)
      exact ⟨_, results_intCell2 rfl _ rb _ 0 rfl (hE.cell (B1.at _ _ _)), by rw [HF.out], hE.bel⟩
    case stop =>
      rintro D c k W hD hk ⟨rfl, hA⟩ hDf
      have HA := hide9 hA
      have HDf := hide9 hDf
      have HF : Hid (chkT t = chkR [] (xs.map Nd.p)) := (by show _ = _; rw [HT0.out, ← HXp.out])
      clear hA hDf
      gi_wp2
      refine ⟨by simp, .inl ⟨_, _, rfl, run_takeDeferred HDf.out, ?_⟩⟩
      have hE := HA.out.grown (grownBy_putObj' _ D (.deferred none)) (fun r e => by cases e; exact ⟨hD, _, HDf.out, rfl⟩)
      exact ⟨_, results_intCell2 rfl _ rb _ _ rfl (hE.cell (B1.at _ _ _)), by rw [HF.out], hE.bel⟩

theorem check_any (G : Nat → Prop) (t : VT) (v : Value) (w : World) (h : VIs G w v t) (hsz : t.sz ≤ 1048576) (hbn : BnA t) : Calls Try.prog 33 #[v] w fun e w' => e = .returned (.int .i64 (chkT t)) ∧ Below w.heap.size w w' := callsIn_wide.1 (check_in 5 (Nat.le_refl _) G t v w h hsz hbn)

end Go.Proofs.Ytljmlbidbacdjab
