/- lengthsFrom, whole. -/
import Derived.Test.YthhnglpkfcmjiaaKLiB
import Derived.Deep.AppendLies
namespace Go.Proofs.Ythhnglpkfcmjiaa
open Go.RowKit
set_option linter.unusedVariables false
/-- What lies where while lengthsFrom goes from the end on: i places are done. -/
structure LnS (w : World) (v1 : Value) (d : List Int) (g fb : Nat) (i : Nat) (F : List Int) (fv : Value) (W : World) : Prop where
  bel : Below w.heap.size w W
  lt1 : w.heap.size < g
  lt2 : g < fb
  bl : W.heap[w.heap.size]? = some (.cells #[v1] 78)
  row : RowF W g (List.replicate (d.length - i) 0 ++ begL (d.drop (d.length - i)))
  bf : W.heap[fb]? = some (.cells #[fv] 78)
  own : OwnI (fb + 1) W fv F
  fst : Fst (d.drop (d.length - i)) F
set_option maxRecDepth 100000 in
theorem cell_row {W : World} {b i : Nat} {c : Array Value} {t : TypeId} {v : Value} (h : W.heap[b]? = some (.cells c t)) (hv : c[i]? = some v) : W.cell? ⟨b, i, none⟩ = some v := by
  simp [World.cell?, h, hv]
set_option maxRecDepth 100000 in
theorem LnS.below {w W W' : World} {v1 : Value} {d : List Int} {g fb i : Nat} {F : List Int} {fv : Value} (h : LnS w v1 d g fb i F fv W) (hb : Below W.heap.size W W') : LnS w v1 d g fb i F fv W' :=
  ⟨h.bel.trans (hb.mono h.bel.size), h.lt1, h.lt2, (hb.block _ (Array.getElem?_eq_some_iff.1 h.bl).1).trans h.bl, h.row.below hb, (hb.block _ (Array.getElem?_eq_some_iff.1 h.bf).1).trans h.bf, h.own.below hb, h.fst⟩
set_option maxRecDepth 100000 in
theorem LnS.cl {w W : World} {v1 : Value} {d : List Int} {g fb i : Nat} {F : List Int} {fv : Value} (h : LnS w v1 d g fb i F fv W) : W.cell? ⟨w.heap.size, 0, none⟩ = some v1 := cell_row h.bl rfl
set_option maxRecDepth 100000 in
theorem LnS.cf {w W : World} {v1 : Value} {d : List Int} {g fb i : Nat} {F : List Int} {fv : Value} (h : LnS w v1 d g fb i F fv W) : W.cell? ⟨fb, 0, none⟩ = some fv := cell_row h.bf rfl
set_option maxRecDepth 100000 in
/-- Behind 'firsts = append(firsts, x)': the row of lengths is as it was. -/
theorem LnS.box {w W : World} {v1 fv' : Value} {d : List Int} {g fb i : Nat} {F : List Int} {fv : Value} (h : LnS w v1 d g fb i F fv W) {W' : World} (ho : W.grownBy W' fv.ownBlock) (F' : List Int) (hw : OwnI (fb + 1) W' fv' F') (ft : Fst (d.drop (d.length - (i + 1))) F') (k : Nat) (hi : i < d.length) (hk : begL (d.drop (d.length - (i + 1))) = ((k : Int) + 1) :: begL (d.drop (d.length - i))) :
    LnS w v1 d g fb (i + 1) F' fv' ((W'.setCell ⟨fb, 0, none⟩ fv').setCell ⟨g, d.length - 1 - i, none⟩ (.int .i64 ((k : Int) + 1))) := by
  have l1 := h.lt1
  have l2 := h.lt2
  have s0 := h.bel.size
  have sg := h.row.lt
  have sf : fb < W.heap.size := (Array.getElem?_eq_some_iff.1 h.bf).1
  have nb : ∀ j, j ≤ fb → fv.ownBlock ≠ some j := fun j hj e => by have := h.own.block j e; omega
  have kp : ∀ j, j ≤ fb → W'.heap[j]? = W.heap[j]? := fun j hj => ho.block j (by omega) (fun e => nb j hj e.symm)
  have nb' : ∀ j, fv'.ownBlock = some j → fb < j := fun j e => by have := hw.block j e; omega
  have hb1 : Below w.heap.size w W' := h.bel.grown ho s0 (fun j e => by have := h.own.block j e; omega)
  have hrow : RowF W' g (List.replicate (d.length - i) 0 ++ begL (d.drop (d.length - i))) := by unfold RowF; rw [kp g (by omega)]; exact h.row
  refine ⟨(hb1.setCell (p := ⟨fb, 0, none⟩) (by show w.heap.size ≤ fb; omega) _).setCell (p := ⟨g, _, none⟩) (by show w.heap.size ≤ g; omega) _, l1, l2, ?_, ?_, ?_, ?_, ft⟩
  · rw [RowKit.Below.heap_setCell _ _ _ _ (by show w.heap.size ≠ g; omega), RowKit.Below.heap_setCell _ _ _ _ (by show w.heap.size ≠ fb; omega), kp _ (by omega)]; exact h.bl
  · have h1 := (hrow.other (k := fb) (i := 0) (u := fv') (by omega)).set (d.length - 1 - i) ((k : Int) + 1)
    have e : (List.replicate (d.length - i) (0 : Int) ++ begL (d.drop (d.length - i))).set (d.length - 1 - i) ((k : Int) + 1) = List.replicate (d.length - (i + 1)) 0 ++ begL (d.drop (d.length - (i + 1))) := by
      rw [hk, show d.length - i = (d.length - (i + 1)) + 1 by omega, show d.length - 1 - i = d.length - (i + 1) by omega, List.replicate_succ', List.append_assoc, List.set_append_right _ _ (by simp)]
      simp
    rw [e] at h1
    exact h1
  · rw [RowKit.Below.heap_setCell _ _ _ _ (by show fb ≠ g; omega)]
    have := heap_setCell_same W' fb 0 #[fv] 78 fv' ((kp fb (Nat.le_refl _)).trans h.bf)
    simpa using this
  · exact hw.keepB fun j e => by rw [RowKit.Below.heap_setCell _ _ _ _ (by show j ≠ g; have := nb' j e; omega), RowKit.Below.heap_setCell _ _ _ _ (by show j ≠ fb; have := nb' j e; omega)]
set_option maxRecDepth 100000 in
/-- Behind 'firsts[k] = x'. -/
theorem LnS.put {w W : World} {v1 : Value} {d : List Int} {g fb i : Nat} {F : List Int} {gF m cF : Nat} (h : LnS w v1 d g fb i F (.slice (some ⟨gF, 0, none⟩) m cF) W) (hm : m = F.length) (k : Nat) (x : Int) (ft : Fst (d.drop (d.length - (i + 1))) (F.set k x)) (hi : i < d.length) (hk : begL (d.drop (d.length - (i + 1))) = ((k : Int) + 1) :: begL (d.drop (d.length - i))) :
    LnS w v1 d g fb (i + 1) (F.set k x) (.slice (some ⟨gF, 0, none⟩) m cF) ((W.setCell ⟨gF, k, none⟩ (.int .i64 x)).setCell ⟨g, d.length - 1 - i, none⟩ (.int .i64 ((k : Int) + 1))) := by
  have l1 := h.lt1
  have l2 := h.lt2
  have s0 := h.bel.size
  have hg : fb + 1 ≤ gF := h.own.block gF rfl
  refine ⟨(h.bel.setCell (p := ⟨gF, k, none⟩) (by show w.heap.size ≤ gF; omega) _).setCell (p := ⟨g, _, none⟩) (by show w.heap.size ≤ g; omega) _, l1, l2, ?_, ?_, ?_, ?_, ft⟩
  · rw [RowKit.Below.heap_setCell _ _ _ _ (by show w.heap.size ≠ g; omega), RowKit.Below.heap_setCell _ _ _ _ (by show w.heap.size ≠ gF; omega)]; exact h.bl
  · have h1 := (h.row.other (k := gF) (i := k) (u := .int .i64 x) (by omega)).set (d.length - 1 - i) ((k : Int) + 1)
    have e : (List.replicate (d.length - i) (0 : Int) ++ begL (d.drop (d.length - i))).set (d.length - 1 - i) ((k : Int) + 1) = List.replicate (d.length - (i + 1)) 0 ++ begL (d.drop (d.length - (i + 1))) := by
      rw [hk, show d.length - i = (d.length - (i + 1)) + 1 by omega, show d.length - 1 - i = d.length - (i + 1) by omega, List.replicate_succ', List.append_assoc, List.set_append_right _ _ (by simp)]
      simp
    rw [e] at h1
    exact h1
  · rw [RowKit.Below.heap_setCell _ _ _ _ (by show fb ≠ g; omega), RowKit.Below.heap_setCell _ _ _ _ (by show fb ≠ gF; omega)]
    exact h.bf
  · exact (h.own.write hm k x).keepB fun j e => by
      have : fb + 1 ≤ j := h.own.block j e
      rw [RowKit.Below.heap_setCell _ _ _ _ (by show j ≠ g; omega)]
set_option maxRecDepth 100000 in
/-- The next place from the end. -/
theorem LnS.next {w W : World} {v1 : Value} {d : List Int} {g fb i : Nat} {F : List Int} {fv : Value} (h : LnS w v1 d g fb i F fv W) (hi : i < d.length) :
    Fst (d.drop (d.length - (i + 1))) (insF F (atD d (d.length - 1 - i))) ∧ begL (d.drop (d.length - (i + 1))) = ((cntG F (atD d (d.length - 1 - i)) : Int) + 1) :: begL (d.drop (d.length - i)) := by
  have e : d.drop (d.length - (i + 1)) = atD d (d.length - 1 - i) :: d.drop (d.length - i) := by
    rw [List.drop_eq_getElem_cons (by omega), atD_eq (by omega), show d.length - (i + 1) + 1 = d.length - i by omega, show d.length - (i + 1) = d.length - 1 - i by omega]
  rw [e]
  exact h.fst.step _

-- WALKS
set_option maxRecDepth 100000 in
set_option maxHeartbeats 8000000 in
theorem lens_any (v1 : Value) (d : List Int) (w : World) (h1 : IsI w v1 d) :
    Calls Try.prog 93 #[v1] w fun e w' => ∃ g, e = .returned (.tuple #[.slice (some ⟨g, 0, none⟩) d.length d.length, .int .i64 (lngL d)]) ∧ w.heap.size ≤ g ∧ RowF w' g (begL d) ∧ Below w.heap.size w w' := by
  obtain ⟨a1, c1, rfl, hc1, hl1, r1⟩ := h1
  have R1 : Hid (d = [] ∨ ∃ b o, a1 = some ⟨b, o, none⟩ ∧ IntsAt w b o d) := r1
  clear r1
  obtain ⟨i0, hi, hz0, hz1, hz2⟩ := info_parts infoInt
  obtain ⟨W0, eW⟩ : ∃ X, X = w.alloc (.cells #[.slice a1 d.length c1] 78) := ⟨_, rfl⟩
  have hs0 : W0.heap.size = w.heap.size + 1 := by rw [eW]; simp
  have HB0 : Hid (Below w.heap.size w W0) := by rw [eW]; exact (Below.refl _ _).alloc (Nat.le_refl _) _
  have HL0 : Hid (W0.heap[w.heap.size]? = some (.cells #[.slice a1 d.length c1] 78)) := by rw [eW]; exact heap_alloc_new _ _
  have c0 : W0.cell? ⟨w.heap.size, 0, none⟩ = some (.slice a1 d.length c1) := cell_row HL0.out rfl
  obtain ⟨W1, hmk, hr1, hb1⟩ := mkInts d.length hl1 W0
  have HE : Hid (W0 = w.alloc (.cells #[.slice a1 d.length c1] 78)) := eW
  clear eW
  have HR : Hid (RowF W1 W0.heap.size (List.replicate d.length 0)) := hr1
  have HB1 : Hid (Below W0.heap.size W0 W1) := hb1
  clear hr1 hb1
  have hs1 := HR.out.lt
  go_enter Try.func93, Try.ntmps93
  go_upto_region 1 with fail
  rw [← HE.out]
  clear HE
  go_upto_region 3 with fail
  obtain ⟨g, eg⟩ : ∃ g, g = W0.heap.size := ⟨_, rfl⟩
  obtain ⟨fb, efb⟩ : ∃ f, f = W1.heap.size := ⟨_, rfl⟩
  obtain ⟨W2, eW⟩ : ∃ X, X = W1.alloc (.cells #[.slice none 0 0] 78) := ⟨_, rfl⟩
  have HS : Hid (LnS w (.slice a1 d.length c1) d g fb 0 [] (.slice none 0 0) W2) := (by
    have hb2 : Below W1.heap.size W1 W2 := (by rw [eW]; exact (Below.refl _ _).alloc (Nat.le_refl _) _)
    have hb12 : Below W0.heap.size W0 W2 := HB1.out.trans (hb2.mono HB1.out.size)
    refine ⟨HB0.out.trans (hb12.mono (by omega)), by omega, by omega, (hb12.block _ (by omega)).trans HL0.out, ?_, by rw [efb, eW]; exact heap_alloc_new _ _, OwnI.nil0 _ _, ?_⟩
    · rw [eg]; have := HR.out.below hb2; simpa [begL] using this
    · simp; exact Fst.nil)
  have c2 : W2.cell? ⟨w.heap.size, 0, none⟩ = some (.slice a1 d.length c1) := HS.out.cl
  have hge : w.heap.size + 1 = g := by omega
  (try rw [← efb])
  (try rw [← eg])
  (try rw [← eW])
  (try rw [hge])
  clear eW HB0 HL0 c0 HR HB1 hmk hs0 hs1 efb eg hge
  clear W0 W1
  go_wp2
  clear c2
  go_loopw [14] (fun iv wr => ∃ (i : Nat) (F : List Int) (fv : Value), i ≤ d.length ∧ iv = .int .i64 (i : Int) ∧ Hid (LnS w (.slice a1 d.length c1) d g fb i F fv wr)) (fun iv _ => d.length - (intOf iv).toNat)
  case atStart => exact ⟨0, [], _, Nat.zero_le _, rfl, HS⟩
  case round =>
    clear HS
    obtain ⟨i, F, fv, hk, rfl, HS⟩ := hrel
    have hfl := HS.out.fst.len
    rw [List.length_drop] at hfl
    by_cases hlt : i < d.length
    · obtain ⟨b1, o1, rfl, g1⟩ := R1.out.resolve_left (by intro e; subst e; simp at hlt)
      obtain ⟨t, et⟩ : ∃ t, t = d.length - 1 - i := ⟨_, rfl⟩
      obtain ⟨aF, cF, efv⟩ := HS.out.own.form
      subst efv
      have k1 : (i : Int) < (d.length : Int) := by omega
      have n1 : IntKind.i64.wrap ((d.length : Int) - 1) = (d.length : Int) - 1 := by rw [IntKind.wrap_i64]; omega
      have n2 : IntKind.i64.wrap ((d.length : Int) - 1 - (i : Int)) = (t : Int) := by rw [IntKind.wrap_i64]; omega
      have HT : Hid (t = d.length - 1 - i) := et
      have ht : t < d.length := by omega
      clear et
      have c2 : wr.cell? ⟨w.heap.size, 0, none⟩ = some (.slice (some ⟨b1, o1, none⟩) d.length c1) := HS.out.cl
      have G1 := hide9 g1
      clear g1
      go_upto_region 7 with fail
      clear c2
      obtain ⟨ab, eab⟩ : ∃ b, b = wr.heap.size := ⟨_, rfl⟩
      obtain ⟨W3, eW⟩ : ∃ X, X = wr.alloc (.cells #[.int .i64 (t : Int)] 3) := ⟨_, rfl⟩
      have HS3 : Hid (LnS w (.slice (some ⟨b1, o1, none⟩) d.length c1) d g fb i F (.slice aF F.length cF) W3) := HS.out.below (by rw [eW]; exact (Below.refl _ _).alloc (Nat.le_refl _) _)
      have HAb : Hid (W3.heap[ab]? = some (.cells #[.int .i64 (t : Int)] 3)) := by rw [eab, eW]; exact heap_alloc_new _ _
      have HNe : Hid (∀ k, (Value.slice aF F.length cF).ownBlock = some k → k < ab) := fun k e => (by rw [eab]; exact (World.ownsRow.lt HS.out.own k e).2)
      have hab : fb < ab := by rw [eab]; exact (Array.getElem?_eq_some_iff.1 HS.out.bf).1
      rw [← eab, ← eW]
      clear HS eab eW
      have HS := HS3
      clear HS3
      have c5 : W3.cell? ⟨fb, 0, none⟩ = some (.slice aF F.length cF) := HS.out.cf
      go_wp2_with fail
      clear c5
      have hx : W3.cell? ⟨b1, o1 + t, none⟩ = some (.int .i64 (atD d t)) := (by rw [(G1.out.below HS.out.bel) t ht, atD_eq ht])
      refine (search_any fb w.heap.size ab b1 o1 d.length c1 t _ F d (fb + 1) W3 HS.out.fst.1 (by omega) HS.out.own rfl ht HS.out.cf HS.out.cl (cell_row HAb.out rfl) hx).mono ?_
      rintro e W4 ⟨rfl, hb4⟩
      have HS4 : Hid (LnS w (.slice (some ⟨b1, o1, none⟩) d.length c1) d g fb i F (.slice aF F.length cF) W4) := HS.out.below hb4
      have HA4 : Hid (W4.heap[ab]? = some (.cells #[.int .i64 (t : Int)] 3)) := (hb4.block _ (Array.getElem?_eq_some_iff.1 HAb.out).1).trans HAb.out
      obtain ⟨x, ex⟩ : ∃ x, x = atD d t := ⟨_, rfl⟩
      have HN := hide9 (HS.out.next hlt)
      rw [← HT.out, ← ex] at HN
      rw [← ex] at hx
      have HX : Hid (b1 < w.heap.size ∧ W4.cell? ⟨b1, o1 + t, none⟩ = some (.int .i64 x)) := ⟨G1.out.lt (by intro e; subst e; simp at hlt), (hb4.cell (p := ⟨b1, o1 + t, none⟩) (World.block_lt_of_cell? _ _ hx)).trans hx⟩
      rw [← ex]
      clear hx ex HS HAb hb4
      have hkl := cntG_le F x
      obtain ⟨k, ek⟩ : ∃ k, k = cntG F x := ⟨_, rfl⟩
      rw [← ek] at HN hkl ⊢
      have HI : Hid (insF F x = if k = F.length then F ++ [x] else F.set k x) := (by show _ = _; rw [ek]; exact insF_eq HS4.out.fst.1 x)
      rw [HI.out] at HN
      clear ek HI
      clear W3
      have n3 : IntKind.i64.wrap ((k : Int) + 1) = (k : Int) + 1 := by rw [IntKind.wrap_i64]; omega
      have t0 : (0 : Int) ≤ (t : Int) := by omega
      have t1 : (t : Int) < (d.length : Int) := by omega
      have c5 : W4.cell? ⟨fb, 0, none⟩ = some (.slice aF F.length cF) := HS4.out.cf
      by_cases hke : k = F.length
      · have HNx : Hid (Fst (d.drop (d.length - (i + 1))) (F ++ [x]) ∧ begL (d.drop (d.length - (i + 1))) = ((k : Int) + 1) :: begL (d.drop (d.length - i))) := ⟨by have := HN.out.1; rw [if_pos hke] at this; exact this, HN.out.2⟩
        clear HN
        have hke2 : (k : Int) = (F.length : Int) := by omega
        have q9 : ((k : Int) == (F.length : Int)) = true := by simp [hke2]
        have HKe := hide9 hke
        clear hke hke2
        go_upto_region 9 with fail
        clear c5 q9
        refine wp_region_held_drew (S := fun W' => W'.cell? ⟨w.heap.size, 0, none⟩ = some (.slice (some ⟨b1, o1, none⟩) d.length c1) ∧ W'.cell? ⟨ab, 0, none⟩ = some (.int .i64 (t : Int)) ∧ W'.cell? ⟨b1, o1 + t, none⟩ = some (.int .i64 x)) (by kernel_rfl) ⟨HS4.out.cl, cell_row HA4.out rfl, HX.out.2⟩ (fun hHeld => ?_)
        obtain ⟨Up1u0, eW⟩ : ∃ X, X = W4.drew := ⟨_, rfl⟩
        have hb : Below W4.heap.size W4 Up1u0 := by rw [eW]; exact (Below.refl _ _).drew
        replace HS4 : Hid (LnS w (.slice (some ⟨b1, o1, none⟩) d.length c1) d g fb i F (.slice aF F.length cF) Up1u0) := HS4.out.below hb
        replace HA4 : Hid (Up1u0.heap[ab]? = some (.cells #[.int .i64 (t : Int)] 3)) := (hb.block _ (Array.getElem?_eq_some_iff.1 HA4.out).1).trans HA4.out
        rw [← eW] at hHeld ⊢
        clear eW hb
        refine tkW 1 (some 31) (v := ?_) ?_ hHeld ?_
        rotate_left
        · (intro ww hSw; (try dsimp only at hSw); obtain ⟨k_0, k_1, k_2⟩ := hSw; go_simp; try with_reducible rfl)
        refine tkW 2 (some 32) (v := ?_) ?_ hHeld ?_
        rotate_left
        · (intro ww hSw; (try dsimp only at hSw); obtain ⟨k_0, k_1, k_2⟩ := hSw; go_simp; try with_reducible rfl)
        refine tkW 3 (some 33) (v := ?_) ?_ hHeld ?_
        rotate_left
        · (intro ww hSw; (try dsimp only at hSw); obtain ⟨k_0, k_1, k_2⟩ := hSw; go_simp; try with_reducible rfl)
        refine tkW 4 (some 34) (v := ?_) ?_ hHeld ?_
        rotate_left
        · (intro ww hSw; (try dsimp only at hSw); obtain ⟨k_0, k_1, k_2⟩ := hSw; go_simp; try with_reducible rfl)
        refine wpAnyH_ready (rs := [0, 5]) (by kernel_rfl) (by simp) ?_
        refine AllReadyH.cons (o := ⟨some 30, _, _, _, _, _⟩) rfl (fun K hK => ?_) (AllReadyH.cons (o := ⟨some 35, _, _, _, _, _⟩) rfl (fun K hK => ?_) AllReadyH.nil)
        · have c5 := HS4.out.cf
          go_simp
          refine hK.out _ _ (hHeld) (fun hHeld2 => ?_)
          clear hK K hHeld
          have hHeld := hHeld2
          clear hHeld2
          (try simp only [Act.put, List.setIfInBounds_toArray, List.set_cons_zero, List.set_cons_succ])
          clear c5
          refine wpAnyH_ready (rs := [5]) (by kernel_rfl) (by simp) ?_
          refine AllReadyH.cons (o := ⟨some 35, _, _, _, _, _⟩) rfl (fun K hK => ?_) AllReadyH.nil
          have hbx : Below Up1u0.heap.size Up1u0 (Up1u0.alloc (.cells #[.int .i64 x] 3)) := (Below.refl _ _).alloc (Nat.le_refl _) _
          go_simp
          refine hK.out _ _ (⟨(hbx.cell (p := ⟨w.heap.size, 0, none⟩) (World.block_lt_of_cell? _ _ hHeld.1)).trans hHeld.1, (hbx.cell (p := ⟨ab, 0, none⟩) (World.block_lt_of_cell? _ _ hHeld.2.1)).trans hHeld.2.1, (hbx.cell (p := ⟨b1, o1 + t, none⟩) (World.block_lt_of_cell? _ _ hHeld.2.2)).trans hHeld.2.2⟩) (fun hHeld2 => ?_)
          clear hK K hHeld
          have hHeld := hHeld2
          clear hHeld2
          (try simp only [Act.put, List.setIfInBounds_toArray, List.set_cons_zero, List.set_cons_succ])
          obtain ⟨Up1u2, eW⟩ : ∃ X, X = Up1u0.alloc (.cells #[.int .i64 x] 3) := ⟨_, rfl⟩
          have hb : Below Up1u0.heap.size Up1u0 Up1u2 := by rw [eW]; exact (Below.refl _ _).alloc (Nat.le_refl _) _
          replace HS4 : Hid (LnS w (.slice (some ⟨b1, o1, none⟩) d.length c1) d g fb i F (.slice aF F.length cF) Up1u2) := HS4.out.below hb
          replace HA4 : Hid (Up1u2.heap[ab]? = some (.cells #[.int .i64 (t : Int)] 3)) := (hb.block _ (Array.getElem?_eq_some_iff.1 HA4.out).1).trans HA4.out
          clear hbx
          have HV : Hid (Up1u2.heap[Up1u0.heap.size]? = some (.cells #[.int .i64 x] 3)) := by rw [eW]; exact heap_alloc_new _ _
          rw [← eW] at hHeld ⊢
          clear eW
          obtain ⟨vb, evb⟩ : ∃ vb, vb = Up1u0.heap.size := ⟨_, rfl⟩
          rw [← evb] at HV ⊢
          clear evb
          clear hb
          refine wpAnyH_ready (rs := [6]) (by kernel_rfl) (by simp) ?_
          refine AllReadyH.cons (o := ⟨some 36, _, _, _, _, _⟩) rfl (fun K hK => ?_) AllReadyH.nil
          refine step_append_lies _ (by rfl) _ _ 78 (by rfl) (fb + 1) 3 i0 (.int .i64 0) 1 8 Try.underlying78 hi hz0 hz1 hz2 rfl (by decide) (.slice aF F.length cF) F.length (cellsI F) (by rfl) HS4.out.own ⟨vb, 0, none⟩ 1 1 [.int .i64 x] (by rfl) rfl (fun j u hj => by rw [Addr.add_lit, cell_of_row _ vb _ _ _ _ HV.out]; simpa using hj) (fun x hx => by simp at hx; subst hx; rfl) (by decide) (by unfold maxLen; omega) (by omega) (by have := (Array.getElem?_eq_some_iff.1 HS4.out.bf).1; omega) Up1u2.heap.size rfl ?_
          intro g3 c3 Up1u3 hown3 hgrow3 hat3 hlt3
          have HO3 : Hid (OwnI (fb + 1) Up1u3 (Value.slice (some ⟨g3, 0, none⟩) (F.length + 1) c3) (F ++ [x])) := OwnI.snoc hown3
          have HG3 : Hid (Up1u2.grownBy Up1u3 (Value.slice aF F.length cF).ownBlock) := hgrow3
          have HW := hide9 HS4.out.bel.size
          have HBf := hide9 (Array.getElem?_eq_some_iff.1 HS4.out.bf).1
          have hHp := hHeld
          have kp : ∀ (b j : Nat) (u : Value), Up1u2.cell? ⟨b, j, none⟩ = some u → (b ≤ fb ∨ b = ab) → Up1u3.cell? ⟨b, j, none⟩ = some u := fun b j u h hb => (HG3.out.cell_far ⟨b, j, none⟩ (World.block_lt_of_cell? _ _ h) (fun e => by have h1 := HNe.out b e.symm; have h2 := HS4.out.own.block b e.symm; omega)).trans h
          have l1 := HS4.out.lt1
          have l2 := HS4.out.lt2
          clear hown3 hgrow3 hat3 hlt3
          refine hK.out _ _ (⟨kp _ _ _ hHp.1 (.inl (by omega)), kp _ _ _ hHp.2.1 (.inr rfl), kp _ _ _ hHp.2.2 (.inl (by have := HX.out.1; omega))⟩) (fun hHeld2 => ?_)
          clear hK K hHeld
          have hHeld := hHeld2
          clear hHeld2
          (try simp only [Act.put, List.setIfInBounds_toArray, List.set_cons_zero, List.set_cons_succ])
          have HS5 : Hid (∀ y : Nat, y = k → LnS w (.slice (some ⟨b1, o1, none⟩) d.length c1) d g fb (i + 1) (F ++ [x]) (Value.slice (some ⟨g3, 0, none⟩) (F.length + 1) c3) ((Up1u3.setCell ⟨fb, 0, none⟩ (Value.slice (some ⟨g3, 0, none⟩) (F.length + 1) c3)).setCell ⟨g, d.length - 1 - i, none⟩ (.int .i64 ((y : Int) + 1)))) := fun y hy => HS4.out.box HG3.out (F ++ [x]) HO3.out HNx.out.1 y hlt (by rw [hy]; exact HNx.out.2)
          have hcf := kp fb 0 _ HS4.out.cf (.inl (Nat.le_refl _))
          have hfz : Up1u3.frozen? ⟨fb, 0, none⟩ = false := frozen_of_row Up1u3 fb 0 _ _ ((HG3.out.block fb HBf.out (fun e => by have h2 := HS4.out.own.block fb e.symm; omega)).trans HS4.out.bf)
          have hcg := kp g t _ (HS4.out.row.cell (i := t) (by (have := HT.out; simp [begL_length]; omega))) (.inl (by omega))
          have hfg : Up1u3.frozen? ⟨g, t, none⟩ = false := frozen_of_row Up1u3 g t _ _ ((HG3.out.block g HS4.out.row.lt (fun e => by have h2 := HS4.out.own.block g e.symm; omega)).trans HS4.out.row)
          have HCg := hide9 hcg
          have HFg := hide9 hfg
          clear hcg hfg HS4 HA4 HV kp HG3 HO3 HW HBf
          refine wpAnyH_ready (rs := [7]) (by kernel_rfl) (by simp) ?_
          refine AllReadyH.cons (o := ⟨none, _, _, _, _, _⟩) rfl (fun K hK => ?_) AllReadyH.nil
          go_simp
          refine hK.out _ _ (⟨cell_off hHeld.1 (by omega), cell_off hHeld.2.1 (by omega), cell_off hHeld.2.2 (by have := HX.out.1; omega)⟩) (fun hHeld2 => ?_)
          clear hK K hHeld
          have hHeld := hHeld2
          clear hHeld2
          (try simp only [Act.put, List.setIfInBounds_toArray, List.set_cons_zero, List.set_cons_succ])
          have hcg := cell_off (g := fb) (i := 0) (u := (Value.slice (some ⟨g3, 0, none⟩) (F.length + 1) c3)) HCg.out (by omega)
          have hfg : (Up1u3.setCell ⟨fb, 0, none⟩ (Value.slice (some ⟨g3, 0, none⟩) (F.length + 1) c3)).frozen? ⟨g, t, none⟩ = false := (World.frozen?_of_block (RowKit.Below.heap_setCell _ _ _ _ (by show g ≠ fb; omega))).trans HFg.out
          have HS6 := hide9 (HS5.out k rfl)
          rw [← HT.out] at HS6
          obtain ⟨X9, eX⟩ : ∃ X, X = Up1u3.setCell ⟨fb, 0, none⟩ (Value.slice (some ⟨g3, 0, none⟩) (F.length + 1) c3) := ⟨_, rfl⟩
          rw [← eX] at hcg hfg hHeld HS6 ⊢
          obtain ⟨_, hca, _⟩ := hHeld
          clear HS5 HCg HFg eX hcf hfz
          refine wpAnyH_done (by kernel_rfl) ?_ _
          go_wp2
          go_roundw
          case rel => exact ⟨i + 1, _, _, by omega, by go_num, HS6⟩
          case measure => simp [intOf]; omega
        · have hbx : Below Up1u0.heap.size Up1u0 (Up1u0.alloc (.cells #[.int .i64 x] 3)) := (Below.refl _ _).alloc (Nat.le_refl _) _
          go_simp
          refine hK.out _ _ (⟨(hbx.cell (p := ⟨w.heap.size, 0, none⟩) (World.block_lt_of_cell? _ _ hHeld.1)).trans hHeld.1, (hbx.cell (p := ⟨ab, 0, none⟩) (World.block_lt_of_cell? _ _ hHeld.2.1)).trans hHeld.2.1, (hbx.cell (p := ⟨b1, o1 + t, none⟩) (World.block_lt_of_cell? _ _ hHeld.2.2)).trans hHeld.2.2⟩) (fun hHeld2 => ?_)
          clear hK K hHeld
          have hHeld := hHeld2
          clear hHeld2
          (try simp only [Act.put, List.setIfInBounds_toArray, List.set_cons_zero, List.set_cons_succ])
          obtain ⟨Up1u5, eW⟩ : ∃ X, X = Up1u0.alloc (.cells #[.int .i64 x] 3) := ⟨_, rfl⟩
          have hb : Below Up1u0.heap.size Up1u0 Up1u5 := by rw [eW]; exact (Below.refl _ _).alloc (Nat.le_refl _) _
          replace HS4 : Hid (LnS w (.slice (some ⟨b1, o1, none⟩) d.length c1) d g fb i F (.slice aF F.length cF) Up1u5) := HS4.out.below hb
          replace HA4 : Hid (Up1u5.heap[ab]? = some (.cells #[.int .i64 (t : Int)] 3)) := (hb.block _ (Array.getElem?_eq_some_iff.1 HA4.out).1).trans HA4.out
          clear hbx
          have HV : Hid (Up1u5.heap[Up1u0.heap.size]? = some (.cells #[.int .i64 x] 3)) := by rw [eW]; exact heap_alloc_new _ _
          rw [← eW] at hHeld ⊢
          clear eW
          obtain ⟨vb, evb⟩ : ∃ vb, vb = Up1u0.heap.size := ⟨_, rfl⟩
          rw [← evb] at HV ⊢
          clear evb
          clear hb
          refine wpAnyH_ready (rs := [0]) (by kernel_rfl) (by simp) ?_
          refine AllReadyH.cons (o := ⟨some 30, _, _, _, _, _⟩) rfl (fun K hK => ?_) AllReadyH.nil
          have c5 := HS4.out.cf
          go_simp
          refine hK.out _ _ (hHeld) (fun hHeld2 => ?_)
          clear hK K hHeld
          have hHeld := hHeld2
          clear hHeld2
          (try simp only [Act.put, List.setIfInBounds_toArray, List.set_cons_zero, List.set_cons_succ])
          clear c5
          refine wpAnyH_ready (rs := [6]) (by kernel_rfl) (by simp) ?_
          refine AllReadyH.cons (o := ⟨some 36, _, _, _, _, _⟩) rfl (fun K hK => ?_) AllReadyH.nil
          refine step_append_lies _ (by rfl) _ _ 78 (by rfl) (fb + 1) 3 i0 (.int .i64 0) 1 8 Try.underlying78 hi hz0 hz1 hz2 rfl (by decide) (.slice aF F.length cF) F.length (cellsI F) (by rfl) HS4.out.own ⟨vb, 0, none⟩ 1 1 [.int .i64 x] (by rfl) rfl (fun j u hj => by rw [Addr.add_lit, cell_of_row _ vb _ _ _ _ HV.out]; simpa using hj) (fun x hx => by simp at hx; subst hx; rfl) (by decide) (by unfold maxLen; omega) (by omega) (by have := (Array.getElem?_eq_some_iff.1 HS4.out.bf).1; omega) Up1u5.heap.size rfl ?_
          intro g3 c3 Up1u7 hown3 hgrow3 hat3 hlt3
          have HO3 : Hid (OwnI (fb + 1) Up1u7 (Value.slice (some ⟨g3, 0, none⟩) (F.length + 1) c3) (F ++ [x])) := OwnI.snoc hown3
          have HG3 : Hid (Up1u5.grownBy Up1u7 (Value.slice aF F.length cF).ownBlock) := hgrow3
          have HW := hide9 HS4.out.bel.size
          have HBf := hide9 (Array.getElem?_eq_some_iff.1 HS4.out.bf).1
          have hHp := hHeld
          have kp : ∀ (b j : Nat) (u : Value), Up1u5.cell? ⟨b, j, none⟩ = some u → (b ≤ fb ∨ b = ab) → Up1u7.cell? ⟨b, j, none⟩ = some u := fun b j u h hb => (HG3.out.cell_far ⟨b, j, none⟩ (World.block_lt_of_cell? _ _ h) (fun e => by have h1 := HNe.out b e.symm; have h2 := HS4.out.own.block b e.symm; omega)).trans h
          have l1 := HS4.out.lt1
          have l2 := HS4.out.lt2
          clear hown3 hgrow3 hat3 hlt3
          refine hK.out _ _ (⟨kp _ _ _ hHp.1 (.inl (by omega)), kp _ _ _ hHp.2.1 (.inr rfl), kp _ _ _ hHp.2.2 (.inl (by have := HX.out.1; omega))⟩) (fun hHeld2 => ?_)
          clear hK K hHeld
          have hHeld := hHeld2
          clear hHeld2
          (try simp only [Act.put, List.setIfInBounds_toArray, List.set_cons_zero, List.set_cons_succ])
          have HS5 : Hid (∀ y : Nat, y = k → LnS w (.slice (some ⟨b1, o1, none⟩) d.length c1) d g fb (i + 1) (F ++ [x]) (Value.slice (some ⟨g3, 0, none⟩) (F.length + 1) c3) ((Up1u7.setCell ⟨fb, 0, none⟩ (Value.slice (some ⟨g3, 0, none⟩) (F.length + 1) c3)).setCell ⟨g, d.length - 1 - i, none⟩ (.int .i64 ((y : Int) + 1)))) := fun y hy => HS4.out.box HG3.out (F ++ [x]) HO3.out HNx.out.1 y hlt (by rw [hy]; exact HNx.out.2)
          have hcf := kp fb 0 _ HS4.out.cf (.inl (Nat.le_refl _))
          have hfz : Up1u7.frozen? ⟨fb, 0, none⟩ = false := frozen_of_row Up1u7 fb 0 _ _ ((HG3.out.block fb HBf.out (fun e => by have h2 := HS4.out.own.block fb e.symm; omega)).trans HS4.out.bf)
          have hcg := kp g t _ (HS4.out.row.cell (i := t) (by (have := HT.out; simp [begL_length]; omega))) (.inl (by omega))
          have hfg : Up1u7.frozen? ⟨g, t, none⟩ = false := frozen_of_row Up1u7 g t _ _ ((HG3.out.block g HS4.out.row.lt (fun e => by have h2 := HS4.out.own.block g e.symm; omega)).trans HS4.out.row)
          have HCg := hide9 hcg
          have HFg := hide9 hfg
          clear hcg hfg HS4 HA4 HV kp HG3 HO3 HW HBf
          refine wpAnyH_ready (rs := [7]) (by kernel_rfl) (by simp) ?_
          refine AllReadyH.cons (o := ⟨none, _, _, _, _, _⟩) rfl (fun K hK => ?_) AllReadyH.nil
          go_simp
          refine hK.out _ _ (⟨cell_off hHeld.1 (by omega), cell_off hHeld.2.1 (by omega), cell_off hHeld.2.2 (by have := HX.out.1; omega)⟩) (fun hHeld2 => ?_)
          clear hK K hHeld
          have hHeld := hHeld2
          clear hHeld2
          (try simp only [Act.put, List.setIfInBounds_toArray, List.set_cons_zero, List.set_cons_succ])
          have hcg := cell_off (g := fb) (i := 0) (u := (Value.slice (some ⟨g3, 0, none⟩) (F.length + 1) c3)) HCg.out (by omega)
          have hfg : (Up1u7.setCell ⟨fb, 0, none⟩ (Value.slice (some ⟨g3, 0, none⟩) (F.length + 1) c3)).frozen? ⟨g, t, none⟩ = false := (World.frozen?_of_block (RowKit.Below.heap_setCell _ _ _ _ (by show g ≠ fb; omega))).trans HFg.out
          have HS6 := hide9 (HS5.out k rfl)
          rw [← HT.out] at HS6
          obtain ⟨X9, eX⟩ : ∃ X, X = Up1u7.setCell ⟨fb, 0, none⟩ (Value.slice (some ⟨g3, 0, none⟩) (F.length + 1) c3) := ⟨_, rfl⟩
          rw [← eX] at hcg hfg hHeld HS6 ⊢
          obtain ⟨_, hca, _⟩ := hHeld
          clear HS5 HCg HFg eX hcf hfz
          refine wpAnyH_done (by kernel_rfl) ?_ _
          go_wp2
          go_roundw
          case rel => exact ⟨i + 1, _, _, by omega, by go_num, HS6⟩
          case measure => simp [intOf]; omega
      · have HNx : Hid (Fst (d.drop (d.length - (i + 1))) (F.set k x) ∧ begL (d.drop (d.length - (i + 1))) = ((k : Int) + 1) :: begL (d.drop (d.length - i))) := ⟨by have := HN.out.1; rw [if_neg hke] at this; exact this, HN.out.2⟩
        clear HN
        have q9 : ((k : Int) == (F.length : Int)) = false := by simp; omega
        have hkl2 : k < F.length := by omega
        have kl : (k : Int) < (F.length : Int) := by omega
        have kl0 : (0 : Int) ≤ (k : Int) := by omega
        obtain ⟨gF, egF⟩ : ∃ gF, aF = some ⟨gF, 0, none⟩ := (by
          rcases HS4.out.own.2 with ⟨e, hn⟩ | ⟨g9, cap9, cur, hv, _⟩
          · injection e with e1 e2 e3; omega
          · injection hv with e1 e2 e3; exact ⟨g9, e1⟩)
        subst egF
        have HGf : Hid (fb < gF ∧ gF < ab) := ⟨HS4.out.own.block gF rfl, HNe.out gF rfl⟩
        clear hke
        go_upto_region 10 with fail
        clear c5 q9
        refine wp_region_held_drew (S := fun W' => W'.cell? ⟨w.heap.size, 0, none⟩ = some (.slice (some ⟨b1, o1, none⟩) d.length c1) ∧ W'.cell? ⟨ab, 0, none⟩ = some (.int .i64 (t : Int)) ∧ W'.cell? ⟨b1, o1 + t, none⟩ = some (.int .i64 x) ∧ W'.cell? ⟨fb, 0, none⟩ = some (.slice (some ⟨gF, 0, none⟩) F.length cF)) (by kernel_rfl) ⟨HS4.out.cl, cell_row HA4.out rfl, HX.out.2, HS4.out.cf⟩ (fun hHeld => ?_)
        obtain ⟨Uq2u0, eW⟩ : ∃ X, X = W4.drew := ⟨_, rfl⟩
        have hb : Below W4.heap.size W4 Uq2u0 := by rw [eW]; exact (Below.refl _ _).drew
        replace HS4 : Hid (LnS w (.slice (some ⟨b1, o1, none⟩) d.length c1) d g fb i F (.slice (some ⟨gF, 0, none⟩) F.length cF) Uq2u0) := HS4.out.below hb
        replace HA4 : Hid (Uq2u0.heap[ab]? = some (.cells #[.int .i64 (t : Int)] 3)) := (hb.block _ (Array.getElem?_eq_some_iff.1 HA4.out).1).trans HA4.out
        rw [← eW] at hHeld ⊢
        clear eW hb
        refine tkW 0 (some 37) (v := ?_) ?_ hHeld ?_
        rotate_left
        · (intro ww hSw; (try dsimp only at hSw); obtain ⟨k_0, k_1, k_2, k_3⟩ := hSw; go_simp; try with_reducible rfl)
        refine tkW 1 (some 38) (v := ?_) ?_ hHeld ?_
        rotate_left
        · (intro ww _; go_simp; try with_reducible rfl)
        refine tkW 2 (some 39) (v := ?_) ?_ hHeld ?_
        rotate_left
        · (intro ww hSw; (try dsimp only at hSw); obtain ⟨k_0, k_1, k_2, k_3⟩ := hSw; go_simp; try with_reducible rfl)
        refine tkW 3 (some 40) (v := ?_) ?_ hHeld ?_
        rotate_left
        · (intro ww hSw; (try dsimp only at hSw); obtain ⟨k_0, k_1, k_2, k_3⟩ := hSw; go_simp; try with_reducible rfl)
        refine tkW 4 (some 41) (v := ?_) ?_ hHeld ?_
        rotate_left
        · (intro ww hSw; (try dsimp only at hSw); obtain ⟨k_0, k_1, k_2, k_3⟩ := hSw; go_simp; try with_reducible rfl)
        refine tkW 5 (some 42) (v := ?_) ?_ hHeld ?_
        rotate_left
        · (intro ww hSw; (try dsimp only at hSw); obtain ⟨k_0, k_1, k_2, k_3⟩ := hSw; go_simp; try with_reducible rfl)
        refine tkW 6 (some 43) (v := ?_) ?_ hHeld ?_
        rotate_left
        · (intro ww hSw; (try dsimp only at hSw); obtain ⟨k_0, k_1, k_2, k_3⟩ := hSw; go_simp; try with_reducible rfl)
        refine wpAnyH_ready (rs := [7]) (by kernel_rfl) (by simp) ?_
        refine AllReadyH.cons (o := ⟨none, _, _, _, _, _⟩) rfl (fun K hK => ?_) AllReadyH.nil
        obtain ⟨hcl, hfz⟩ := HS4.out.own.at (j := k) (by omega)
        go_simp
        refine hK.out _ _ (⟨cell_off hHeld.1 (by have := HGf.out; have := HS4.out.lt1; have := HS4.out.lt2; omega), cell_off hHeld.2.1 (by have := HGf.out; omega), cell_off hHeld.2.2.1 (by have := HGf.out; have := HX.out.1; have := HS4.out.lt1; have := HS4.out.lt2; omega), cell_off hHeld.2.2.2 (by have := HGf.out; omega)⟩) (fun hHeld2 => ?_)
        clear hK K hHeld
        have hHeld := hHeld2
        clear hHeld2
        (try simp only [Act.put, List.setIfInBounds_toArray, List.set_cons_zero, List.set_cons_succ])
        have HS6 := hide9 (HS4.out.put rfl k x HNx.out.1 hlt HNx.out.2)
        rw [← HT.out] at HS6
        obtain ⟨hcg0, hfg0⟩ := HS4.out.row.at (i := t) (by (have := HT.out; simp [begL_length]; omega))
        have hgg : g ≠ gF := by have := HGf.out; have := HS4.out.lt2; omega
        have hcg := cell_off (g := gF) (i := k) (u := .int .i64 x) hcg0 hgg
        have hfg : (Uq2u0.setCell ⟨gF, k, none⟩ (.int .i64 x)).frozen? ⟨g, t, none⟩ = false := (World.frozen?_of_block (RowKit.Below.heap_setCell _ _ _ _ hgg)).trans hfg0
        obtain ⟨X9, eX⟩ : ∃ X, X = Uq2u0.setCell ⟨gF, k, none⟩ (.int .i64 x) := ⟨_, rfl⟩
        rw [← eX] at hcg hfg hHeld HS6 ⊢
        obtain ⟨_, hca, _, _⟩ := hHeld
        clear HS4 HA4 eX hcl hfz hcg0 hfg0
        refine wpAnyH_done (by kernel_rfl) ?_ _
        go_wp2
        go_roundw
        case rel => exact ⟨i + 1, _, _, by omega, by go_num, HS6⟩
        case measure => simp [intOf]; omega
    · obtain rfl : i = d.length := by omega
      obtain ⟨aF, cF, efv⟩ := HS.out.own.form
      subst efv
      have c5 := HS.out.cf
      have HF : Hid (RowF wr g (begL d) ∧ (F.length : Int) = lngL d) := (by
        have h1 := HS.out.row
        have h2 := HS.out.fst.2.1
        simp at h1 h2
        exact ⟨h1, h2⟩)
      have k9 : ¬ (d.length : Int) < (d.length : Int) := by omega
      have HBl := hide9 HS.out.bel
      have l1 := HS.out.lt1
      clear HS
      go_wp2
      go_quiet (fail)
      go_wp2
      go_ret2
      refine ⟨g, by rw [← HF.out.2]; rfl, by omega, HF.out.1.below (below_drewN (Below.refl _ _) _), below_drewN HBl.out _⟩
end Go.Proofs.Ythhnglpkfcmjiaa
