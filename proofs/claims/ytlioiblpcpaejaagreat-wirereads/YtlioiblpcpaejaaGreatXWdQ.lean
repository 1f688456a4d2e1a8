/- What the document's stamp, list and Put of a change do. -/
import Derived.Test.YtlioiblpcpaejaaGreatXWoH
import Derived.Test.YtlioiblpcpaejaaGreatXWdC
import Derived.Test.YtlioiblpcpaejaaGreatXK
namespace Go.Proofs.YtlioiblpcpaejaaGreat
open Go.RowKit
set_option linter.unusedVariables false
set_option linter.unusedSimpArgs false

set_option maxRecDepth 100000 in
set_option maxHeartbeats 2000000 in
theorem refStampP_any (v : Value) (p : List UInt8) (c r : Int) (w : World) (h : IsB w v p) (hc : c < 9223372036854775808) (hr : r < 9223372036854775808) (hl : p.length + (stampP c r).length ≤ 140737488355328) :
    Calls Tryz.prog 65 #[v, .agg #[.int .i64 c, .int .i64 r]] w fun e w' => ∃ v', e = .returned v' ∧ OwnB w.heap.size w' v' (p ++ stampP c r) ∧ Below w.heap.size w w' := by
  have K0 := KeptC.start w [.int .i64 c, .int .i64 r] 55
  have IB : Hid (IsB (w.alloc (.cells #[.int .i64 c, .int .i64 r] 55)) v p) := h.below K0.2.2
  have HL2 : Hid ((p ++ putL c.toNat).length + (putL r.toNat).length ≤ 140737488355328) := by show _ ≤ _; unfold stampP putI at hl; simp only [List.length_append] at hl ⊢; omega
  have HL1 : Hid (p.length + (putL c.toNat).length ≤ 140737488355328) := by have h0 := HL2.out; rw [List.length_append] at h0; show _ ≤ _; omega
  have HE : Hid ((p ++ putL c.toNat) ++ putL r.toNat = p ++ stampP c r) := by show _ = _; unfold stampP putI; simp
  clear h hl
  go_enter Tryz.func65, Tryz.ntmps65
  go_upto_region 1 with fail
  refine wp_region_held_drew (S := fun W' => KeptC w w.heap.size [.int .i64 c, .int .i64 r] W') (by kernel_rfl) K0.drew (fun hHeld => ?_)
  obtain ⟨Ua0, eW⟩ : ∃ X, X = (w.alloc (.cells #[.int .i64 c, .int .i64 r] 55)).drew := ⟨_, rfl⟩
  have IB : Hid (IsB Ua0 v (p)) := by rw [eW]; exact IB.out.below ((Below.refl _ _).drew)
  rw [← eW] at hHeld ⊢
  clear eW
  refine wpAnyH_take (i := 0) (oi := ⟨some 5, _, _, _, _, _⟩) (v := ?vax0) rfl (by kernel_rfl) (by kernel_rfl) (by kernel_rfl) (fun _ _ _ h => h) (Or.inl ⟨by rfl, ?hyax0⟩) hHeld ?restax0
  case hyax0 => (intro w hSw; (try dsimp only at hSw); have hc0 := hSw.1 0 _ rfl; have hc1 := hSw.1 1 _ rfl; go_simp; try with_reducible rfl)
  simp only [Act.put, List.setIfInBounds_toArray, List.set_cons_zero, List.set_cons_succ]
  refine wpAnyH_take (i := 1) (oi := ⟨some 6, _, _, _, _, _⟩) (v := ?vax1) rfl (by kernel_rfl) (by kernel_rfl) (by kernel_rfl) (fun _ _ _ h => h) (Or.inl ⟨by rfl, ?hyax1⟩) hHeld ?restax1
  case hyax1 => (intro w hSw; (try dsimp only at hSw); have hc0 := hSw.1 0 _ rfl; have hc1 := hSw.1 1 _ rfl; go_simp; try with_reducible rfl)
  simp only [Act.put, List.setIfInBounds_toArray, List.set_cons_zero, List.set_cons_succ]
  refine wpAnyH_take (i := 2) (oi := ⟨some 7, _, _, _, _, _⟩) (v := ?vax2) rfl (by kernel_rfl) (by kernel_rfl) (by kernel_rfl) (fun _ _ _ h => h) (Or.inl ⟨by rfl, ?hyax2⟩) hHeld ?restax2
  case hyax2 => (intro w hSw; (try dsimp only at hSw); have hc0 := hSw.1 0 _ rfl; have hc1 := hSw.1 1 _ rfl; go_simp; try with_reducible rfl)
  simp only [Act.put, List.setIfInBounds_toArray, List.set_cons_zero, List.set_cons_succ]
  refine wpAnyH_take (i := 4) (oi := ⟨some 9, _, _, _, _, _⟩) (v := ?vax4) rfl (by kernel_rfl) (by kernel_rfl) (by kernel_rfl) (fun _ _ _ h => h) (Or.inl ⟨by rfl, ?hyax4⟩) hHeld ?restax4
  case hyax4 => (intro w hSw; (try dsimp only at hSw); have hc0 := hSw.1 0 _ rfl; have hc1 := hSw.1 1 _ rfl; go_simp; try with_reducible rfl)
  simp only [Act.put, List.setIfInBounds_toArray, List.set_cons_zero, List.set_cons_succ]
  refine wpAnyH_take (i := 5) (oi := ⟨some 10, _, _, _, _, _⟩) (v := ?vax5) rfl (by kernel_rfl) (by kernel_rfl) (by kernel_rfl) (fun _ _ _ h => h) (Or.inl ⟨by rfl, ?hyax5⟩) hHeld ?restax5
  case hyax5 => (intro w hSw; (try dsimp only at hSw); have hc0 := hSw.1 0 _ rfl; have hc1 := hSw.1 1 _ rfl; go_simp; try with_reducible rfl)
  simp only [Act.put, List.setIfInBounds_toArray, List.set_cons_zero, List.set_cons_succ]
  refine wpAnyH_ready (rs := [3]) (by kernel_rfl) (by simp) ?_
  refine AllReadyH.cons (o := ⟨some 8, _, _, _, _, _⟩) rfl (fun K hK => ?_) AllReadyH.nil
  go_simp
  refine (refPut_any _ _ c _ hc IB.out HL1.out).mono ?_
  rintro e Va1 ⟨v3, rfl, ho, hb⟩
  (try go_wp2_with fail)
  refine hK.out _ _ (hHeld.step hb) (fun hHeld2 => ?_)
  clear hK K hHeld
  have hHeld := hHeld2
  clear hHeld2
  (try simp only [Act.put, List.setIfInBounds_toArray, List.set_cons_zero, List.set_cons_succ])
  replace IB : Hid (IsB Va1 v (p)) := IB.out.below hb
  have P3 : Hid (IsB Va1 v3 (p ++ putL c.toNat)) := ho.isB (by have := HL1.out; rw [List.length_append]; omega)
  clear ho hb
  refine wpAnyH_ready (rs := [6]) (by kernel_rfl) (by simp) ?_
  refine AllReadyH.cons (o := ⟨some 11, _, _, _, _, _⟩) rfl (fun K hK => ?_) AllReadyH.nil
  go_simp
  have hsz := hHeld.2.2.size
  refine (refPut_any _ _ r _ hr P3.out HL2.out).mono ?_
  rintro e Va2 ⟨v6, rfl, ho, hb⟩
  (try go_wp2_with fail)
  refine hK.out _ _ (hHeld.step hb) (fun hHeld2 => ?_)
  clear hK K hHeld
  have hHeld := hHeld2
  clear hHeld2
  (try simp only [Act.put, List.setIfInBounds_toArray, List.set_cons_zero, List.set_cons_succ])
  replace IB : Hid (IsB Va2 v (p)) := IB.out.below hb
  replace P3 : Hid (IsB Va2 v3 (p ++ putL c.toNat)) := P3.out.below hb
  have OZ : Hid (OwnB w.heap.size Va2 v6 (p ++ stampP c r)) := by
    have h0 := ho.cut hsz
    rw [HE.out] at h0
    exact h0
  clear ho hb
  refine wpAnyH_take (i := 7) (oi := ⟨some 4, _, _, _, _, _⟩) (v := ?va_3_6x7) rfl (by kernel_rfl) (by kernel_rfl) (by kernel_rfl) (fun _ _ _ h => h) (Or.inl ⟨by rfl, ?hya_3_6x7⟩) hHeld ?resta_3_6x7
  case hya_3_6x7 => (intro w hSw; (try dsimp only at hSw); have hc0 := hSw.1 0 _ rfl; have hc1 := hSw.1 1 _ rfl; go_simp; try with_reducible rfl)
  simp only [Act.put, List.setIfInBounds_toArray, List.set_cons_zero, List.set_cons_succ]
  refine wpAnyH_done (by kernel_rfl) ?_ _
  have KZ := hHeld
  clear hHeld
  go_wp2
  go_ret
  exact ⟨_, rfl, OZ.out, KZ.2.2⟩

theorem listP_take {ds : List Int} {k : Nat} (h : k < ds.length) : numsP (ds.take (k + 1)) = numsP (ds.take k) ++ putI ds[k] := by
  rw [List.take_succ_eq_append_getElem h]; exact numsP_snoc _ _
theorem numsP_le (ds : List Int) (k : Nat) : (numsP (ds.take k)).length ≤ (numsP ds).length := by
  conv => rhs; rw [← List.take_append_drop k ds]
  simp only [numsP, List.map_append, List.flatten_append, List.length_append]
  omega

set_option maxRecDepth 100000 in
set_option maxHeartbeats 2000000 in
theorem refListP_any (v vl : Value) (p : List UInt8) (d : List Int) (w : World) (h : IsB w v p) (h2 : IsI w vl d) (hd : ∀ x ∈ d, x < 9223372036854775808) (hl : p.length + (listP d).length ≤ 140737488355328) :
    Calls Tryz.prog 48 #[v, vl] w fun e w' => ∃ v', e = .returned v' ∧ OwnB w.heap.size w' v' (p ++ listP d) ∧ Below w.heap.size w w' := by
  obtain ⟨a2, c2, rfl, hc2, hl2, r2⟩ := h2
  have H1 : Hid (IsB w v p) := h
  have HR : Hid (d = [] ∨ ∃ b o, a2 = some ⟨b, o, none⟩ ∧ IntsAt w b o d) := r2
  have HD : Hid (∀ x ∈ d, x < 9223372036854775808) := hd
  have HLL : Hid (∀ k, (p ++ putL d.length ++ numsP (d.take k)).length ≤ 140737488355328) := fun k => by
    have h0 := numsP_le d k
    unfold listP at hl
    simp only [List.length_append] at hl ⊢
    omega
  have HL1 : Hid (p.length + (putL ((d.length : Nat) : Int).toNat).length ≤ 140737488355328) := by
    have h0 := HLL.out 0
    simp only [List.length_append] at h0
    show _ ≤ _
    rw [Int.toNat_natCast]
    omega
  clear h r2 hd hl
  go_enter Tryz.func48, Tryz.ntmps48
  go_wp2_with fail
  refine (refPut_any v p (d.length : Int) _ (by omega) H1.out HL1.out).mono ?_
  rintro e w1 ⟨v1, rfl, o1, hb1⟩
  rw [Int.toNat_natCast] at o1
  have HO1 : Hid (OwnB w.heap.size w1 v1 (p ++ putL d.length ++ numsP (d.take 0)) ∧ Below w.heap.size w w1) := ⟨by simpa [numsP] using o1, hb1⟩
  clear o1 hb1 H1
  go_wp2
  go_loopw [5, 6] (fun u i wr => ∃ k : Nat, k ≤ d.length ∧ i = .int .i64 (k : Int) ∧ Hid (OwnB w.heap.size wr u (p ++ putL d.length ++ numsP (d.take k)) ∧ Below w.heap.size w wr)) (fun _ i _ => d.length - (intOf i).toNat)
  case atStart => exact ⟨0, Nat.zero_le _, rfl, HO1⟩
  case round =>
    obtain ⟨k, hk, rfl, HO⟩ := hrel
    by_cases hlt : k < d.length
    · obtain ⟨b1, o1, rfl, g1⟩ := HR.out.resolve_left (by intro e; subst e; simp at hlt)
      have x1 := (g1.below HO.out.2) k hlt
      have k1 : (k : Int) < (d.length : Int) := by omega
      have k0 : (0 : Int) ≤ (k : Int) := by omega
      have HT : Hid ((p ++ putL d.length ++ numsP (d.take k)) ++ putL d[k].toNat = p ++ putL d.length ++ numsP (d.take (k + 1))) := by show _ = _; rw [listP_take hlt]; simp [putI]
      have hx := HD.out d[k] (List.getElem_mem hlt)
      generalize d[k] = x at *
      have HX : Hid (x < 9223372036854775808) := hx
      have HLx : Hid ((p ++ putL d.length ++ numsP (d.take k)).length + (putL x.toNat).length ≤ 140737488355328) := by show _ ≤ _; rw [← List.length_append, HT.out]; exact HLL.out (k + 1)
      have IB : Hid (IsB wr u5 (p ++ putL d.length ++ numsP (d.take k))) := HO.out.1.isB (by have := HLL.out k; omega)
      have hsz := HO.out.2.size
      clear g1 hx
      go_wp2_with fail
      refine (refPut_any _ _ x _ HX.out IB.out HLx.out).mono ?_
      rintro e w2 ⟨v2, rfl, o2, hb2⟩
      have HO2 : Hid (OwnB w.heap.size w2 v2 (p ++ putL d.length ++ numsP (d.take (k + 1))) ∧ Below w.heap.size w w2) := ⟨by have h0 := o2.cut hsz; rw [HT.out] at h0; exact h0, HO.out.2.trans (hb2.mono hsz)⟩
      clear o2 hb2 HO IB HT x1
      go_wp2
      go_roundw
      case rel => exact ⟨k + 1, by omega, by go_num, HO2⟩
      case measure => simp [intOf]; omega
    · obtain rfl : k = d.length := by omega
      have HTK : Hid (p ++ putL d.length ++ numsP (d.take d.length) = p ++ listP d) := by show _ = _; rw [List.take_length]; unfold listP; simp
      rw [HTK.out] at HO
      go_wp2
      go_ret
      exact ⟨_, rfl, HO.out.1, HO.out.2⟩

set_option maxRecDepth 100000 in
set_option maxHeartbeats 8000000 in
theorem refPutOk_any (ac ar sq : Int) (a1 : Option Addr) (ds : List Int) (c1 : Nat) (kd nc nr pc pr fc fr : Int) (nm vl : ByteArray) (hs : nm.size ≤ 281474976710656) (w : World) (h1 : IsI w (.slice a1 ds.length c1) ds) (hc : checkCh ⟨ac, ar, sq, ds, kd, nc, nr, pc, pr, fc, fr, nm, vl⟩ = 0) :
    Calls Tryz.prog 46 #[.agg #[.int .i64 ac, .int .i64 ar, .int .i64 sq, .slice a1 ds.length c1, .int .i64 kd, .int .i64 nc, .int .i64 nr, .int .i64 pc, .int .i64 pr, .int .i64 fc, .int .i64 fr, .string nm, .string vl]] w fun e w' => ∃ v, e = .returned (.tuple #[v, .int .i64 0]) ∧ OwnB w.heap.size w' v (bytesCh ⟨ac, ar, sq, ds, kd, nc, nr, pc, pr, fc, fr, nm, vl⟩) ∧ Below w.heap.size w w' := by
  have K0 := KeptC.start w [.int .i64 ac, .int .i64 ar, .int .i64 sq, .slice a1 ds.length c1, .int .i64 kd, .int .i64 nc, .int .i64 nr, .int .i64 pc, .int .i64 pr, .int .i64 fc, .int .i64 fr, .string nm, .string vl] 57
  have H1 : Hid (IsI w (.slice a1 ds.length c1) ds) := h1
  have hfine := fine _ hc
  have hkd : kd = 1 ∨ kd = 2 ∨ kd = 3 ∨ kd = 4 ∨ kd = 5 := hfine.kind
  have hA := node_lays hfine.at_
  have hN := node_lays hfine.node
  have hP := node_lays hfine.parent
  have hF := node_lays hfine.after
  simp only at hA hN hP hF
  have hsq : sq < 9223372036854775808 := by have := hfine.seq1; simp only at this; omega
  have hdl := clock_lays hfine.deps
  simp only at hdl
  have hds : ds.length ≤ 64 := hdl.1
  have HDL : Hid (∀ x ∈ ds, x < 9223372036854775808) := fun x hx => (hdl.2 x hx).2
  have hlen := bytesCh_len hc
  have z1 := stampP_len hA
  have z5 : (putI kd).length ≤ 9 := putI_len (by omega)
  have z6 : (putI sq).length ≤ 9 := putI_len hsq
  have z7 := listP_len hds hdl.2
  have HAL : Hid (ac < 9223372036854775808 ∧ ar < 9223372036854775808) := ⟨hA.1.2, hA.2.2⟩
  have HNL : Hid (nc < 9223372036854775808 ∧ nr < 9223372036854775808) := ⟨hN.1.2, hN.2.2⟩
  have HPL : Hid (pc < 9223372036854775808 ∧ pr < 9223372036854775808) := ⟨hP.1.2, hP.2.2⟩
  have HFL : Hid (fc < 9223372036854775808 ∧ fr < 9223372036854775808) := ⟨hF.1.2, hF.2.2⟩
  have hbA : (headA ac ar kd).length ≤ 27 := by unfold headA; rw [List.length_append]; omega
  have hbB : (headB ac ar sq kd ds).length ≤ 700 := by unfold headB; simp only [List.length_append]; omega
  have HEA : Hid (([] ++ putL kd.toNat) ++ stampP ac ar = headA ac ar kd) := by show _ = _; simp [headA, putI]
  have HEB : Hid ((headA ac ar kd ++ putL sq.toNat) ++ listP ds = headB ac ar sq kd ds) := by show _ = _; simp [headB, putI]
  have HLA2 : Hid (([] ++ putL kd.toNat).length + (stampP ac ar).length ≤ 140737488355328) := by show _ ≤ _; rw [← List.length_append, HEA.out]; omega
  have HLA1 : Hid (([] : List UInt8).length + (putL kd.toNat).length ≤ 140737488355328) := by have h0 := HLA2.out; rw [List.length_append] at h0; show _ ≤ _; omega
  have HLB2 : Hid ((headA ac ar kd ++ putL sq.toNat).length + (listP ds).length ≤ 140737488355328) := by show _ ≤ _; rw [← List.length_append, HEB.out]; omega
  have HLB1 : Hid ((headA ac ar kd).length + (putL sq.toNat).length ≤ 140737488355328) := by have h0 := HLB2.out; rw [List.length_append] at h0; show _ ≤ _; omega
  have hk63 : kd < 9223372036854775808 := by omega
  have HC : Hid (checkCh ⟨ac, ar, sq, ds, kd, nc, nr, pc, pr, fc, fr, nm, vl⟩ = 0) := hc
  clear hA hN hP hF hfine hdl h1
  go_enter Tryz.func46, Tryz.ntmps46
  go_wp2_with fail
  refine (refCheckCh_any ac ar sq (.slice a1 ds.length c1) kd nc nr pc pr fc fr nm vl ds hs _ (H1.out.below K0.2.2)).mono ?_
  rintro e w1 ⟨rfl, hb1⟩
  rw [hc]
  have K1 := K0.step hb1
  clear hb1 K0 hc
  go_upto_region 3 with fail
  go_cut [4] from 5 (fun v W => OwnB w.heap.size W v (headA ac ar kd) ∧ KeptC w w.heap.size [.int .i64 ac, .int .i64 ar, .int .i64 sq, .slice a1 ds.length c1, .int .i64 kd, .int .i64 nc, .int .i64 nr, .int .i64 pc, .int .i64 pr, .int .i64 fc, .int .i64 fr, .string nm, .string vl] W)
  case first =>
    refine wp_region_held_drew (S := fun W' => KeptC w w.heap.size [.int .i64 ac, .int .i64 ar, .int .i64 sq, .slice a1 ds.length c1, .int .i64 kd, .int .i64 nc, .int .i64 nr, .int .i64 pc, .int .i64 pr, .int .i64 fc, .int .i64 fr, .string nm, .string vl] W') (by kernel_rfl) K1.drew (fun hHeld => ?_)
    obtain ⟨Ua0, eW⟩ : ∃ X, X = w1.drew := ⟨_, rfl⟩
    rw [← eW] at hHeld ⊢
    clear eW
    refine wpAnyH_take (i := 0) (oi := ⟨some 10, _, _, _, _, _⟩) (v := ?vax0) rfl (by kernel_rfl) (by kernel_rfl) (by kernel_rfl) (fun _ _ _ h => h) (Or.inl ⟨by rfl, ?hyax0⟩) hHeld ?restax0
    case hyax0 => (intro w hSw; (try dsimp only at hSw); have hc0 := hSw.1 0 _ rfl; have hc1 := hSw.1 1 _ rfl; have hc2 := hSw.1 2 _ rfl; have hc3 := hSw.1 3 _ rfl; have hc4 := hSw.1 4 _ rfl; have hc5 := hSw.1 5 _ rfl; have hc6 := hSw.1 6 _ rfl; have hc7 := hSw.1 7 _ rfl; have hc8 := hSw.1 8 _ rfl; have hc9 := hSw.1 9 _ rfl; have hc10 := hSw.1 10 _ rfl; have hc11 := hSw.1 11 _ rfl; have hc12 := hSw.1 12 _ rfl; go_simp; try with_reducible rfl)
    simp only [Act.put, List.setIfInBounds_toArray, List.set_cons_zero, List.set_cons_succ]
    refine wpAnyH_take (i := 1) (oi := ⟨some 11, _, _, _, _, _⟩) (v := ?vax1) rfl (by kernel_rfl) (by kernel_rfl) (by kernel_rfl) (fun _ _ _ h => h) (Or.inl ⟨by rfl, ?hyax1⟩) hHeld ?restax1
    case hyax1 => (intro w hSw; (try dsimp only at hSw); have hc0 := hSw.1 0 _ rfl; have hc1 := hSw.1 1 _ rfl; have hc2 := hSw.1 2 _ rfl; have hc3 := hSw.1 3 _ rfl; have hc4 := hSw.1 4 _ rfl; have hc5 := hSw.1 5 _ rfl; have hc6 := hSw.1 6 _ rfl; have hc7 := hSw.1 7 _ rfl; have hc8 := hSw.1 8 _ rfl; have hc9 := hSw.1 9 _ rfl; have hc10 := hSw.1 10 _ rfl; have hc11 := hSw.1 11 _ rfl; have hc12 := hSw.1 12 _ rfl; go_simp; try with_reducible rfl)
    simp only [Act.put, List.setIfInBounds_toArray, List.set_cons_zero, List.set_cons_succ]
    refine wpAnyH_take (i := 3) (oi := ⟨some 13, _, _, _, _, _⟩) (v := ?vax3) rfl (by kernel_rfl) (by kernel_rfl) (by kernel_rfl) (fun _ _ _ h => h) (Or.inl ⟨by rfl, ?hyax3⟩) hHeld ?restax3
    case hyax3 => (intro w hSw; (try dsimp only at hSw); have hc0 := hSw.1 0 _ rfl; have hc1 := hSw.1 1 _ rfl; have hc2 := hSw.1 2 _ rfl; have hc3 := hSw.1 3 _ rfl; have hc4 := hSw.1 4 _ rfl; have hc5 := hSw.1 5 _ rfl; have hc6 := hSw.1 6 _ rfl; have hc7 := hSw.1 7 _ rfl; have hc8 := hSw.1 8 _ rfl; have hc9 := hSw.1 9 _ rfl; have hc10 := hSw.1 10 _ rfl; have hc11 := hSw.1 11 _ rfl; have hc12 := hSw.1 12 _ rfl; go_simp; try with_reducible rfl)
    simp only [Act.put, List.setIfInBounds_toArray, List.set_cons_zero, List.set_cons_succ]
    refine wpAnyH_take (i := 4) (oi := ⟨some 14, _, _, _, _, _⟩) (v := ?vax4) rfl (by kernel_rfl) (by kernel_rfl) (by kernel_rfl) (fun _ _ _ h => h) (Or.inl ⟨by rfl, ?hyax4⟩) hHeld ?restax4
    case hyax4 => (intro w hSw; (try dsimp only at hSw); have hc0 := hSw.1 0 _ rfl; have hc1 := hSw.1 1 _ rfl; have hc2 := hSw.1 2 _ rfl; have hc3 := hSw.1 3 _ rfl; have hc4 := hSw.1 4 _ rfl; have hc5 := hSw.1 5 _ rfl; have hc6 := hSw.1 6 _ rfl; have hc7 := hSw.1 7 _ rfl; have hc8 := hSw.1 8 _ rfl; have hc9 := hSw.1 9 _ rfl; have hc10 := hSw.1 10 _ rfl; have hc11 := hSw.1 11 _ rfl; have hc12 := hSw.1 12 _ rfl; go_simp; try with_reducible rfl)
    simp only [Act.put, List.setIfInBounds_toArray, List.set_cons_zero, List.set_cons_succ]
    refine wpAnyH_ready (rs := [2]) (by kernel_rfl) (by simp) ?_
    refine AllReadyH.cons (o := ⟨some 12, _, _, _, _, _⟩) rfl (fun K hK => ?_) AllReadyH.nil
    go_simp
    refine (refPut_any _ [] kd _ hk63 (IsB.non 0) HLA1.out).mono ?_
    rintro e Va1 ⟨v2, rfl, ho, hb⟩
    (try go_wp2_with fail)
    refine hK.out _ _ (hHeld.step hb) (fun hHeld2 => ?_)
    clear hK K hHeld
    have hHeld := hHeld2
    clear hHeld2
    (try simp only [Act.put, List.setIfInBounds_toArray, List.set_cons_zero, List.set_cons_succ])
    have P2 : Hid (IsB Va1 v2 ([] ++ putL kd.toNat)) := ho.isB (by have := HLA1.out; rw [List.length_append]; omega)
    clear ho hb
    refine wpAnyH_ready (rs := [5]) (by kernel_rfl) (by simp) ?_
    refine AllReadyH.cons (o := ⟨some 15, _, _, _, _, _⟩) rfl (fun K hK => ?_) AllReadyH.nil
    go_simp
    have hsz := hHeld.2.2.size
    refine (refStampP_any _ _ ac ar _ P2.out HAL.out.1 HAL.out.2 HLA2.out).mono ?_
    rintro e Va2 ⟨v5, rfl, ho, hb⟩
    (try go_wp2_with fail)
    refine hK.out _ _ (hHeld.step hb) (fun hHeld2 => ?_)
    clear hK K hHeld
    have hHeld := hHeld2
    clear hHeld2
    (try simp only [Act.put, List.setIfInBounds_toArray, List.set_cons_zero, List.set_cons_succ])
    replace P2 : Hid (IsB Va2 v2 ([] ++ putL kd.toNat)) := P2.out.below hb
    have OZ : Hid (OwnB w.heap.size Va2 v5 (headA ac ar kd)) := by
      have h0 := ho.cut hsz
      rw [HEA.out] at h0
      exact h0
    clear ho hb
    refine wpAnyH_take (i := 6) (oi := ⟨some 4, _, _, _, _, _⟩) (v := ?va_2_5x6) rfl (by kernel_rfl) (by kernel_rfl) (by kernel_rfl) (fun _ _ _ h => h) (Or.inl ⟨by rfl, ?hya_2_5x6⟩) hHeld ?resta_2_5x6
    case hya_2_5x6 => (intro w hSw; (try dsimp only at hSw); have hc0 := hSw.1 0 _ rfl; have hc1 := hSw.1 1 _ rfl; have hc2 := hSw.1 2 _ rfl; have hc3 := hSw.1 3 _ rfl; have hc4 := hSw.1 4 _ rfl; have hc5 := hSw.1 5 _ rfl; have hc6 := hSw.1 6 _ rfl; have hc7 := hSw.1 7 _ rfl; have hc8 := hSw.1 8 _ rfl; have hc9 := hSw.1 9 _ rfl; have hc10 := hSw.1 10 _ rfl; have hc11 := hSw.1 11 _ rfl; have hc12 := hSw.1 12 _ rfl; go_simp; try with_reducible rfl)
    simp only [Act.put, List.setIfInBounds_toArray, List.set_cons_zero, List.set_cons_succ]
    refine wpAnyH_done (by kernel_rfl) ?_ _
    have KZ := hHeld
    clear hHeld
    go_wp2
    go_meet
    case rel => exact ⟨OZ.out, KZ⟩
  case rest =>
    obtain ⟨OV, KV⟩ := hcut
    have O4 : Hid (OwnB w.heap.size wc u4 (headA ac ar kd)) := OV
    clear OV K1
    obtain ⟨k_0, k_1, k_2, k_3, k_4, k_5, k_6, k_7, k_8, k_9, k_10, k_11, k_12⟩ := KV.cells13
    go_upto_region 4 with fail
    clear k_0 k_1 k_2 k_3 k_4 k_5 k_6 k_7 k_8 k_9 k_10 k_11 k_12
    go_cut [4] from 5 (fun v W => OwnB w.heap.size W v (headB ac ar sq kd ds) ∧ KeptC w w.heap.size [.int .i64 ac, .int .i64 ar, .int .i64 sq, .slice a1 ds.length c1, .int .i64 kd, .int .i64 nc, .int .i64 nr, .int .i64 pc, .int .i64 pr, .int .i64 fc, .int .i64 fr, .string nm, .string vl] W)
    case first =>
      have IB : Hid (IsB wc u4 (headA ac ar kd)) := O4.out.isB (by omega)
      refine wp_region_held_drew (S := fun W' => KeptC w w.heap.size [.int .i64 ac, .int .i64 ar, .int .i64 sq, .slice a1 ds.length c1, .int .i64 kd, .int .i64 nc, .int .i64 nr, .int .i64 pc, .int .i64 pr, .int .i64 fc, .int .i64 fr, .string nm, .string vl] W') (by kernel_rfl) KV.drew (fun hHeld => ?_)
      obtain ⟨Ub0, eW⟩ : ∃ X, X = wc.drew := ⟨_, rfl⟩
      have IB : Hid (IsB Ub0 u4 (headA ac ar kd)) := by rw [eW]; exact IB.out.below ((Below.refl _ _).drew)
      rw [← eW] at hHeld ⊢
      clear eW
      refine wpAnyH_take (i := 0) (oi := ⟨some 16, _, _, _, _, _⟩) (v := ?vbx0) rfl (by kernel_rfl) (by kernel_rfl) (by kernel_rfl) (fun _ _ _ h => h) (Or.inl ⟨by rfl, ?hybx0⟩) hHeld ?restbx0
      case hybx0 => (intro w hSw; (try dsimp only at hSw); have hc0 := hSw.1 0 _ rfl; have hc1 := hSw.1 1 _ rfl; have hc2 := hSw.1 2 _ rfl; have hc3 := hSw.1 3 _ rfl; have hc4 := hSw.1 4 _ rfl; have hc5 := hSw.1 5 _ rfl; have hc6 := hSw.1 6 _ rfl; have hc7 := hSw.1 7 _ rfl; have hc8 := hSw.1 8 _ rfl; have hc9 := hSw.1 9 _ rfl; have hc10 := hSw.1 10 _ rfl; have hc11 := hSw.1 11 _ rfl; have hc12 := hSw.1 12 _ rfl; go_simp; try with_reducible rfl)
      simp only [Act.put, List.setIfInBounds_toArray, List.set_cons_zero, List.set_cons_succ]
      refine wpAnyH_take (i := 1) (oi := ⟨some 17, _, _, _, _, _⟩) (v := ?vbx1) rfl (by kernel_rfl) (by kernel_rfl) (by kernel_rfl) (fun _ _ _ h => h) (Or.inl ⟨by rfl, ?hybx1⟩) hHeld ?restbx1
      case hybx1 => (intro w hSw; (try dsimp only at hSw); have hc0 := hSw.1 0 _ rfl; have hc1 := hSw.1 1 _ rfl; have hc2 := hSw.1 2 _ rfl; have hc3 := hSw.1 3 _ rfl; have hc4 := hSw.1 4 _ rfl; have hc5 := hSw.1 5 _ rfl; have hc6 := hSw.1 6 _ rfl; have hc7 := hSw.1 7 _ rfl; have hc8 := hSw.1 8 _ rfl; have hc9 := hSw.1 9 _ rfl; have hc10 := hSw.1 10 _ rfl; have hc11 := hSw.1 11 _ rfl; have hc12 := hSw.1 12 _ rfl; go_simp; try with_reducible rfl)
      simp only [Act.put, List.setIfInBounds_toArray, List.set_cons_zero, List.set_cons_succ]
      refine wpAnyH_take (i := 2) (oi := ⟨some 18, _, _, _, _, _⟩) (v := ?vbx2) rfl (by kernel_rfl) (by kernel_rfl) (by kernel_rfl) (fun _ _ _ h => h) (Or.inl ⟨by rfl, ?hybx2⟩) hHeld ?restbx2
      case hybx2 => (intro w hSw; (try dsimp only at hSw); have hc0 := hSw.1 0 _ rfl; have hc1 := hSw.1 1 _ rfl; have hc2 := hSw.1 2 _ rfl; have hc3 := hSw.1 3 _ rfl; have hc4 := hSw.1 4 _ rfl; have hc5 := hSw.1 5 _ rfl; have hc6 := hSw.1 6 _ rfl; have hc7 := hSw.1 7 _ rfl; have hc8 := hSw.1 8 _ rfl; have hc9 := hSw.1 9 _ rfl; have hc10 := hSw.1 10 _ rfl; have hc11 := hSw.1 11 _ rfl; have hc12 := hSw.1 12 _ rfl; go_simp; try with_reducible rfl)
      simp only [Act.put, List.setIfInBounds_toArray, List.set_cons_zero, List.set_cons_succ]
      refine wpAnyH_take (i := 4) (oi := ⟨some 20, _, _, _, _, _⟩) (v := ?vbx4) rfl (by kernel_rfl) (by kernel_rfl) (by kernel_rfl) (fun _ _ _ h => h) (Or.inl ⟨by rfl, ?hybx4⟩) hHeld ?restbx4
      case hybx4 => (intro w hSw; (try dsimp only at hSw); have hc0 := hSw.1 0 _ rfl; have hc1 := hSw.1 1 _ rfl; have hc2 := hSw.1 2 _ rfl; have hc3 := hSw.1 3 _ rfl; have hc4 := hSw.1 4 _ rfl; have hc5 := hSw.1 5 _ rfl; have hc6 := hSw.1 6 _ rfl; have hc7 := hSw.1 7 _ rfl; have hc8 := hSw.1 8 _ rfl; have hc9 := hSw.1 9 _ rfl; have hc10 := hSw.1 10 _ rfl; have hc11 := hSw.1 11 _ rfl; have hc12 := hSw.1 12 _ rfl; go_simp; try with_reducible rfl)
      simp only [Act.put, List.setIfInBounds_toArray, List.set_cons_zero, List.set_cons_succ]
      refine wpAnyH_take (i := 5) (oi := ⟨some 21, _, _, _, _, _⟩) (v := ?vbx5) rfl (by kernel_rfl) (by kernel_rfl) (by kernel_rfl) (fun _ _ _ h => h) (Or.inl ⟨by rfl, ?hybx5⟩) hHeld ?restbx5
      case hybx5 => (intro w hSw; (try dsimp only at hSw); have hc0 := hSw.1 0 _ rfl; have hc1 := hSw.1 1 _ rfl; have hc2 := hSw.1 2 _ rfl; have hc3 := hSw.1 3 _ rfl; have hc4 := hSw.1 4 _ rfl; have hc5 := hSw.1 5 _ rfl; have hc6 := hSw.1 6 _ rfl; have hc7 := hSw.1 7 _ rfl; have hc8 := hSw.1 8 _ rfl; have hc9 := hSw.1 9 _ rfl; have hc10 := hSw.1 10 _ rfl; have hc11 := hSw.1 11 _ rfl; have hc12 := hSw.1 12 _ rfl; go_simp; try with_reducible rfl)
      simp only [Act.put, List.setIfInBounds_toArray, List.set_cons_zero, List.set_cons_succ]
      refine wpAnyH_ready (rs := [3]) (by kernel_rfl) (by simp) ?_
      refine AllReadyH.cons (o := ⟨some 19, _, _, _, _, _⟩) rfl (fun K hK => ?_) AllReadyH.nil
      go_simp
      refine (refPut_any _ _ sq _ hsq IB.out HLB1.out).mono ?_
      rintro e Vb1 ⟨v3, rfl, ho, hb⟩
      (try go_wp2_with fail)
      refine hK.out _ _ (hHeld.step hb) (fun hHeld2 => ?_)
      clear hK K hHeld
      have hHeld := hHeld2
      clear hHeld2
      (try simp only [Act.put, List.setIfInBounds_toArray, List.set_cons_zero, List.set_cons_succ])
      replace IB : Hid (IsB Vb1 u4 (headA ac ar kd)) := IB.out.below hb
      have P3 : Hid (IsB Vb1 v3 (headA ac ar kd ++ putL sq.toNat)) := ho.isB (by have := HLB1.out; rw [List.length_append]; omega)
      clear ho hb
      refine wpAnyH_ready (rs := [6]) (by kernel_rfl) (by simp) ?_
      refine AllReadyH.cons (o := ⟨some 22, _, _, _, _, _⟩) rfl (fun K hK => ?_) AllReadyH.nil
      go_simp
      have hsz := hHeld.2.2.size
      refine (refListP_any _ _ _ ds _ P3.out (H1.out.below hHeld.2.2) HDL.out HLB2.out).mono ?_
      rintro e Vb2 ⟨v6, rfl, ho, hb⟩
      (try go_wp2_with fail)
      refine hK.out _ _ (hHeld.step hb) (fun hHeld2 => ?_)
      clear hK K hHeld
      have hHeld := hHeld2
      clear hHeld2
      (try simp only [Act.put, List.setIfInBounds_toArray, List.set_cons_zero, List.set_cons_succ])
      replace IB : Hid (IsB Vb2 u4 (headA ac ar kd)) := IB.out.below hb
      replace P3 : Hid (IsB Vb2 v3 (headA ac ar kd ++ putL sq.toNat)) := P3.out.below hb
      have OZ : Hid (OwnB w.heap.size Vb2 v6 (headB ac ar sq kd ds)) := by
        have h0 := ho.cut hsz
        rw [HEB.out] at h0
        exact h0
      clear ho hb
      refine wpAnyH_take (i := 7) (oi := ⟨some 4, _, _, _, _, _⟩) (v := ?vb_3_6x7) rfl (by kernel_rfl) (by kernel_rfl) (by kernel_rfl) (fun _ _ _ h => h) (Or.inl ⟨by rfl, ?hyb_3_6x7⟩) hHeld ?restb_3_6x7
      case hyb_3_6x7 => (intro w hSw; (try dsimp only at hSw); have hc0 := hSw.1 0 _ rfl; have hc1 := hSw.1 1 _ rfl; have hc2 := hSw.1 2 _ rfl; have hc3 := hSw.1 3 _ rfl; have hc4 := hSw.1 4 _ rfl; have hc5 := hSw.1 5 _ rfl; have hc6 := hSw.1 6 _ rfl; have hc7 := hSw.1 7 _ rfl; have hc8 := hSw.1 8 _ rfl; have hc9 := hSw.1 9 _ rfl; have hc10 := hSw.1 10 _ rfl; have hc11 := hSw.1 11 _ rfl; have hc12 := hSw.1 12 _ rfl; go_simp; try with_reducible rfl)
      simp only [Act.put, List.setIfInBounds_toArray, List.set_cons_zero, List.set_cons_succ]
      refine wpAnyH_done (by kernel_rfl) ?_ _
      have KZ := hHeld
      clear hHeld
      go_wp2
      go_meet
      case rel => exact ⟨OZ.out, KZ⟩
    case rest =>
      obtain ⟨OV, KV2⟩ := hcut
      have O6 : Hid (OwnB w.heap.size wc u4 (headB ac ar sq kd ds)) := OV
      clear OV KV O4 HEA HEB HLA1 HLA2 HLB1 HLB2
      rcases hkd with rfl | rfl | rfl | rfl | rfl
      · skip
        have HEK : Hid (((((headB ac ar sq 1 ds) ++ stampP pc pr) ++ stampP fc fr) ++ textP nm.data.toList) = bytesCh ⟨ac, ar, sq, ds, 1, nc, nr, pc, pr, fc, fr, nm, vl⟩) := by show _ = _; rw [bytes_head]; simp [restP]
        have HL3 : Hid (((((headB ac ar sq 1 ds) ++ stampP pc pr) ++ stampP fc fr)).length + (textP nm.data.toList).length ≤ 140737488355328) := by show _ ≤ _; rw [← List.length_append, HEK.out]; omega
        have HL2 : Hid ((((headB ac ar sq 1 ds) ++ stampP pc pr)).length + (stampP fc fr).length ≤ 140737488355328) := by have h0 := HL3.out; rw [List.length_append] at h0; show _ ≤ _; omega
        have HL1 : Hid (((headB ac ar sq 1 ds)).length + (stampP pc pr).length ≤ 140737488355328) := by have h0 := HL2.out; rw [List.length_append] at h0; show _ ≤ _; omega
        obtain ⟨k_0, k_1, k_2, k_3, k_4, k_5, k_6, k_7, k_8, k_9, k_10, k_11, k_12⟩ := KV2.cells13
        go_upto_region 7 with fail
        clear k_0 k_1 k_2 k_3 k_4 k_5 k_6 k_7 k_8 k_9 k_10 k_11 k_12
        have HLX3 : Hid (((((headB ac ar sq 1 ds) ++ stampP pc pr) ++ stampP fc fr)).length + (textB nm).length ≤ 140737488355328) := by show _ ≤ _; rw [show textB nm = textP nm.data.toList by simp [textB, textP]]; exact HL3.out
        have IB : Hid (IsB wc u4 (headB ac ar sq 1 ds)) := O6.out.isB (by omega)
        refine wp_region_held_drew (S := fun W' => KeptC w w.heap.size [.int .i64 ac, .int .i64 ar, .int .i64 sq, .slice a1 ds.length c1, .int .i64 1, .int .i64 nc, .int .i64 nr, .int .i64 pc, .int .i64 pr, .int .i64 fc, .int .i64 fr, .string nm, .string vl] W') (by kernel_rfl) KV2.drew (fun hHeld => ?_)
        obtain ⟨Uk10, eW⟩ : ∃ X, X = wc.drew := ⟨_, rfl⟩
        have IB : Hid (IsB Uk10 u4 (headB ac ar sq 1 ds)) := by rw [eW]; exact IB.out.below ((Below.refl _ _).drew)
        rw [← eW] at hHeld ⊢
        clear eW
        refine wpAnyH_take (i := 0) (oi := ⟨some 27, _, _, _, _, _⟩) (v := ?vk1x0) rfl (by kernel_rfl) (by kernel_rfl) (by kernel_rfl) (fun _ _ _ h => h) (Or.inl ⟨by rfl, ?hyk1x0⟩) hHeld ?restk1x0
        case hyk1x0 => (intro w hSw; (try dsimp only at hSw); have hc0 := hSw.1 0 _ rfl; have hc1 := hSw.1 1 _ rfl; have hc2 := hSw.1 2 _ rfl; have hc3 := hSw.1 3 _ rfl; have hc4 := hSw.1 4 _ rfl; have hc5 := hSw.1 5 _ rfl; have hc6 := hSw.1 6 _ rfl; have hc7 := hSw.1 7 _ rfl; have hc8 := hSw.1 8 _ rfl; have hc9 := hSw.1 9 _ rfl; have hc10 := hSw.1 10 _ rfl; have hc11 := hSw.1 11 _ rfl; have hc12 := hSw.1 12 _ rfl; go_simp; try with_reducible rfl)
        simp only [Act.put, List.setIfInBounds_toArray, List.set_cons_zero, List.set_cons_succ]
        refine wpAnyH_take (i := 1) (oi := ⟨some 28, _, _, _, _, _⟩) (v := ?vk1x1) rfl (by kernel_rfl) (by kernel_rfl) (by kernel_rfl) (fun _ _ _ h => h) (Or.inl ⟨by rfl, ?hyk1x1⟩) hHeld ?restk1x1
        case hyk1x1 => (intro w hSw; (try dsimp only at hSw); have hc0 := hSw.1 0 _ rfl; have hc1 := hSw.1 1 _ rfl; have hc2 := hSw.1 2 _ rfl; have hc3 := hSw.1 3 _ rfl; have hc4 := hSw.1 4 _ rfl; have hc5 := hSw.1 5 _ rfl; have hc6 := hSw.1 6 _ rfl; have hc7 := hSw.1 7 _ rfl; have hc8 := hSw.1 8 _ rfl; have hc9 := hSw.1 9 _ rfl; have hc10 := hSw.1 10 _ rfl; have hc11 := hSw.1 11 _ rfl; have hc12 := hSw.1 12 _ rfl; go_simp; try with_reducible rfl)
        simp only [Act.put, List.setIfInBounds_toArray, List.set_cons_zero, List.set_cons_succ]
        refine wpAnyH_take (i := 2) (oi := ⟨some 29, _, _, _, _, _⟩) (v := ?vk1x2) rfl (by kernel_rfl) (by kernel_rfl) (by kernel_rfl) (fun _ _ _ h => h) (Or.inl ⟨by rfl, ?hyk1x2⟩) hHeld ?restk1x2
        case hyk1x2 => (intro w hSw; (try dsimp only at hSw); have hc0 := hSw.1 0 _ rfl; have hc1 := hSw.1 1 _ rfl; have hc2 := hSw.1 2 _ rfl; have hc3 := hSw.1 3 _ rfl; have hc4 := hSw.1 4 _ rfl; have hc5 := hSw.1 5 _ rfl; have hc6 := hSw.1 6 _ rfl; have hc7 := hSw.1 7 _ rfl; have hc8 := hSw.1 8 _ rfl; have hc9 := hSw.1 9 _ rfl; have hc10 := hSw.1 10 _ rfl; have hc11 := hSw.1 11 _ rfl; have hc12 := hSw.1 12 _ rfl; go_simp; try with_reducible rfl)
        simp only [Act.put, List.setIfInBounds_toArray, List.set_cons_zero, List.set_cons_succ]
        refine wpAnyH_take (i := 4) (oi := ⟨some 31, _, _, _, _, _⟩) (v := ?vk1x4) rfl (by kernel_rfl) (by kernel_rfl) (by kernel_rfl) (fun _ _ _ h => h) (Or.inl ⟨by rfl, ?hyk1x4⟩) hHeld ?restk1x4
        case hyk1x4 => (intro w hSw; (try dsimp only at hSw); have hc0 := hSw.1 0 _ rfl; have hc1 := hSw.1 1 _ rfl; have hc2 := hSw.1 2 _ rfl; have hc3 := hSw.1 3 _ rfl; have hc4 := hSw.1 4 _ rfl; have hc5 := hSw.1 5 _ rfl; have hc6 := hSw.1 6 _ rfl; have hc7 := hSw.1 7 _ rfl; have hc8 := hSw.1 8 _ rfl; have hc9 := hSw.1 9 _ rfl; have hc10 := hSw.1 10 _ rfl; have hc11 := hSw.1 11 _ rfl; have hc12 := hSw.1 12 _ rfl; go_simp; try with_reducible rfl)
        simp only [Act.put, List.setIfInBounds_toArray, List.set_cons_zero, List.set_cons_succ]
        refine wpAnyH_take (i := 5) (oi := ⟨some 32, _, _, _, _, _⟩) (v := ?vk1x5) rfl (by kernel_rfl) (by kernel_rfl) (by kernel_rfl) (fun _ _ _ h => h) (Or.inl ⟨by rfl, ?hyk1x5⟩) hHeld ?restk1x5
        case hyk1x5 => (intro w hSw; (try dsimp only at hSw); have hc0 := hSw.1 0 _ rfl; have hc1 := hSw.1 1 _ rfl; have hc2 := hSw.1 2 _ rfl; have hc3 := hSw.1 3 _ rfl; have hc4 := hSw.1 4 _ rfl; have hc5 := hSw.1 5 _ rfl; have hc6 := hSw.1 6 _ rfl; have hc7 := hSw.1 7 _ rfl; have hc8 := hSw.1 8 _ rfl; have hc9 := hSw.1 9 _ rfl; have hc10 := hSw.1 10 _ rfl; have hc11 := hSw.1 11 _ rfl; have hc12 := hSw.1 12 _ rfl; go_simp; try with_reducible rfl)
        simp only [Act.put, List.setIfInBounds_toArray, List.set_cons_zero, List.set_cons_succ]
        refine wpAnyH_take (i := 7) (oi := ⟨some 34, _, _, _, _, _⟩) (v := ?vk1x7) rfl (by kernel_rfl) (by kernel_rfl) (by kernel_rfl) (fun _ _ _ h => h) (Or.inl ⟨by rfl, ?hyk1x7⟩) hHeld ?restk1x7
        case hyk1x7 => (intro w hSw; (try dsimp only at hSw); have hc0 := hSw.1 0 _ rfl; have hc1 := hSw.1 1 _ rfl; have hc2 := hSw.1 2 _ rfl; have hc3 := hSw.1 3 _ rfl; have hc4 := hSw.1 4 _ rfl; have hc5 := hSw.1 5 _ rfl; have hc6 := hSw.1 6 _ rfl; have hc7 := hSw.1 7 _ rfl; have hc8 := hSw.1 8 _ rfl; have hc9 := hSw.1 9 _ rfl; have hc10 := hSw.1 10 _ rfl; have hc11 := hSw.1 11 _ rfl; have hc12 := hSw.1 12 _ rfl; go_simp; try with_reducible rfl)
        simp only [Act.put, List.setIfInBounds_toArray, List.set_cons_zero, List.set_cons_succ]
        refine wpAnyH_take (i := 8) (oi := ⟨some 35, _, _, _, _, _⟩) (v := ?vk1x8) rfl (by kernel_rfl) (by kernel_rfl) (by kernel_rfl) (fun _ _ _ h => h) (Or.inl ⟨by rfl, ?hyk1x8⟩) hHeld ?restk1x8
        case hyk1x8 => (intro w hSw; (try dsimp only at hSw); have hc0 := hSw.1 0 _ rfl; have hc1 := hSw.1 1 _ rfl; have hc2 := hSw.1 2 _ rfl; have hc3 := hSw.1 3 _ rfl; have hc4 := hSw.1 4 _ rfl; have hc5 := hSw.1 5 _ rfl; have hc6 := hSw.1 6 _ rfl; have hc7 := hSw.1 7 _ rfl; have hc8 := hSw.1 8 _ rfl; have hc9 := hSw.1 9 _ rfl; have hc10 := hSw.1 10 _ rfl; have hc11 := hSw.1 11 _ rfl; have hc12 := hSw.1 12 _ rfl; go_simp; try with_reducible rfl)
        simp only [Act.put, List.setIfInBounds_toArray, List.set_cons_zero, List.set_cons_succ]
        refine wpAnyH_ready (rs := [3]) (by kernel_rfl) (by simp) ?_
        refine AllReadyH.cons (o := ⟨some 30, _, _, _, _, _⟩) rfl (fun K hK => ?_) AllReadyH.nil
        go_simp
        refine (refStampP_any _ _ pc pr _ IB.out HPL.out.1 HPL.out.2 HL1.out).mono ?_
        rintro e Vk11 ⟨v0x, rfl, ho, hb⟩
        (try go_wp2_with fail)
        refine hK.out _ _ (hHeld.step hb) (fun hHeld2 => ?_)
        clear hK K hHeld
        have hHeld := hHeld2
        clear hHeld2
        (try simp only [Act.put, List.setIfInBounds_toArray, List.set_cons_zero, List.set_cons_succ])
        replace IB : Hid (IsB Vk11 u4 (headB ac ar sq 1 ds)) := IB.out.below hb
        have Q0 : Hid (IsB Vk11 v0x (((headB ac ar sq 1 ds) ++ stampP pc pr))) := by
          have h0 := ho
          exact h0.isB (by have := HL2.out; omega)
        clear ho hb
        refine wpAnyH_ready (rs := [6]) (by kernel_rfl) (by simp) ?_
        refine AllReadyH.cons (o := ⟨some 33, _, _, _, _, _⟩) rfl (fun K hK => ?_) AllReadyH.nil
        go_simp
        refine (refStampP_any _ _ fc fr _ Q0.out HFL.out.1 HFL.out.2 HL2.out).mono ?_
        rintro e Vk12 ⟨v1x, rfl, ho, hb⟩
        (try go_wp2_with fail)
        refine hK.out _ _ (hHeld.step hb) (fun hHeld2 => ?_)
        clear hK K hHeld
        have hHeld := hHeld2
        clear hHeld2
        (try simp only [Act.put, List.setIfInBounds_toArray, List.set_cons_zero, List.set_cons_succ])
        replace IB : Hid (IsB Vk12 u4 (headB ac ar sq 1 ds)) := IB.out.below hb
        replace Q0 : Hid (IsB Vk12 v0x (((headB ac ar sq 1 ds) ++ stampP pc pr))) := Q0.out.below hb
        have Q1 : Hid (IsB Vk12 v1x ((((headB ac ar sq 1 ds) ++ stampP pc pr) ++ stampP fc fr))) := by
          have h0 := ho
          exact h0.isB (by have := HL3.out; omega)
        clear ho hb
        refine wpAnyH_ready (rs := [9]) (by kernel_rfl) (by simp) ?_
        refine AllReadyH.cons (o := ⟨some 36, _, _, _, _, _⟩) rfl (fun K hK => ?_) AllReadyH.nil
        go_simp
        have hsz := hHeld.2.2.size
        refine (refPutText_any _ _ nm _ Q1.out HLX3.out).mono ?_
        rintro e Vk13 ⟨v2x, rfl, ho, hb⟩
        (try go_wp2_with fail)
        refine hK.out _ _ (hHeld.step hb) (fun hHeld2 => ?_)
        clear hK K hHeld
        have hHeld := hHeld2
        clear hHeld2
        (try simp only [Act.put, List.setIfInBounds_toArray, List.set_cons_zero, List.set_cons_succ])
        replace IB : Hid (IsB Vk13 u4 (headB ac ar sq 1 ds)) := IB.out.below hb
        replace Q0 : Hid (IsB Vk13 v0x (((headB ac ar sq 1 ds) ++ stampP pc pr))) := Q0.out.below hb
        replace Q1 : Hid (IsB Vk13 v1x ((((headB ac ar sq 1 ds) ++ stampP pc pr) ++ stampP fc fr))) := Q1.out.below hb
        have OZ : Hid (OwnB w.heap.size Vk13 v2x (bytesCh ⟨ac, ar, sq, ds, 1, nc, nr, pc, pr, fc, fr, nm, vl⟩)) := by
          have h0 := ho.cut hsz
          have e0 : textB nm = textP nm.data.toList := by simp [textB, textP]
          rw [e0] at h0
          rw [HEK.out] at h0
          exact h0
        clear ho hb
        refine wpAnyH_take (i := 10) (oi := ⟨some 2, _, _, _, _, _⟩) (v := ?vk1_3_6_9x10) rfl (by kernel_rfl) (by kernel_rfl) (by kernel_rfl) (fun _ _ _ h => h) (Or.inl ⟨by rfl, ?hyk1_3_6_9x10⟩) hHeld ?restk1_3_6_9x10
        case hyk1_3_6_9x10 => (intro w hSw; (try dsimp only at hSw); have hc0 := hSw.1 0 _ rfl; have hc1 := hSw.1 1 _ rfl; have hc2 := hSw.1 2 _ rfl; have hc3 := hSw.1 3 _ rfl; have hc4 := hSw.1 4 _ rfl; have hc5 := hSw.1 5 _ rfl; have hc6 := hSw.1 6 _ rfl; have hc7 := hSw.1 7 _ rfl; have hc8 := hSw.1 8 _ rfl; have hc9 := hSw.1 9 _ rfl; have hc10 := hSw.1 10 _ rfl; have hc11 := hSw.1 11 _ rfl; have hc12 := hSw.1 12 _ rfl; go_simp; try with_reducible rfl)
        simp only [Act.put, List.setIfInBounds_toArray, List.set_cons_zero, List.set_cons_succ]
        refine wpAnyH_take (i := 11) (oi := ⟨some 3, _, _, _, _, _⟩) (v := ?vk1_3_6_9x11) rfl (by kernel_rfl) (by kernel_rfl) (by kernel_rfl) (fun _ _ _ h => h) (Or.inl ⟨by rfl, ?hyk1_3_6_9x11⟩) hHeld ?restk1_3_6_9x11
        case hyk1_3_6_9x11 => (intro w hSw; (try dsimp only at hSw); have hc0 := hSw.1 0 _ rfl; have hc1 := hSw.1 1 _ rfl; have hc2 := hSw.1 2 _ rfl; have hc3 := hSw.1 3 _ rfl; have hc4 := hSw.1 4 _ rfl; have hc5 := hSw.1 5 _ rfl; have hc6 := hSw.1 6 _ rfl; have hc7 := hSw.1 7 _ rfl; have hc8 := hSw.1 8 _ rfl; have hc9 := hSw.1 9 _ rfl; have hc10 := hSw.1 10 _ rfl; have hc11 := hSw.1 11 _ rfl; have hc12 := hSw.1 12 _ rfl; go_simp; try with_reducible rfl)
        simp only [Act.put, List.setIfInBounds_toArray, List.set_cons_zero, List.set_cons_succ]
        refine wpAnyH_done (by kernel_rfl) ?_ _
        have KZ := hHeld
        clear hHeld
        go_wp2
        go_ret2
        exact ⟨_, rfl, OZ.out, KZ.2.2⟩
      · skip
        have HEK : Hid (((((headB ac ar sq 2 ds) ++ stampP nc nr) ++ stampP pc pr) ++ stampP fc fr) = bytesCh ⟨ac, ar, sq, ds, 2, nc, nr, pc, pr, fc, fr, nm, vl⟩) := by show _ = _; rw [bytes_head]; simp [restP]
        have HL3 : Hid (((((headB ac ar sq 2 ds) ++ stampP nc nr) ++ stampP pc pr)).length + (stampP fc fr).length ≤ 140737488355328) := by show _ ≤ _; rw [← List.length_append, HEK.out]; omega
        have HL2 : Hid ((((headB ac ar sq 2 ds) ++ stampP nc nr)).length + (stampP pc pr).length ≤ 140737488355328) := by have h0 := HL3.out; rw [List.length_append] at h0; show _ ≤ _; omega
        have HL1 : Hid (((headB ac ar sq 2 ds)).length + (stampP nc nr).length ≤ 140737488355328) := by have h0 := HL2.out; rw [List.length_append] at h0; show _ ≤ _; omega
        obtain ⟨k_0, k_1, k_2, k_3, k_4, k_5, k_6, k_7, k_8, k_9, k_10, k_11, k_12⟩ := KV2.cells13
        go_upto_region 9 with fail
        clear k_0 k_1 k_2 k_3 k_4 k_5 k_6 k_7 k_8 k_9 k_10 k_11 k_12
        have IB : Hid (IsB wc u4 (headB ac ar sq 2 ds)) := O6.out.isB (by omega)
        refine wp_region_held_drew (S := fun W' => KeptC w w.heap.size [.int .i64 ac, .int .i64 ar, .int .i64 sq, .slice a1 ds.length c1, .int .i64 2, .int .i64 nc, .int .i64 nr, .int .i64 pc, .int .i64 pr, .int .i64 fc, .int .i64 fr, .string nm, .string vl] W') (by kernel_rfl) KV2.drew (fun hHeld => ?_)
        obtain ⟨Uk20, eW⟩ : ∃ X, X = wc.drew := ⟨_, rfl⟩
        have IB : Hid (IsB Uk20 u4 (headB ac ar sq 2 ds)) := by rw [eW]; exact IB.out.below ((Below.refl _ _).drew)
        rw [← eW] at hHeld ⊢
        clear eW
        refine wpAnyH_take (i := 0) (oi := ⟨some 39, _, _, _, _, _⟩) (v := ?vk2x0) rfl (by kernel_rfl) (by kernel_rfl) (by kernel_rfl) (fun _ _ _ h => h) (Or.inl ⟨by rfl, ?hyk2x0⟩) hHeld ?restk2x0
        case hyk2x0 => (intro w hSw; (try dsimp only at hSw); have hc0 := hSw.1 0 _ rfl; have hc1 := hSw.1 1 _ rfl; have hc2 := hSw.1 2 _ rfl; have hc3 := hSw.1 3 _ rfl; have hc4 := hSw.1 4 _ rfl; have hc5 := hSw.1 5 _ rfl; have hc6 := hSw.1 6 _ rfl; have hc7 := hSw.1 7 _ rfl; have hc8 := hSw.1 8 _ rfl; have hc9 := hSw.1 9 _ rfl; have hc10 := hSw.1 10 _ rfl; have hc11 := hSw.1 11 _ rfl; have hc12 := hSw.1 12 _ rfl; go_simp; try with_reducible rfl)
        simp only [Act.put, List.setIfInBounds_toArray, List.set_cons_zero, List.set_cons_succ]
        refine wpAnyH_take (i := 1) (oi := ⟨some 40, _, _, _, _, _⟩) (v := ?vk2x1) rfl (by kernel_rfl) (by kernel_rfl) (by kernel_rfl) (fun _ _ _ h => h) (Or.inl ⟨by rfl, ?hyk2x1⟩) hHeld ?restk2x1
        case hyk2x1 => (intro w hSw; (try dsimp only at hSw); have hc0 := hSw.1 0 _ rfl; have hc1 := hSw.1 1 _ rfl; have hc2 := hSw.1 2 _ rfl; have hc3 := hSw.1 3 _ rfl; have hc4 := hSw.1 4 _ rfl; have hc5 := hSw.1 5 _ rfl; have hc6 := hSw.1 6 _ rfl; have hc7 := hSw.1 7 _ rfl; have hc8 := hSw.1 8 _ rfl; have hc9 := hSw.1 9 _ rfl; have hc10 := hSw.1 10 _ rfl; have hc11 := hSw.1 11 _ rfl; have hc12 := hSw.1 12 _ rfl; go_simp; try with_reducible rfl)
        simp only [Act.put, List.setIfInBounds_toArray, List.set_cons_zero, List.set_cons_succ]
        refine wpAnyH_take (i := 2) (oi := ⟨some 41, _, _, _, _, _⟩) (v := ?vk2x2) rfl (by kernel_rfl) (by kernel_rfl) (by kernel_rfl) (fun _ _ _ h => h) (Or.inl ⟨by rfl, ?hyk2x2⟩) hHeld ?restk2x2
        case hyk2x2 => (intro w hSw; (try dsimp only at hSw); have hc0 := hSw.1 0 _ rfl; have hc1 := hSw.1 1 _ rfl; have hc2 := hSw.1 2 _ rfl; have hc3 := hSw.1 3 _ rfl; have hc4 := hSw.1 4 _ rfl; have hc5 := hSw.1 5 _ rfl; have hc6 := hSw.1 6 _ rfl; have hc7 := hSw.1 7 _ rfl; have hc8 := hSw.1 8 _ rfl; have hc9 := hSw.1 9 _ rfl; have hc10 := hSw.1 10 _ rfl; have hc11 := hSw.1 11 _ rfl; have hc12 := hSw.1 12 _ rfl; go_simp; try with_reducible rfl)
        simp only [Act.put, List.setIfInBounds_toArray, List.set_cons_zero, List.set_cons_succ]
        refine wpAnyH_take (i := 4) (oi := ⟨some 43, _, _, _, _, _⟩) (v := ?vk2x4) rfl (by kernel_rfl) (by kernel_rfl) (by kernel_rfl) (fun _ _ _ h => h) (Or.inl ⟨by rfl, ?hyk2x4⟩) hHeld ?restk2x4
        case hyk2x4 => (intro w hSw; (try dsimp only at hSw); have hc0 := hSw.1 0 _ rfl; have hc1 := hSw.1 1 _ rfl; have hc2 := hSw.1 2 _ rfl; have hc3 := hSw.1 3 _ rfl; have hc4 := hSw.1 4 _ rfl; have hc5 := hSw.1 5 _ rfl; have hc6 := hSw.1 6 _ rfl; have hc7 := hSw.1 7 _ rfl; have hc8 := hSw.1 8 _ rfl; have hc9 := hSw.1 9 _ rfl; have hc10 := hSw.1 10 _ rfl; have hc11 := hSw.1 11 _ rfl; have hc12 := hSw.1 12 _ rfl; go_simp; try with_reducible rfl)
        simp only [Act.put, List.setIfInBounds_toArray, List.set_cons_zero, List.set_cons_succ]
        refine wpAnyH_take (i := 5) (oi := ⟨some 44, _, _, _, _, _⟩) (v := ?vk2x5) rfl (by kernel_rfl) (by kernel_rfl) (by kernel_rfl) (fun _ _ _ h => h) (Or.inl ⟨by rfl, ?hyk2x5⟩) hHeld ?restk2x5
        case hyk2x5 => (intro w hSw; (try dsimp only at hSw); have hc0 := hSw.1 0 _ rfl; have hc1 := hSw.1 1 _ rfl; have hc2 := hSw.1 2 _ rfl; have hc3 := hSw.1 3 _ rfl; have hc4 := hSw.1 4 _ rfl; have hc5 := hSw.1 5 _ rfl; have hc6 := hSw.1 6 _ rfl; have hc7 := hSw.1 7 _ rfl; have hc8 := hSw.1 8 _ rfl; have hc9 := hSw.1 9 _ rfl; have hc10 := hSw.1 10 _ rfl; have hc11 := hSw.1 11 _ rfl; have hc12 := hSw.1 12 _ rfl; go_simp; try with_reducible rfl)
        simp only [Act.put, List.setIfInBounds_toArray, List.set_cons_zero, List.set_cons_succ]
        refine wpAnyH_take (i := 7) (oi := ⟨some 46, _, _, _, _, _⟩) (v := ?vk2x7) rfl (by kernel_rfl) (by kernel_rfl) (by kernel_rfl) (fun _ _ _ h => h) (Or.inl ⟨by rfl, ?hyk2x7⟩) hHeld ?restk2x7
        case hyk2x7 => (intro w hSw; (try dsimp only at hSw); have hc0 := hSw.1 0 _ rfl; have hc1 := hSw.1 1 _ rfl; have hc2 := hSw.1 2 _ rfl; have hc3 := hSw.1 3 _ rfl; have hc4 := hSw.1 4 _ rfl; have hc5 := hSw.1 5 _ rfl; have hc6 := hSw.1 6 _ rfl; have hc7 := hSw.1 7 _ rfl; have hc8 := hSw.1 8 _ rfl; have hc9 := hSw.1 9 _ rfl; have hc10 := hSw.1 10 _ rfl; have hc11 := hSw.1 11 _ rfl; have hc12 := hSw.1 12 _ rfl; go_simp; try with_reducible rfl)
        simp only [Act.put, List.setIfInBounds_toArray, List.set_cons_zero, List.set_cons_succ]
        refine wpAnyH_take (i := 8) (oi := ⟨some 47, _, _, _, _, _⟩) (v := ?vk2x8) rfl (by kernel_rfl) (by kernel_rfl) (by kernel_rfl) (fun _ _ _ h => h) (Or.inl ⟨by rfl, ?hyk2x8⟩) hHeld ?restk2x8
        case hyk2x8 => (intro w hSw; (try dsimp only at hSw); have hc0 := hSw.1 0 _ rfl; have hc1 := hSw.1 1 _ rfl; have hc2 := hSw.1 2 _ rfl; have hc3 := hSw.1 3 _ rfl; have hc4 := hSw.1 4 _ rfl; have hc5 := hSw.1 5 _ rfl; have hc6 := hSw.1 6 _ rfl; have hc7 := hSw.1 7 _ rfl; have hc8 := hSw.1 8 _ rfl; have hc9 := hSw.1 9 _ rfl; have hc10 := hSw.1 10 _ rfl; have hc11 := hSw.1 11 _ rfl; have hc12 := hSw.1 12 _ rfl; go_simp; try with_reducible rfl)
        simp only [Act.put, List.setIfInBounds_toArray, List.set_cons_zero, List.set_cons_succ]
        refine wpAnyH_ready (rs := [3]) (by kernel_rfl) (by simp) ?_
        refine AllReadyH.cons (o := ⟨some 42, _, _, _, _, _⟩) rfl (fun K hK => ?_) AllReadyH.nil
        go_simp
        refine (refStampP_any _ _ nc nr _ IB.out HNL.out.1 HNL.out.2 HL1.out).mono ?_
        rintro e Vk21 ⟨v0x, rfl, ho, hb⟩
        (try go_wp2_with fail)
        refine hK.out _ _ (hHeld.step hb) (fun hHeld2 => ?_)
        clear hK K hHeld
        have hHeld := hHeld2
        clear hHeld2
        (try simp only [Act.put, List.setIfInBounds_toArray, List.set_cons_zero, List.set_cons_succ])
        replace IB : Hid (IsB Vk21 u4 (headB ac ar sq 2 ds)) := IB.out.below hb
        have Q0 : Hid (IsB Vk21 v0x (((headB ac ar sq 2 ds) ++ stampP nc nr))) := by
          have h0 := ho
          exact h0.isB (by have := HL2.out; omega)
        clear ho hb
        refine wpAnyH_ready (rs := [6]) (by kernel_rfl) (by simp) ?_
        refine AllReadyH.cons (o := ⟨some 45, _, _, _, _, _⟩) rfl (fun K hK => ?_) AllReadyH.nil
        go_simp
        refine (refStampP_any _ _ pc pr _ Q0.out HPL.out.1 HPL.out.2 HL2.out).mono ?_
        rintro e Vk22 ⟨v1x, rfl, ho, hb⟩
        (try go_wp2_with fail)
        refine hK.out _ _ (hHeld.step hb) (fun hHeld2 => ?_)
        clear hK K hHeld
        have hHeld := hHeld2
        clear hHeld2
        (try simp only [Act.put, List.setIfInBounds_toArray, List.set_cons_zero, List.set_cons_succ])
        replace IB : Hid (IsB Vk22 u4 (headB ac ar sq 2 ds)) := IB.out.below hb
        replace Q0 : Hid (IsB Vk22 v0x (((headB ac ar sq 2 ds) ++ stampP nc nr))) := Q0.out.below hb
        have Q1 : Hid (IsB Vk22 v1x ((((headB ac ar sq 2 ds) ++ stampP nc nr) ++ stampP pc pr))) := by
          have h0 := ho
          exact h0.isB (by have := HL3.out; omega)
        clear ho hb
        refine wpAnyH_ready (rs := [9]) (by kernel_rfl) (by simp) ?_
        refine AllReadyH.cons (o := ⟨some 48, _, _, _, _, _⟩) rfl (fun K hK => ?_) AllReadyH.nil
        go_simp
        have hsz := hHeld.2.2.size
        refine (refStampP_any _ _ fc fr _ Q1.out HFL.out.1 HFL.out.2 HL3.out).mono ?_
        rintro e Vk23 ⟨v2x, rfl, ho, hb⟩
        (try go_wp2_with fail)
        refine hK.out _ _ (hHeld.step hb) (fun hHeld2 => ?_)
        clear hK K hHeld
        have hHeld := hHeld2
        clear hHeld2
        (try simp only [Act.put, List.setIfInBounds_toArray, List.set_cons_zero, List.set_cons_succ])
        replace IB : Hid (IsB Vk23 u4 (headB ac ar sq 2 ds)) := IB.out.below hb
        replace Q0 : Hid (IsB Vk23 v0x (((headB ac ar sq 2 ds) ++ stampP nc nr))) := Q0.out.below hb
        replace Q1 : Hid (IsB Vk23 v1x ((((headB ac ar sq 2 ds) ++ stampP nc nr) ++ stampP pc pr))) := Q1.out.below hb
        have OZ : Hid (OwnB w.heap.size Vk23 v2x (bytesCh ⟨ac, ar, sq, ds, 2, nc, nr, pc, pr, fc, fr, nm, vl⟩)) := by
          have h0 := ho.cut hsz
          rw [HEK.out] at h0
          exact h0
        clear ho hb
        refine wpAnyH_take (i := 10) (oi := ⟨some 2, _, _, _, _, _⟩) (v := ?vk2_3_6_9x10) rfl (by kernel_rfl) (by kernel_rfl) (by kernel_rfl) (fun _ _ _ h => h) (Or.inl ⟨by rfl, ?hyk2_3_6_9x10⟩) hHeld ?restk2_3_6_9x10
        case hyk2_3_6_9x10 => (intro w hSw; (try dsimp only at hSw); have hc0 := hSw.1 0 _ rfl; have hc1 := hSw.1 1 _ rfl; have hc2 := hSw.1 2 _ rfl; have hc3 := hSw.1 3 _ rfl; have hc4 := hSw.1 4 _ rfl; have hc5 := hSw.1 5 _ rfl; have hc6 := hSw.1 6 _ rfl; have hc7 := hSw.1 7 _ rfl; have hc8 := hSw.1 8 _ rfl; have hc9 := hSw.1 9 _ rfl; have hc10 := hSw.1 10 _ rfl; have hc11 := hSw.1 11 _ rfl; have hc12 := hSw.1 12 _ rfl; go_simp; try with_reducible rfl)
        simp only [Act.put, List.setIfInBounds_toArray, List.set_cons_zero, List.set_cons_succ]
        refine wpAnyH_take (i := 11) (oi := ⟨some 3, _, _, _, _, _⟩) (v := ?vk2_3_6_9x11) rfl (by kernel_rfl) (by kernel_rfl) (by kernel_rfl) (fun _ _ _ h => h) (Or.inl ⟨by rfl, ?hyk2_3_6_9x11⟩) hHeld ?restk2_3_6_9x11
        case hyk2_3_6_9x11 => (intro w hSw; (try dsimp only at hSw); have hc0 := hSw.1 0 _ rfl; have hc1 := hSw.1 1 _ rfl; have hc2 := hSw.1 2 _ rfl; have hc3 := hSw.1 3 _ rfl; have hc4 := hSw.1 4 _ rfl; have hc5 := hSw.1 5 _ rfl; have hc6 := hSw.1 6 _ rfl; have hc7 := hSw.1 7 _ rfl; have hc8 := hSw.1 8 _ rfl; have hc9 := hSw.1 9 _ rfl; have hc10 := hSw.1 10 _ rfl; have hc11 := hSw.1 11 _ rfl; have hc12 := hSw.1 12 _ rfl; go_simp; try with_reducible rfl)
        simp only [Act.put, List.setIfInBounds_toArray, List.set_cons_zero, List.set_cons_succ]
        refine wpAnyH_done (by kernel_rfl) ?_ _
        have KZ := hHeld
        clear hHeld
        go_wp2
        go_ret2
        exact ⟨_, rfl, OZ.out, KZ.2.2⟩
      · skip
        have HEK : Hid (((((headB ac ar sq 3 ds) ++ stampP nc nr) ++ textP nm.data.toList) ++ textP vl.data.toList) = bytesCh ⟨ac, ar, sq, ds, 3, nc, nr, pc, pr, fc, fr, nm, vl⟩) := by show _ = _; rw [bytes_head]; simp [restP]
        have HL3 : Hid (((((headB ac ar sq 3 ds) ++ stampP nc nr) ++ textP nm.data.toList)).length + (textP vl.data.toList).length ≤ 140737488355328) := by show _ ≤ _; rw [← List.length_append, HEK.out]; omega
        have HL2 : Hid ((((headB ac ar sq 3 ds) ++ stampP nc nr)).length + (textP nm.data.toList).length ≤ 140737488355328) := by have h0 := HL3.out; rw [List.length_append] at h0; show _ ≤ _; omega
        have HL1 : Hid (((headB ac ar sq 3 ds)).length + (stampP nc nr).length ≤ 140737488355328) := by have h0 := HL2.out; rw [List.length_append] at h0; show _ ≤ _; omega
        obtain ⟨k_0, k_1, k_2, k_3, k_4, k_5, k_6, k_7, k_8, k_9, k_10, k_11, k_12⟩ := KV2.cells13
        go_upto_region 11 with fail
        clear k_0 k_1 k_2 k_3 k_4 k_5 k_6 k_7 k_8 k_9 k_10 k_11 k_12
        have HLX2 : Hid ((((headB ac ar sq 3 ds) ++ stampP nc nr)).length + (textB nm).length ≤ 140737488355328) := by show _ ≤ _; rw [show textB nm = textP nm.data.toList by simp [textB, textP]]; exact HL2.out
        have HLX3 : Hid (((((headB ac ar sq 3 ds) ++ stampP nc nr) ++ textP nm.data.toList)).length + (textB vl).length ≤ 140737488355328) := by show _ ≤ _; rw [show textB vl = textP vl.data.toList by simp [textB, textP]]; exact HL3.out
        have IB : Hid (IsB wc u4 (headB ac ar sq 3 ds)) := O6.out.isB (by omega)
        refine wp_region_held_drew (S := fun W' => KeptC w w.heap.size [.int .i64 ac, .int .i64 ar, .int .i64 sq, .slice a1 ds.length c1, .int .i64 3, .int .i64 nc, .int .i64 nr, .int .i64 pc, .int .i64 pr, .int .i64 fc, .int .i64 fr, .string nm, .string vl] W') (by kernel_rfl) KV2.drew (fun hHeld => ?_)
        obtain ⟨Uk30, eW⟩ : ∃ X, X = wc.drew := ⟨_, rfl⟩
        have IB : Hid (IsB Uk30 u4 (headB ac ar sq 3 ds)) := by rw [eW]; exact IB.out.below ((Below.refl _ _).drew)
        rw [← eW] at hHeld ⊢
        clear eW
        refine wpAnyH_take (i := 0) (oi := ⟨some 51, _, _, _, _, _⟩) (v := ?vk3x0) rfl (by kernel_rfl) (by kernel_rfl) (by kernel_rfl) (fun _ _ _ h => h) (Or.inl ⟨by rfl, ?hyk3x0⟩) hHeld ?restk3x0
        case hyk3x0 => (intro w hSw; (try dsimp only at hSw); have hc0 := hSw.1 0 _ rfl; have hc1 := hSw.1 1 _ rfl; have hc2 := hSw.1 2 _ rfl; have hc3 := hSw.1 3 _ rfl; have hc4 := hSw.1 4 _ rfl; have hc5 := hSw.1 5 _ rfl; have hc6 := hSw.1 6 _ rfl; have hc7 := hSw.1 7 _ rfl; have hc8 := hSw.1 8 _ rfl; have hc9 := hSw.1 9 _ rfl; have hc10 := hSw.1 10 _ rfl; have hc11 := hSw.1 11 _ rfl; have hc12 := hSw.1 12 _ rfl; go_simp; try with_reducible rfl)
        simp only [Act.put, List.setIfInBounds_toArray, List.set_cons_zero, List.set_cons_succ]
        refine wpAnyH_take (i := 1) (oi := ⟨some 52, _, _, _, _, _⟩) (v := ?vk3x1) rfl (by kernel_rfl) (by kernel_rfl) (by kernel_rfl) (fun _ _ _ h => h) (Or.inl ⟨by rfl, ?hyk3x1⟩) hHeld ?restk3x1
        case hyk3x1 => (intro w hSw; (try dsimp only at hSw); have hc0 := hSw.1 0 _ rfl; have hc1 := hSw.1 1 _ rfl; have hc2 := hSw.1 2 _ rfl; have hc3 := hSw.1 3 _ rfl; have hc4 := hSw.1 4 _ rfl; have hc5 := hSw.1 5 _ rfl; have hc6 := hSw.1 6 _ rfl; have hc7 := hSw.1 7 _ rfl; have hc8 := hSw.1 8 _ rfl; have hc9 := hSw.1 9 _ rfl; have hc10 := hSw.1 10 _ rfl; have hc11 := hSw.1 11 _ rfl; have hc12 := hSw.1 12 _ rfl; go_simp; try with_reducible rfl)
        simp only [Act.put, List.setIfInBounds_toArray, List.set_cons_zero, List.set_cons_succ]
        refine wpAnyH_take (i := 2) (oi := ⟨some 53, _, _, _, _, _⟩) (v := ?vk3x2) rfl (by kernel_rfl) (by kernel_rfl) (by kernel_rfl) (fun _ _ _ h => h) (Or.inl ⟨by rfl, ?hyk3x2⟩) hHeld ?restk3x2
        case hyk3x2 => (intro w hSw; (try dsimp only at hSw); have hc0 := hSw.1 0 _ rfl; have hc1 := hSw.1 1 _ rfl; have hc2 := hSw.1 2 _ rfl; have hc3 := hSw.1 3 _ rfl; have hc4 := hSw.1 4 _ rfl; have hc5 := hSw.1 5 _ rfl; have hc6 := hSw.1 6 _ rfl; have hc7 := hSw.1 7 _ rfl; have hc8 := hSw.1 8 _ rfl; have hc9 := hSw.1 9 _ rfl; have hc10 := hSw.1 10 _ rfl; have hc11 := hSw.1 11 _ rfl; have hc12 := hSw.1 12 _ rfl; go_simp; try with_reducible rfl)
        simp only [Act.put, List.setIfInBounds_toArray, List.set_cons_zero, List.set_cons_succ]
        refine wpAnyH_take (i := 4) (oi := ⟨some 55, _, _, _, _, _⟩) (v := ?vk3x4) rfl (by kernel_rfl) (by kernel_rfl) (by kernel_rfl) (fun _ _ _ h => h) (Or.inl ⟨by rfl, ?hyk3x4⟩) hHeld ?restk3x4
        case hyk3x4 => (intro w hSw; (try dsimp only at hSw); have hc0 := hSw.1 0 _ rfl; have hc1 := hSw.1 1 _ rfl; have hc2 := hSw.1 2 _ rfl; have hc3 := hSw.1 3 _ rfl; have hc4 := hSw.1 4 _ rfl; have hc5 := hSw.1 5 _ rfl; have hc6 := hSw.1 6 _ rfl; have hc7 := hSw.1 7 _ rfl; have hc8 := hSw.1 8 _ rfl; have hc9 := hSw.1 9 _ rfl; have hc10 := hSw.1 10 _ rfl; have hc11 := hSw.1 11 _ rfl; have hc12 := hSw.1 12 _ rfl; go_simp; try with_reducible rfl)
        simp only [Act.put, List.setIfInBounds_toArray, List.set_cons_zero, List.set_cons_succ]
        refine wpAnyH_take (i := 5) (oi := ⟨some 56, _, _, _, _, _⟩) (v := ?vk3x5) rfl (by kernel_rfl) (by kernel_rfl) (by kernel_rfl) (fun _ _ _ h => h) (Or.inl ⟨by rfl, ?hyk3x5⟩) hHeld ?restk3x5
        case hyk3x5 => (intro w hSw; (try dsimp only at hSw); have hc0 := hSw.1 0 _ rfl; have hc1 := hSw.1 1 _ rfl; have hc2 := hSw.1 2 _ rfl; have hc3 := hSw.1 3 _ rfl; have hc4 := hSw.1 4 _ rfl; have hc5 := hSw.1 5 _ rfl; have hc6 := hSw.1 6 _ rfl; have hc7 := hSw.1 7 _ rfl; have hc8 := hSw.1 8 _ rfl; have hc9 := hSw.1 9 _ rfl; have hc10 := hSw.1 10 _ rfl; have hc11 := hSw.1 11 _ rfl; have hc12 := hSw.1 12 _ rfl; go_simp; try with_reducible rfl)
        simp only [Act.put, List.setIfInBounds_toArray, List.set_cons_zero, List.set_cons_succ]
        refine wpAnyH_take (i := 7) (oi := ⟨some 58, _, _, _, _, _⟩) (v := ?vk3x7) rfl (by kernel_rfl) (by kernel_rfl) (by kernel_rfl) (fun _ _ _ h => h) (Or.inl ⟨by rfl, ?hyk3x7⟩) hHeld ?restk3x7
        case hyk3x7 => (intro w hSw; (try dsimp only at hSw); have hc0 := hSw.1 0 _ rfl; have hc1 := hSw.1 1 _ rfl; have hc2 := hSw.1 2 _ rfl; have hc3 := hSw.1 3 _ rfl; have hc4 := hSw.1 4 _ rfl; have hc5 := hSw.1 5 _ rfl; have hc6 := hSw.1 6 _ rfl; have hc7 := hSw.1 7 _ rfl; have hc8 := hSw.1 8 _ rfl; have hc9 := hSw.1 9 _ rfl; have hc10 := hSw.1 10 _ rfl; have hc11 := hSw.1 11 _ rfl; have hc12 := hSw.1 12 _ rfl; go_simp; try with_reducible rfl)
        simp only [Act.put, List.setIfInBounds_toArray, List.set_cons_zero, List.set_cons_succ]
        refine wpAnyH_take (i := 8) (oi := ⟨some 59, _, _, _, _, _⟩) (v := ?vk3x8) rfl (by kernel_rfl) (by kernel_rfl) (by kernel_rfl) (fun _ _ _ h => h) (Or.inl ⟨by rfl, ?hyk3x8⟩) hHeld ?restk3x8
        case hyk3x8 => (intro w hSw; (try dsimp only at hSw); have hc0 := hSw.1 0 _ rfl; have hc1 := hSw.1 1 _ rfl; have hc2 := hSw.1 2 _ rfl; have hc3 := hSw.1 3 _ rfl; have hc4 := hSw.1 4 _ rfl; have hc5 := hSw.1 5 _ rfl; have hc6 := hSw.1 6 _ rfl; have hc7 := hSw.1 7 _ rfl; have hc8 := hSw.1 8 _ rfl; have hc9 := hSw.1 9 _ rfl; have hc10 := hSw.1 10 _ rfl; have hc11 := hSw.1 11 _ rfl; have hc12 := hSw.1 12 _ rfl; go_simp; try with_reducible rfl)
        simp only [Act.put, List.setIfInBounds_toArray, List.set_cons_zero, List.set_cons_succ]
        refine wpAnyH_ready (rs := [3]) (by kernel_rfl) (by simp) ?_
        refine AllReadyH.cons (o := ⟨some 54, _, _, _, _, _⟩) rfl (fun K hK => ?_) AllReadyH.nil
        go_simp
        refine (refStampP_any _ _ nc nr _ IB.out HNL.out.1 HNL.out.2 HL1.out).mono ?_
        rintro e Vk31 ⟨v0x, rfl, ho, hb⟩
        (try go_wp2_with fail)
        refine hK.out _ _ (hHeld.step hb) (fun hHeld2 => ?_)
        clear hK K hHeld
        have hHeld := hHeld2
        clear hHeld2
        (try simp only [Act.put, List.setIfInBounds_toArray, List.set_cons_zero, List.set_cons_succ])
        replace IB : Hid (IsB Vk31 u4 (headB ac ar sq 3 ds)) := IB.out.below hb
        have Q0 : Hid (IsB Vk31 v0x (((headB ac ar sq 3 ds) ++ stampP nc nr))) := by
          have h0 := ho
          exact h0.isB (by have := HL2.out; omega)
        clear ho hb
        refine wpAnyH_ready (rs := [6]) (by kernel_rfl) (by simp) ?_
        refine AllReadyH.cons (o := ⟨some 57, _, _, _, _, _⟩) rfl (fun K hK => ?_) AllReadyH.nil
        go_simp
        refine (refPutText_any _ _ nm _ Q0.out HLX2.out).mono ?_
        rintro e Vk32 ⟨v1x, rfl, ho, hb⟩
        (try go_wp2_with fail)
        refine hK.out _ _ (hHeld.step hb) (fun hHeld2 => ?_)
        clear hK K hHeld
        have hHeld := hHeld2
        clear hHeld2
        (try simp only [Act.put, List.setIfInBounds_toArray, List.set_cons_zero, List.set_cons_succ])
        replace IB : Hid (IsB Vk32 u4 (headB ac ar sq 3 ds)) := IB.out.below hb
        replace Q0 : Hid (IsB Vk32 v0x (((headB ac ar sq 3 ds) ++ stampP nc nr))) := Q0.out.below hb
        have Q1 : Hid (IsB Vk32 v1x ((((headB ac ar sq 3 ds) ++ stampP nc nr) ++ textP nm.data.toList))) := by
          have h0 := ho
          have e0 : textB nm = textP nm.data.toList := by simp [textB, textP]
          rw [e0] at h0
          exact h0.isB (by have := HL3.out; omega)
        clear ho hb
        refine wpAnyH_ready (rs := [9]) (by kernel_rfl) (by simp) ?_
        refine AllReadyH.cons (o := ⟨some 60, _, _, _, _, _⟩) rfl (fun K hK => ?_) AllReadyH.nil
        go_simp
        have hsz := hHeld.2.2.size
        refine (refPutText_any _ _ vl _ Q1.out HLX3.out).mono ?_
        rintro e Vk33 ⟨v2x, rfl, ho, hb⟩
        (try go_wp2_with fail)
        refine hK.out _ _ (hHeld.step hb) (fun hHeld2 => ?_)
        clear hK K hHeld
        have hHeld := hHeld2
        clear hHeld2
        (try simp only [Act.put, List.setIfInBounds_toArray, List.set_cons_zero, List.set_cons_succ])
        replace IB : Hid (IsB Vk33 u4 (headB ac ar sq 3 ds)) := IB.out.below hb
        replace Q0 : Hid (IsB Vk33 v0x (((headB ac ar sq 3 ds) ++ stampP nc nr))) := Q0.out.below hb
        replace Q1 : Hid (IsB Vk33 v1x ((((headB ac ar sq 3 ds) ++ stampP nc nr) ++ textP nm.data.toList))) := Q1.out.below hb
        have OZ : Hid (OwnB w.heap.size Vk33 v2x (bytesCh ⟨ac, ar, sq, ds, 3, nc, nr, pc, pr, fc, fr, nm, vl⟩)) := by
          have h0 := ho.cut hsz
          have e0 : textB vl = textP vl.data.toList := by simp [textB, textP]
          rw [e0] at h0
          rw [HEK.out] at h0
          exact h0
        clear ho hb
        refine wpAnyH_take (i := 10) (oi := ⟨some 2, _, _, _, _, _⟩) (v := ?vk3_3_6_9x10) rfl (by kernel_rfl) (by kernel_rfl) (by kernel_rfl) (fun _ _ _ h => h) (Or.inl ⟨by rfl, ?hyk3_3_6_9x10⟩) hHeld ?restk3_3_6_9x10
        case hyk3_3_6_9x10 => (intro w hSw; (try dsimp only at hSw); have hc0 := hSw.1 0 _ rfl; have hc1 := hSw.1 1 _ rfl; have hc2 := hSw.1 2 _ rfl; have hc3 := hSw.1 3 _ rfl; have hc4 := hSw.1 4 _ rfl; have hc5 := hSw.1 5 _ rfl; have hc6 := hSw.1 6 _ rfl; have hc7 := hSw.1 7 _ rfl; have hc8 := hSw.1 8 _ rfl; have hc9 := hSw.1 9 _ rfl; have hc10 := hSw.1 10 _ rfl; have hc11 := hSw.1 11 _ rfl; have hc12 := hSw.1 12 _ rfl; go_simp; try with_reducible rfl)
        simp only [Act.put, List.setIfInBounds_toArray, List.set_cons_zero, List.set_cons_succ]
        refine wpAnyH_take (i := 11) (oi := ⟨some 3, _, _, _, _, _⟩) (v := ?vk3_3_6_9x11) rfl (by kernel_rfl) (by kernel_rfl) (by kernel_rfl) (fun _ _ _ h => h) (Or.inl ⟨by rfl, ?hyk3_3_6_9x11⟩) hHeld ?restk3_3_6_9x11
        case hyk3_3_6_9x11 => (intro w hSw; (try dsimp only at hSw); have hc0 := hSw.1 0 _ rfl; have hc1 := hSw.1 1 _ rfl; have hc2 := hSw.1 2 _ rfl; have hc3 := hSw.1 3 _ rfl; have hc4 := hSw.1 4 _ rfl; have hc5 := hSw.1 5 _ rfl; have hc6 := hSw.1 6 _ rfl; have hc7 := hSw.1 7 _ rfl; have hc8 := hSw.1 8 _ rfl; have hc9 := hSw.1 9 _ rfl; have hc10 := hSw.1 10 _ rfl; have hc11 := hSw.1 11 _ rfl; have hc12 := hSw.1 12 _ rfl; go_simp; try with_reducible rfl)
        simp only [Act.put, List.setIfInBounds_toArray, List.set_cons_zero, List.set_cons_succ]
        refine wpAnyH_done (by kernel_rfl) ?_ _
        have KZ := hHeld
        clear hHeld
        go_wp2
        go_ret2
        exact ⟨_, rfl, OZ.out, KZ.2.2⟩
      · skip
        have HEK : Hid ((((headB ac ar sq 4 ds) ++ stampP nc nr) ++ textP nm.data.toList) = bytesCh ⟨ac, ar, sq, ds, 4, nc, nr, pc, pr, fc, fr, nm, vl⟩) := by show _ = _; rw [bytes_head]; simp [restP]
        have HL2 : Hid ((((headB ac ar sq 4 ds) ++ stampP nc nr)).length + (textP nm.data.toList).length ≤ 140737488355328) := by show _ ≤ _; rw [← List.length_append, HEK.out]; omega
        have HL1 : Hid (((headB ac ar sq 4 ds)).length + (stampP nc nr).length ≤ 140737488355328) := by have h0 := HL2.out; rw [List.length_append] at h0; show _ ≤ _; omega
        obtain ⟨k_0, k_1, k_2, k_3, k_4, k_5, k_6, k_7, k_8, k_9, k_10, k_11, k_12⟩ := KV2.cells13
        go_upto_region 13 with fail
        clear k_0 k_1 k_2 k_3 k_4 k_5 k_6 k_7 k_8 k_9 k_10 k_11 k_12
        have HLX2 : Hid ((((headB ac ar sq 4 ds) ++ stampP nc nr)).length + (textB nm).length ≤ 140737488355328) := by show _ ≤ _; rw [show textB nm = textP nm.data.toList by simp [textB, textP]]; exact HL2.out
        have IB : Hid (IsB wc u4 (headB ac ar sq 4 ds)) := O6.out.isB (by omega)
        refine wp_region_held_drew (S := fun W' => KeptC w w.heap.size [.int .i64 ac, .int .i64 ar, .int .i64 sq, .slice a1 ds.length c1, .int .i64 4, .int .i64 nc, .int .i64 nr, .int .i64 pc, .int .i64 pr, .int .i64 fc, .int .i64 fr, .string nm, .string vl] W') (by kernel_rfl) KV2.drew (fun hHeld => ?_)
        obtain ⟨Uk40, eW⟩ : ∃ X, X = wc.drew := ⟨_, rfl⟩
        have IB : Hid (IsB Uk40 u4 (headB ac ar sq 4 ds)) := by rw [eW]; exact IB.out.below ((Below.refl _ _).drew)
        rw [← eW] at hHeld ⊢
        clear eW
        refine wpAnyH_take (i := 0) (oi := ⟨some 63, _, _, _, _, _⟩) (v := ?vk4x0) rfl (by kernel_rfl) (by kernel_rfl) (by kernel_rfl) (fun _ _ _ h => h) (Or.inl ⟨by rfl, ?hyk4x0⟩) hHeld ?restk4x0
        case hyk4x0 => (intro w hSw; (try dsimp only at hSw); have hc0 := hSw.1 0 _ rfl; have hc1 := hSw.1 1 _ rfl; have hc2 := hSw.1 2 _ rfl; have hc3 := hSw.1 3 _ rfl; have hc4 := hSw.1 4 _ rfl; have hc5 := hSw.1 5 _ rfl; have hc6 := hSw.1 6 _ rfl; have hc7 := hSw.1 7 _ rfl; have hc8 := hSw.1 8 _ rfl; have hc9 := hSw.1 9 _ rfl; have hc10 := hSw.1 10 _ rfl; have hc11 := hSw.1 11 _ rfl; have hc12 := hSw.1 12 _ rfl; go_simp; try with_reducible rfl)
        simp only [Act.put, List.setIfInBounds_toArray, List.set_cons_zero, List.set_cons_succ]
        refine wpAnyH_take (i := 1) (oi := ⟨some 64, _, _, _, _, _⟩) (v := ?vk4x1) rfl (by kernel_rfl) (by kernel_rfl) (by kernel_rfl) (fun _ _ _ h => h) (Or.inl ⟨by rfl, ?hyk4x1⟩) hHeld ?restk4x1
        case hyk4x1 => (intro w hSw; (try dsimp only at hSw); have hc0 := hSw.1 0 _ rfl; have hc1 := hSw.1 1 _ rfl; have hc2 := hSw.1 2 _ rfl; have hc3 := hSw.1 3 _ rfl; have hc4 := hSw.1 4 _ rfl; have hc5 := hSw.1 5 _ rfl; have hc6 := hSw.1 6 _ rfl; have hc7 := hSw.1 7 _ rfl; have hc8 := hSw.1 8 _ rfl; have hc9 := hSw.1 9 _ rfl; have hc10 := hSw.1 10 _ rfl; have hc11 := hSw.1 11 _ rfl; have hc12 := hSw.1 12 _ rfl; go_simp; try with_reducible rfl)
        simp only [Act.put, List.setIfInBounds_toArray, List.set_cons_zero, List.set_cons_succ]
        refine wpAnyH_take (i := 2) (oi := ⟨some 65, _, _, _, _, _⟩) (v := ?vk4x2) rfl (by kernel_rfl) (by kernel_rfl) (by kernel_rfl) (fun _ _ _ h => h) (Or.inl ⟨by rfl, ?hyk4x2⟩) hHeld ?restk4x2
        case hyk4x2 => (intro w hSw; (try dsimp only at hSw); have hc0 := hSw.1 0 _ rfl; have hc1 := hSw.1 1 _ rfl; have hc2 := hSw.1 2 _ rfl; have hc3 := hSw.1 3 _ rfl; have hc4 := hSw.1 4 _ rfl; have hc5 := hSw.1 5 _ rfl; have hc6 := hSw.1 6 _ rfl; have hc7 := hSw.1 7 _ rfl; have hc8 := hSw.1 8 _ rfl; have hc9 := hSw.1 9 _ rfl; have hc10 := hSw.1 10 _ rfl; have hc11 := hSw.1 11 _ rfl; have hc12 := hSw.1 12 _ rfl; go_simp; try with_reducible rfl)
        simp only [Act.put, List.setIfInBounds_toArray, List.set_cons_zero, List.set_cons_succ]
        refine wpAnyH_take (i := 4) (oi := ⟨some 67, _, _, _, _, _⟩) (v := ?vk4x4) rfl (by kernel_rfl) (by kernel_rfl) (by kernel_rfl) (fun _ _ _ h => h) (Or.inl ⟨by rfl, ?hyk4x4⟩) hHeld ?restk4x4
        case hyk4x4 => (intro w hSw; (try dsimp only at hSw); have hc0 := hSw.1 0 _ rfl; have hc1 := hSw.1 1 _ rfl; have hc2 := hSw.1 2 _ rfl; have hc3 := hSw.1 3 _ rfl; have hc4 := hSw.1 4 _ rfl; have hc5 := hSw.1 5 _ rfl; have hc6 := hSw.1 6 _ rfl; have hc7 := hSw.1 7 _ rfl; have hc8 := hSw.1 8 _ rfl; have hc9 := hSw.1 9 _ rfl; have hc10 := hSw.1 10 _ rfl; have hc11 := hSw.1 11 _ rfl; have hc12 := hSw.1 12 _ rfl; go_simp; try with_reducible rfl)
        simp only [Act.put, List.setIfInBounds_toArray, List.set_cons_zero, List.set_cons_succ]
        refine wpAnyH_take (i := 5) (oi := ⟨some 68, _, _, _, _, _⟩) (v := ?vk4x5) rfl (by kernel_rfl) (by kernel_rfl) (by kernel_rfl) (fun _ _ _ h => h) (Or.inl ⟨by rfl, ?hyk4x5⟩) hHeld ?restk4x5
        case hyk4x5 => (intro w hSw; (try dsimp only at hSw); have hc0 := hSw.1 0 _ rfl; have hc1 := hSw.1 1 _ rfl; have hc2 := hSw.1 2 _ rfl; have hc3 := hSw.1 3 _ rfl; have hc4 := hSw.1 4 _ rfl; have hc5 := hSw.1 5 _ rfl; have hc6 := hSw.1 6 _ rfl; have hc7 := hSw.1 7 _ rfl; have hc8 := hSw.1 8 _ rfl; have hc9 := hSw.1 9 _ rfl; have hc10 := hSw.1 10 _ rfl; have hc11 := hSw.1 11 _ rfl; have hc12 := hSw.1 12 _ rfl; go_simp; try with_reducible rfl)
        simp only [Act.put, List.setIfInBounds_toArray, List.set_cons_zero, List.set_cons_succ]
        refine wpAnyH_ready (rs := [3]) (by kernel_rfl) (by simp) ?_
        refine AllReadyH.cons (o := ⟨some 66, _, _, _, _, _⟩) rfl (fun K hK => ?_) AllReadyH.nil
        go_simp
        refine (refStampP_any _ _ nc nr _ IB.out HNL.out.1 HNL.out.2 HL1.out).mono ?_
        rintro e Vk41 ⟨v0x, rfl, ho, hb⟩
        (try go_wp2_with fail)
        refine hK.out _ _ (hHeld.step hb) (fun hHeld2 => ?_)
        clear hK K hHeld
        have hHeld := hHeld2
        clear hHeld2
        (try simp only [Act.put, List.setIfInBounds_toArray, List.set_cons_zero, List.set_cons_succ])
        replace IB : Hid (IsB Vk41 u4 (headB ac ar sq 4 ds)) := IB.out.below hb
        have Q0 : Hid (IsB Vk41 v0x (((headB ac ar sq 4 ds) ++ stampP nc nr))) := by
          have h0 := ho
          exact h0.isB (by have := HL2.out; omega)
        clear ho hb
        refine wpAnyH_ready (rs := [6]) (by kernel_rfl) (by simp) ?_
        refine AllReadyH.cons (o := ⟨some 69, _, _, _, _, _⟩) rfl (fun K hK => ?_) AllReadyH.nil
        go_simp
        have hsz := hHeld.2.2.size
        refine (refPutText_any _ _ nm _ Q0.out HLX2.out).mono ?_
        rintro e Vk42 ⟨v1x, rfl, ho, hb⟩
        (try go_wp2_with fail)
        refine hK.out _ _ (hHeld.step hb) (fun hHeld2 => ?_)
        clear hK K hHeld
        have hHeld := hHeld2
        clear hHeld2
        (try simp only [Act.put, List.setIfInBounds_toArray, List.set_cons_zero, List.set_cons_succ])
        replace IB : Hid (IsB Vk42 u4 (headB ac ar sq 4 ds)) := IB.out.below hb
        replace Q0 : Hid (IsB Vk42 v0x (((headB ac ar sq 4 ds) ++ stampP nc nr))) := Q0.out.below hb
        have OZ : Hid (OwnB w.heap.size Vk42 v1x (bytesCh ⟨ac, ar, sq, ds, 4, nc, nr, pc, pr, fc, fr, nm, vl⟩)) := by
          have h0 := ho.cut hsz
          have e0 : textB nm = textP nm.data.toList := by simp [textB, textP]
          rw [e0] at h0
          rw [HEK.out] at h0
          exact h0
        clear ho hb
        refine wpAnyH_take (i := 7) (oi := ⟨some 2, _, _, _, _, _⟩) (v := ?vk4_3_6x7) rfl (by kernel_rfl) (by kernel_rfl) (by kernel_rfl) (fun _ _ _ h => h) (Or.inl ⟨by rfl, ?hyk4_3_6x7⟩) hHeld ?restk4_3_6x7
        case hyk4_3_6x7 => (intro w hSw; (try dsimp only at hSw); have hc0 := hSw.1 0 _ rfl; have hc1 := hSw.1 1 _ rfl; have hc2 := hSw.1 2 _ rfl; have hc3 := hSw.1 3 _ rfl; have hc4 := hSw.1 4 _ rfl; have hc5 := hSw.1 5 _ rfl; have hc6 := hSw.1 6 _ rfl; have hc7 := hSw.1 7 _ rfl; have hc8 := hSw.1 8 _ rfl; have hc9 := hSw.1 9 _ rfl; have hc10 := hSw.1 10 _ rfl; have hc11 := hSw.1 11 _ rfl; have hc12 := hSw.1 12 _ rfl; go_simp; try with_reducible rfl)
        simp only [Act.put, List.setIfInBounds_toArray, List.set_cons_zero, List.set_cons_succ]
        refine wpAnyH_take (i := 8) (oi := ⟨some 3, _, _, _, _, _⟩) (v := ?vk4_3_6x8) rfl (by kernel_rfl) (by kernel_rfl) (by kernel_rfl) (fun _ _ _ h => h) (Or.inl ⟨by rfl, ?hyk4_3_6x8⟩) hHeld ?restk4_3_6x8
        case hyk4_3_6x8 => (intro w hSw; (try dsimp only at hSw); have hc0 := hSw.1 0 _ rfl; have hc1 := hSw.1 1 _ rfl; have hc2 := hSw.1 2 _ rfl; have hc3 := hSw.1 3 _ rfl; have hc4 := hSw.1 4 _ rfl; have hc5 := hSw.1 5 _ rfl; have hc6 := hSw.1 6 _ rfl; have hc7 := hSw.1 7 _ rfl; have hc8 := hSw.1 8 _ rfl; have hc9 := hSw.1 9 _ rfl; have hc10 := hSw.1 10 _ rfl; have hc11 := hSw.1 11 _ rfl; have hc12 := hSw.1 12 _ rfl; go_simp; try with_reducible rfl)
        simp only [Act.put, List.setIfInBounds_toArray, List.set_cons_zero, List.set_cons_succ]
        refine wpAnyH_done (by kernel_rfl) ?_ _
        have KZ := hHeld
        clear hHeld
        go_wp2
        go_ret2
        exact ⟨_, rfl, OZ.out, KZ.2.2⟩
      · skip
        have HEK : Hid ((((headB ac ar sq 5 ds) ++ stampP nc nr) ++ textP vl.data.toList) = bytesCh ⟨ac, ar, sq, ds, 5, nc, nr, pc, pr, fc, fr, nm, vl⟩) := by show _ = _; rw [bytes_head]; simp [restP]
        have HL2 : Hid ((((headB ac ar sq 5 ds) ++ stampP nc nr)).length + (textP vl.data.toList).length ≤ 140737488355328) := by show _ ≤ _; rw [← List.length_append, HEK.out]; omega
        have HL1 : Hid (((headB ac ar sq 5 ds)).length + (stampP nc nr).length ≤ 140737488355328) := by have h0 := HL2.out; rw [List.length_append] at h0; show _ ≤ _; omega
        obtain ⟨k_0, k_1, k_2, k_3, k_4, k_5, k_6, k_7, k_8, k_9, k_10, k_11, k_12⟩ := KV2.cells13
        go_upto_region 14 with fail
        clear k_0 k_1 k_2 k_3 k_4 k_5 k_6 k_7 k_8 k_9 k_10 k_11 k_12
        have HLX2 : Hid ((((headB ac ar sq 5 ds) ++ stampP nc nr)).length + (textB vl).length ≤ 140737488355328) := by show _ ≤ _; rw [show textB vl = textP vl.data.toList by simp [textB, textP]]; exact HL2.out
        have IB : Hid (IsB wc u4 (headB ac ar sq 5 ds)) := O6.out.isB (by omega)
        refine wp_region_held_drew (S := fun W' => KeptC w w.heap.size [.int .i64 ac, .int .i64 ar, .int .i64 sq, .slice a1 ds.length c1, .int .i64 5, .int .i64 nc, .int .i64 nr, .int .i64 pc, .int .i64 pr, .int .i64 fc, .int .i64 fr, .string nm, .string vl] W') (by kernel_rfl) KV2.drew (fun hHeld => ?_)
        obtain ⟨Uk50, eW⟩ : ∃ X, X = wc.drew := ⟨_, rfl⟩
        have IB : Hid (IsB Uk50 u4 (headB ac ar sq 5 ds)) := by rw [eW]; exact IB.out.below ((Below.refl _ _).drew)
        rw [← eW] at hHeld ⊢
        clear eW
        refine wpAnyH_take (i := 0) (oi := ⟨some 70, _, _, _, _, _⟩) (v := ?vk5x0) rfl (by kernel_rfl) (by kernel_rfl) (by kernel_rfl) (fun _ _ _ h => h) (Or.inl ⟨by rfl, ?hyk5x0⟩) hHeld ?restk5x0
        case hyk5x0 => (intro w hSw; (try dsimp only at hSw); have hc0 := hSw.1 0 _ rfl; have hc1 := hSw.1 1 _ rfl; have hc2 := hSw.1 2 _ rfl; have hc3 := hSw.1 3 _ rfl; have hc4 := hSw.1 4 _ rfl; have hc5 := hSw.1 5 _ rfl; have hc6 := hSw.1 6 _ rfl; have hc7 := hSw.1 7 _ rfl; have hc8 := hSw.1 8 _ rfl; have hc9 := hSw.1 9 _ rfl; have hc10 := hSw.1 10 _ rfl; have hc11 := hSw.1 11 _ rfl; have hc12 := hSw.1 12 _ rfl; go_simp; try with_reducible rfl)
        simp only [Act.put, List.setIfInBounds_toArray, List.set_cons_zero, List.set_cons_succ]
        refine wpAnyH_take (i := 1) (oi := ⟨some 71, _, _, _, _, _⟩) (v := ?vk5x1) rfl (by kernel_rfl) (by kernel_rfl) (by kernel_rfl) (fun _ _ _ h => h) (Or.inl ⟨by rfl, ?hyk5x1⟩) hHeld ?restk5x1
        case hyk5x1 => (intro w hSw; (try dsimp only at hSw); have hc0 := hSw.1 0 _ rfl; have hc1 := hSw.1 1 _ rfl; have hc2 := hSw.1 2 _ rfl; have hc3 := hSw.1 3 _ rfl; have hc4 := hSw.1 4 _ rfl; have hc5 := hSw.1 5 _ rfl; have hc6 := hSw.1 6 _ rfl; have hc7 := hSw.1 7 _ rfl; have hc8 := hSw.1 8 _ rfl; have hc9 := hSw.1 9 _ rfl; have hc10 := hSw.1 10 _ rfl; have hc11 := hSw.1 11 _ rfl; have hc12 := hSw.1 12 _ rfl; go_simp; try with_reducible rfl)
        simp only [Act.put, List.setIfInBounds_toArray, List.set_cons_zero, List.set_cons_succ]
        refine wpAnyH_take (i := 2) (oi := ⟨some 72, _, _, _, _, _⟩) (v := ?vk5x2) rfl (by kernel_rfl) (by kernel_rfl) (by kernel_rfl) (fun _ _ _ h => h) (Or.inl ⟨by rfl, ?hyk5x2⟩) hHeld ?restk5x2
        case hyk5x2 => (intro w hSw; (try dsimp only at hSw); have hc0 := hSw.1 0 _ rfl; have hc1 := hSw.1 1 _ rfl; have hc2 := hSw.1 2 _ rfl; have hc3 := hSw.1 3 _ rfl; have hc4 := hSw.1 4 _ rfl; have hc5 := hSw.1 5 _ rfl; have hc6 := hSw.1 6 _ rfl; have hc7 := hSw.1 7 _ rfl; have hc8 := hSw.1 8 _ rfl; have hc9 := hSw.1 9 _ rfl; have hc10 := hSw.1 10 _ rfl; have hc11 := hSw.1 11 _ rfl; have hc12 := hSw.1 12 _ rfl; go_simp; try with_reducible rfl)
        simp only [Act.put, List.setIfInBounds_toArray, List.set_cons_zero, List.set_cons_succ]
        refine wpAnyH_take (i := 4) (oi := ⟨some 74, _, _, _, _, _⟩) (v := ?vk5x4) rfl (by kernel_rfl) (by kernel_rfl) (by kernel_rfl) (fun _ _ _ h => h) (Or.inl ⟨by rfl, ?hyk5x4⟩) hHeld ?restk5x4
        case hyk5x4 => (intro w hSw; (try dsimp only at hSw); have hc0 := hSw.1 0 _ rfl; have hc1 := hSw.1 1 _ rfl; have hc2 := hSw.1 2 _ rfl; have hc3 := hSw.1 3 _ rfl; have hc4 := hSw.1 4 _ rfl; have hc5 := hSw.1 5 _ rfl; have hc6 := hSw.1 6 _ rfl; have hc7 := hSw.1 7 _ rfl; have hc8 := hSw.1 8 _ rfl; have hc9 := hSw.1 9 _ rfl; have hc10 := hSw.1 10 _ rfl; have hc11 := hSw.1 11 _ rfl; have hc12 := hSw.1 12 _ rfl; go_simp; try with_reducible rfl)
        simp only [Act.put, List.setIfInBounds_toArray, List.set_cons_zero, List.set_cons_succ]
        refine wpAnyH_take (i := 5) (oi := ⟨some 75, _, _, _, _, _⟩) (v := ?vk5x5) rfl (by kernel_rfl) (by kernel_rfl) (by kernel_rfl) (fun _ _ _ h => h) (Or.inl ⟨by rfl, ?hyk5x5⟩) hHeld ?restk5x5
        case hyk5x5 => (intro w hSw; (try dsimp only at hSw); have hc0 := hSw.1 0 _ rfl; have hc1 := hSw.1 1 _ rfl; have hc2 := hSw.1 2 _ rfl; have hc3 := hSw.1 3 _ rfl; have hc4 := hSw.1 4 _ rfl; have hc5 := hSw.1 5 _ rfl; have hc6 := hSw.1 6 _ rfl; have hc7 := hSw.1 7 _ rfl; have hc8 := hSw.1 8 _ rfl; have hc9 := hSw.1 9 _ rfl; have hc10 := hSw.1 10 _ rfl; have hc11 := hSw.1 11 _ rfl; have hc12 := hSw.1 12 _ rfl; go_simp; try with_reducible rfl)
        simp only [Act.put, List.setIfInBounds_toArray, List.set_cons_zero, List.set_cons_succ]
        refine wpAnyH_ready (rs := [3]) (by kernel_rfl) (by simp) ?_
        refine AllReadyH.cons (o := ⟨some 73, _, _, _, _, _⟩) rfl (fun K hK => ?_) AllReadyH.nil
        go_simp
        refine (refStampP_any _ _ nc nr _ IB.out HNL.out.1 HNL.out.2 HL1.out).mono ?_
        rintro e Vk51 ⟨v0x, rfl, ho, hb⟩
        (try go_wp2_with fail)
        refine hK.out _ _ (hHeld.step hb) (fun hHeld2 => ?_)
        clear hK K hHeld
        have hHeld := hHeld2
        clear hHeld2
        (try simp only [Act.put, List.setIfInBounds_toArray, List.set_cons_zero, List.set_cons_succ])
        replace IB : Hid (IsB Vk51 u4 (headB ac ar sq 5 ds)) := IB.out.below hb
        have Q0 : Hid (IsB Vk51 v0x (((headB ac ar sq 5 ds) ++ stampP nc nr))) := by
          have h0 := ho
          exact h0.isB (by have := HL2.out; omega)
        clear ho hb
        refine wpAnyH_ready (rs := [6]) (by kernel_rfl) (by simp) ?_
        refine AllReadyH.cons (o := ⟨some 76, _, _, _, _, _⟩) rfl (fun K hK => ?_) AllReadyH.nil
        go_simp
        have hsz := hHeld.2.2.size
        refine (refPutText_any _ _ vl _ Q0.out HLX2.out).mono ?_
        rintro e Vk52 ⟨v1x, rfl, ho, hb⟩
        (try go_wp2_with fail)
        refine hK.out _ _ (hHeld.step hb) (fun hHeld2 => ?_)
        clear hK K hHeld
        have hHeld := hHeld2
        clear hHeld2
        (try simp only [Act.put, List.setIfInBounds_toArray, List.set_cons_zero, List.set_cons_succ])
        replace IB : Hid (IsB Vk52 u4 (headB ac ar sq 5 ds)) := IB.out.below hb
        replace Q0 : Hid (IsB Vk52 v0x (((headB ac ar sq 5 ds) ++ stampP nc nr))) := Q0.out.below hb
        have OZ : Hid (OwnB w.heap.size Vk52 v1x (bytesCh ⟨ac, ar, sq, ds, 5, nc, nr, pc, pr, fc, fr, nm, vl⟩)) := by
          have h0 := ho.cut hsz
          have e0 : textB vl = textP vl.data.toList := by simp [textB, textP]
          rw [e0] at h0
          rw [HEK.out] at h0
          exact h0
        clear ho hb
        refine wpAnyH_take (i := 7) (oi := ⟨some 2, _, _, _, _, _⟩) (v := ?vk5_3_6x7) rfl (by kernel_rfl) (by kernel_rfl) (by kernel_rfl) (fun _ _ _ h => h) (Or.inl ⟨by rfl, ?hyk5_3_6x7⟩) hHeld ?restk5_3_6x7
        case hyk5_3_6x7 => (intro w hSw; (try dsimp only at hSw); have hc0 := hSw.1 0 _ rfl; have hc1 := hSw.1 1 _ rfl; have hc2 := hSw.1 2 _ rfl; have hc3 := hSw.1 3 _ rfl; have hc4 := hSw.1 4 _ rfl; have hc5 := hSw.1 5 _ rfl; have hc6 := hSw.1 6 _ rfl; have hc7 := hSw.1 7 _ rfl; have hc8 := hSw.1 8 _ rfl; have hc9 := hSw.1 9 _ rfl; have hc10 := hSw.1 10 _ rfl; have hc11 := hSw.1 11 _ rfl; have hc12 := hSw.1 12 _ rfl; go_simp; try with_reducible rfl)
        simp only [Act.put, List.setIfInBounds_toArray, List.set_cons_zero, List.set_cons_succ]
        refine wpAnyH_take (i := 8) (oi := ⟨some 3, _, _, _, _, _⟩) (v := ?vk5_3_6x8) rfl (by kernel_rfl) (by kernel_rfl) (by kernel_rfl) (fun _ _ _ h => h) (Or.inl ⟨by rfl, ?hyk5_3_6x8⟩) hHeld ?restk5_3_6x8
        case hyk5_3_6x8 => (intro w hSw; (try dsimp only at hSw); have hc0 := hSw.1 0 _ rfl; have hc1 := hSw.1 1 _ rfl; have hc2 := hSw.1 2 _ rfl; have hc3 := hSw.1 3 _ rfl; have hc4 := hSw.1 4 _ rfl; have hc5 := hSw.1 5 _ rfl; have hc6 := hSw.1 6 _ rfl; have hc7 := hSw.1 7 _ rfl; have hc8 := hSw.1 8 _ rfl; have hc9 := hSw.1 9 _ rfl; have hc10 := hSw.1 10 _ rfl; have hc11 := hSw.1 11 _ rfl; have hc12 := hSw.1 12 _ rfl; go_simp; try with_reducible rfl)
        simp only [Act.put, List.setIfInBounds_toArray, List.set_cons_zero, List.set_cons_succ]
        refine wpAnyH_done (by kernel_rfl) ?_ _
        have KZ := hHeld
        clear hHeld
        go_wp2
        go_ret2
        exact ⟨_, rfl, OZ.out, KZ.2.2⟩

set_option maxRecDepth 100000 in
set_option maxHeartbeats 2000000 in
theorem refPutCh_any (ac ar sq : Int) (a1 : Option Addr) (ds : List Int) (c1 : Nat) (kd nc nr pc pr fc fr : Int) (nm vl : ByteArray) (hs : nm.size ≤ 281474976710656) (w : World) (h1 : IsI w (.slice a1 ds.length c1) ds) :
    Calls Tryz.prog 46 #[.agg #[.int .i64 ac, .int .i64 ar, .int .i64 sq, .slice a1 ds.length c1, .int .i64 kd, .int .i64 nc, .int .i64 nr, .int .i64 pc, .int .i64 pr, .int .i64 fc, .int .i64 fr, .string nm, .string vl]] w fun e w' => ∃ v, e = .returned (.tuple #[v, .int .i64 (putCh ⟨ac, ar, sq, ds, kd, nc, nr, pc, pr, fc, fr, nm, vl⟩).2]) ∧ OwnB w.heap.size w' v (putCh ⟨ac, ar, sq, ds, kd, nc, nr, pc, pr, fc, fr, nm, vl⟩).1 ∧ Below w.heap.size w w' := by
  by_cases hc : checkCh ⟨ac, ar, sq, ds, kd, nc, nr, pc, pr, fc, fr, nm, vl⟩ = 0
  · have e : putCh ⟨ac, ar, sq, ds, kd, nc, nr, pc, pr, fc, fr, nm, vl⟩ = (bytesCh ⟨ac, ar, sq, ds, kd, nc, nr, pc, pr, fc, fr, nm, vl⟩, 0) := if_pos hc
    rw [e]
    exact refPutOk_any ac ar sq a1 ds c1 kd nc nr pc pr fc fr nm vl hs w h1 hc
  · have HE : Hid (putCh ⟨ac, ar, sq, ds, kd, nc, nr, pc, pr, fc, fr, nm, vl⟩ = ([], checkCh ⟨ac, ar, sq, ds, kd, nc, nr, pc, pr, fc, fr, nm, vl⟩)) := if_neg hc
    have K0 := KeptC.start w [.int .i64 ac, .int .i64 ar, .int .i64 sq, .slice a1 ds.length c1, .int .i64 kd, .int .i64 nc, .int .i64 nr, .int .i64 pc, .int .i64 pr, .int .i64 fc, .int .i64 fr, .string nm, .string vl] 57
    have H1 : Hid (IsI w (.slice a1 ds.length c1) ds) := h1
    have C1 : Hid (∀ W, IsI W (.slice a1 ds.length c1) ds → Calls Tryz.prog 64 #[.agg #[.int .i64 ac, .int .i64 ar, .int .i64 sq, .slice a1 ds.length c1, .int .i64 kd, .int .i64 nc, .int .i64 nr, .int .i64 pc, .int .i64 pr, .int .i64 fc, .int .i64 fr, .string nm, .string vl]] W fun e w' => e = .returned (.int .i64 (checkCh ⟨ac, ar, sq, ds, kd, nc, nr, pc, pr, fc, fr, nm, vl⟩)) ∧ Below W.heap.size W w') := fun W hW => refCheckCh_any ac ar sq (.slice a1 ds.length c1) kd nc nr pc pr fc fr nm vl ds hs W hW
    have q : (checkCh ⟨ac, ar, sq, ds, kd, nc, nr, pc, pr, fc, fr, nm, vl⟩ != 0) = true := by simp [hc]
    clear h1 hc
    generalize checkCh ⟨ac, ar, sq, ds, kd, nc, nr, pc, pr, fc, fr, nm, vl⟩ = z at *
    go_enter Tryz.func46, Tryz.ntmps46
    go_wp2_with fail
    refine (C1.out _ (H1.out.below K0.2.2)).mono ?_
    rintro e w1 ⟨rfl, hb1⟩
    have K1 := K0.step hb1
    clear hb1 K0
    obtain ⟨k_0, k_1, k_2, k_3, k_4, k_5, k_6, k_7, k_8, k_9, k_10, k_11, k_12⟩ := K1.cells13
    go_wp2_with fail
    refine (C1.out _ (H1.out.below K1.2.2)).mono ?_
    rintro e w2 ⟨rfl, hb2⟩
    have K2 := K1.step hb2
    go_wp2
    go_ret2
    rw [HE.out]
    exact ⟨_, rfl, OwnB.nil0 _ _, K2.2.2⟩

end Go.Proofs.YtlioiblpcpaejaaGreat
