/- What the document's Write of a frame does. -/
import Derived.Test.YtlioiblpcpaejaaGreatXWdQ
import Derived.Test.YtlioiblpcpaejaaGreatXWdS
namespace Go.Proofs.YtlioiblpcpaejaaGreat
open Go.RowKit
set_option linter.unusedVariables false
set_option linter.unusedSimpArgs false

def headG (fm : Int) (cl : List Int) : List UInt8 := ([] ++ putL fm.toNat) ++ listP cl
def headH (fm : Int) (cl : List Int) (mo : Bool) (m : Nat) : List UInt8 := (headG fm cl ++ putL (flagI mo).toNat) ++ putL (m : Int).toNat
theorem headH_load (kd fm : Int) (cl : List Int) (mo : Bool) (L : List Ch) : headH fm cl mo L.length ++ textsB (textsF L) = loadFr ⟨kd, fm, cl, mo, L⟩ := by
  rw [← load_parts]
  congr 1
  unfold headH headG headD listP
  simp [putsL, putI, ← putsL_nums]
theorem texts_le (L : List Ch) (k : Nat) : (textsB (textsF (L.take k))).length ≤ (textsB (textsF L)).length := by
  conv => rhs; rw [← List.take_append_drop k L]
  simp only [textsB, textsF, List.map_append, List.flatMap_append, List.length_append]
  omega

set_option maxRecDepth 100000 in
set_option maxHeartbeats 8000000 in
theorem refWriteOk_any (kd fm : Int) (a1 : Option Addr) (cl : List Int) (cc : Nat) (mo : Bool) (a2 : Option Addr) (L : List Ch) (ch : Nat) (w : World) (h1 : IsI w (.slice a1 cl.length cc) cl) (h2 : IsH w (.slice a2 L.length ch) L) (hc : checkFr ⟨kd, fm, cl, mo, L⟩ = 0) :
    Calls Tryz.prog 23 #[.agg #[.int .i64 kd, .int .i64 fm, .slice a1 cl.length cc, .bool mo, .slice a2 L.length ch]] w fun e w' => ∃ v, e = .returned (.tuple #[v, .int .i64 0]) ∧ OwnB w.heap.size w' v (frameL kd.toNat (loadFr ⟨kd, fm, cl, mo, L⟩)) ∧ Below w.heap.size w w' := by
  obtain ⟨⟨q1, q2, q3, q4⟩, q5, _, q6, _, q7⟩ := checkFr_ok hc
  simp only at q1 q2 q3 q4 q5 q6 q7
  have hcl := clock_lays q5
  have hl64 : cl.length ≤ 64 := hcl.1
  have HCL : Hid (∀ x ∈ cl, x < 9223372036854775808) := fun x hx => (hcl.2 x hx).2
  have hload := loadFr_len hc
  have HLP : Hid (headH fm cl mo L.length ++ textsB (textsF L) = loadFr ⟨kd, fm, cl, mo, L⟩) := headH_load kd fm cl mo L
  have HSE : Hid (sealL kd (loadFr ⟨kd, fm, cl, mo, L⟩) = (frameL kd.toNat (loadFr ⟨kd, fm, cl, mo, L⟩), 0)) := seal_ok q1 q2 (by omega)
  have HLL : Hid (∀ k, (headH fm cl mo L.length ++ textsB (textsF (L.take k))).length ≤ 140737488355328) := fun k => by
    have h0 := texts_le L k
    have h1 : (headH fm cl mo L.length ++ textsB (textsF L)).length ≤ 140737488355328 := by rw [HLP.out]; omega
    rw [List.length_append] at h1 ⊢
    omega
  have HL4 : Hid ((headG fm cl ++ putL (flagI mo).toNat).length + (putL (L.length : Int).toNat).length ≤ 140737488355328) := by
    have h0 := HLL.out 0
    unfold headH at h0
    rw [List.length_append, List.length_append] at h0
    show _ ≤ _
    omega
  have HL3 : Hid ((headG fm cl).length + (putL (flagI mo).toNat).length ≤ 140737488355328) := by have h0 := HL4.out; rw [List.length_append] at h0; show _ ≤ _; omega
  have HL2 : Hid (([] ++ putL fm.toNat).length + (listP cl).length ≤ 140737488355328) := by have h0 := HL3.out; unfold headG at h0; rw [List.length_append] at h0; show _ ≤ _; omega
  have HL1 : Hid (([] : List UInt8).length + (putL fm.toNat).length ≤ 140737488355328) := by have h0 := HL2.out; rw [List.length_append] at h0; show _ ≤ _; omega
  have hfl : flagI mo < 9223372036854775808 := by cases mo <;> decide
  have hfm : fm < 9223372036854775808 := by omega
  have hLn : (L.length : Int) < 9223372036854775808 := by omega
  have HQ7 : Hid (∀ c ∈ L, checkCh c = 0) := q7
  have HC : Hid (checkFr ⟨kd, fm, cl, mo, L⟩ = 0) := hc
  have K0 := KeptC.start w [.int .i64 kd, .int .i64 fm, .slice a1 cl.length cc, .bool mo, .slice a2 L.length ch] 26
  have H1 : Hid (IsI w (.slice a1 cl.length cc) cl) := h1
  have H2 : Hid (IsH w (.slice a2 L.length ch) L) := h2
  obtain ⟨a2', ch', e2, hc2, hl2, r2⟩ := h2
  cases e2
  have HR : Hid (L = [] ∨ ∃ b o, a2 = some ⟨b, o, none⟩ ∧ ChsAt w b o L) := r2
  clear h1 r2 q3 q5 q7 hcl hc
  go_enter Tryz.func23, Tryz.ntmps23
  go_wp2_with fail
  refine (refCheckFr_any kd fm a1 cl cc mo a2 L ch _ (H1.out.below K0.2.2) (H2.out.below K0.2.2)).mono ?_
  rintro e w1 ⟨rfl, hb1⟩
  rw [HC.out]
  have K1 := K0.step hb1
  clear hb1 K0
  obtain ⟨k_0, k_1, k_2, k_3, k_4⟩ := K1.five
  go_upto_if 15 with fail
  go_cut [4] from 5 (fun v W => v = .int .i64 (flagI mo) ∧ KeptC w w.heap.size [.int .i64 kd, .int .i64 fm, .slice a1 cl.length cc, .bool mo, .slice a2 L.length ch] W)
  case first =>
    cases mo
    · go_wp2
      go_meet
      case rel => exact ⟨rfl, K1⟩
    · go_wp2
      go_meet
      case rel => exact ⟨rfl, K1⟩
  case rest =>
    obtain ⟨rfl, K2⟩ := hcut
    clear k_0 k_1 k_2 k_3 k_4 K1
    generalize eFM : flagI mo = fg at *
    obtain ⟨k_0, k_1, k_2, k_3, k_4⟩ := K2.five
    go_upto_region 6 with fail
    clear k_0 k_1 k_2 k_3 k_4
    go_cut [5] from 6 (fun v W => OwnB w.heap.size W v (headG fm cl) ∧ KeptC w w.heap.size [.int .i64 kd, .int .i64 fm, .slice a1 cl.length cc, .bool mo, .slice a2 L.length ch] W)
    case first =>
      refine wp_region_held_drew (S := fun W' => KeptC w w.heap.size [.int .i64 kd, .int .i64 fm, .slice a1 cl.length cc, .bool mo, .slice a2 L.length ch] W') (by kernel_rfl) K2.drew (fun hHeld => ?_)
      obtain ⟨Ua0, eW⟩ : ∃ X, X = wc.drew := ⟨_, rfl⟩
      rw [← eW] at hHeld ⊢
      clear eW
      refine wpAnyH_take (i := 0) (oi := ⟨some 16, _, _, _, _, _⟩) (v := ?vax0) rfl (by kernel_rfl) (by kernel_rfl) (by kernel_rfl) (fun _ _ _ h => h) (Or.inl ⟨by rfl, ?hyax0⟩) hHeld ?restax0
      case hyax0 => (intro w hSw; (try dsimp only at hSw); obtain ⟨hc0, hc1, hc2, hc3, hc4⟩ := hSw.five; go_simp; try with_reducible rfl)
      simp only [Act.put, List.setIfInBounds_toArray, List.set_cons_zero, List.set_cons_succ]
      refine wpAnyH_take (i := 1) (oi := ⟨some 17, _, _, _, _, _⟩) (v := ?vax1) rfl (by kernel_rfl) (by kernel_rfl) (by kernel_rfl) (fun _ _ _ h => h) (Or.inl ⟨by rfl, ?hyax1⟩) hHeld ?restax1
      case hyax1 => (intro w hSw; (try dsimp only at hSw); obtain ⟨hc0, hc1, hc2, hc3, hc4⟩ := hSw.five; go_simp; try with_reducible rfl)
      simp only [Act.put, List.setIfInBounds_toArray, List.set_cons_zero, List.set_cons_succ]
      refine wpAnyH_take (i := 3) (oi := ⟨some 19, _, _, _, _, _⟩) (v := ?vax3) rfl (by kernel_rfl) (by kernel_rfl) (by kernel_rfl) (fun _ _ _ h => h) (Or.inl ⟨by rfl, ?hyax3⟩) hHeld ?restax3
      case hyax3 => (intro w hSw; (try dsimp only at hSw); obtain ⟨hc0, hc1, hc2, hc3, hc4⟩ := hSw.five; go_simp; try with_reducible rfl)
      simp only [Act.put, List.setIfInBounds_toArray, List.set_cons_zero, List.set_cons_succ]
      refine wpAnyH_take (i := 4) (oi := ⟨some 20, _, _, _, _, _⟩) (v := ?vax4) rfl (by kernel_rfl) (by kernel_rfl) (by kernel_rfl) (fun _ _ _ h => h) (Or.inl ⟨by rfl, ?hyax4⟩) hHeld ?restax4
      case hyax4 => (intro w hSw; (try dsimp only at hSw); obtain ⟨hc0, hc1, hc2, hc3, hc4⟩ := hSw.five; go_simp; try with_reducible rfl)
      simp only [Act.put, List.setIfInBounds_toArray, List.set_cons_zero, List.set_cons_succ]
      refine wpAnyH_ready (rs := [2]) (by kernel_rfl) (by simp) ?_
      refine AllReadyH.cons (o := ⟨some 18, _, _, _, _, _⟩) rfl (fun K hK => ?_) AllReadyH.nil
      go_simp
      refine (refPut_any _ [] fm _ hfm (IsB.non 0) HL1.out).mono ?_
      rintro e Va1 ⟨v2, rfl, ho, hb⟩
      (try go_wp2_with fail)
      refine hK.out _ _ (hHeld.step hb) (fun hHeld2 => ?_)
      clear hK K hHeld
      have hHeld := hHeld2
      clear hHeld2
      (try simp only [Act.put, List.setIfInBounds_toArray, List.set_cons_zero, List.set_cons_succ])
      have P2 : Hid (IsB Va1 v2 ([] ++ putL fm.toNat)) := ho.isB (by have := HL1.out; rw [List.length_append]; omega)
      clear ho hb
      refine wpAnyH_ready (rs := [5]) (by kernel_rfl) (by simp) ?_
      refine AllReadyH.cons (o := ⟨some 21, _, _, _, _, _⟩) rfl (fun K hK => ?_) AllReadyH.nil
      go_simp
      have hsz := hHeld.2.2.size
      refine (refListP_any _ _ _ cl _ P2.out (H1.out.below hHeld.2.2) HCL.out HL2.out).mono ?_
      rintro e Va2 ⟨v5, rfl, ho, hb⟩
      (try go_wp2_with fail)
      refine hK.out _ _ (hHeld.step hb) (fun hHeld2 => ?_)
      clear hK K hHeld
      have hHeld := hHeld2
      clear hHeld2
      (try simp only [Act.put, List.setIfInBounds_toArray, List.set_cons_zero, List.set_cons_succ])
      replace P2 : Hid (IsB Va2 v2 ([] ++ putL fm.toNat)) := P2.out.below hb
      have OZ : Hid (OwnB w.heap.size Va2 v5 (headG fm cl)) := ho.cut hsz
      clear ho hb
      refine wpAnyH_take (i := 6) (oi := ⟨some 5, _, _, _, _, _⟩) (v := ?va_2_5x6) rfl (by kernel_rfl) (by kernel_rfl) (by kernel_rfl) (fun _ _ _ h => h) (Or.inl ⟨by rfl, ?hya_2_5x6⟩) hHeld ?resta_2_5x6
      case hya_2_5x6 => (intro w hSw; (try dsimp only at hSw); obtain ⟨hc0, hc1, hc2, hc3, hc4⟩ := hSw.five; go_simp; try with_reducible rfl)
      simp only [Act.put, List.setIfInBounds_toArray, List.set_cons_zero, List.set_cons_succ]
      refine wpAnyH_done (by kernel_rfl) ?_ _
      have KZ := hHeld
      clear hHeld
      go_wp2
      go_meet
      case rel => exact ⟨OZ.out, KZ⟩
    case rest =>
      obtain ⟨OV, K3⟩ := hcut
      have O5 : Hid (OwnB w.heap.size wc u5 (headG fm cl)) := OV
      clear OV K2
      obtain ⟨k_0, k_1, k_2, k_3, k_4⟩ := K3.five
      go_upto_region 7 with fail
      clear k_0 k_1 k_2 k_3 k_4
      go_cut [5] from 6 (fun v W => OwnB w.heap.size W v (headH fm cl mo L.length) ∧ KeptC w w.heap.size [.int .i64 kd, .int .i64 fm, .slice a1 cl.length cc, .bool mo, .slice a2 L.length ch] W)
      case first =>
        have IB : Hid (IsB wc u5 (headG fm cl)) := O5.out.isB (by have := HL3.out; omega)
        refine wp_region_held_drew (S := fun W' => KeptC w w.heap.size [.int .i64 kd, .int .i64 fm, .slice a1 cl.length cc, .bool mo, .slice a2 L.length ch] W') (by kernel_rfl) K3.drew (fun hHeld => ?_)
        obtain ⟨Ub0, eW⟩ : ∃ X, X = wc.drew := ⟨_, rfl⟩
        have IB : Hid (IsB Ub0 u5 (headG fm cl)) := by rw [eW]; exact IB.out.below ((Below.refl _ _).drew)
        rw [← eW] at hHeld ⊢
        clear eW
        refine wpAnyH_take (i := 0) (oi := ⟨some 22, _, _, _, _, _⟩) (v := ?vbx0) rfl (by kernel_rfl) (by kernel_rfl) (by kernel_rfl) (fun _ _ _ h => h) (Or.inl ⟨by rfl, ?hybx0⟩) hHeld ?restbx0
        case hybx0 => (intro w hSw; (try dsimp only at hSw); obtain ⟨hc0, hc1, hc2, hc3, hc4⟩ := hSw.five; go_simp; try with_reducible rfl)
        simp only [Act.put, List.setIfInBounds_toArray, List.set_cons_zero, List.set_cons_succ]
        refine wpAnyH_take (i := 1) (oi := ⟨some 23, _, _, _, _, _⟩) (v := ?vbx1) rfl (by kernel_rfl) (by kernel_rfl) (by kernel_rfl) (fun _ _ _ h => h) (Or.inl ⟨by rfl, ?hybx1⟩) hHeld ?restbx1
        case hybx1 => (intro w hSw; (try dsimp only at hSw); obtain ⟨hc0, hc1, hc2, hc3, hc4⟩ := hSw.five; go_simp; try with_reducible rfl)
        simp only [Act.put, List.setIfInBounds_toArray, List.set_cons_zero, List.set_cons_succ]
        refine wpAnyH_take (i := 3) (oi := ⟨some 25, _, _, _, _, _⟩) (v := ?vbx3) rfl (by kernel_rfl) (by kernel_rfl) (by kernel_rfl) (fun _ _ _ h => h) (Or.inl ⟨by rfl, ?hybx3⟩) hHeld ?restbx3
        case hybx3 => (intro w hSw; (try dsimp only at hSw); obtain ⟨hc0, hc1, hc2, hc3, hc4⟩ := hSw.five; go_simp; try with_reducible rfl)
        simp only [Act.put, List.setIfInBounds_toArray, List.set_cons_zero, List.set_cons_succ]
        refine wpAnyH_take (i := 4) (oi := ⟨some 26, _, _, _, _, _⟩) (v := ?vbx4) rfl (by kernel_rfl) (by kernel_rfl) (by kernel_rfl) (fun _ _ _ h => h) (Or.inl ⟨by rfl, ?hybx4⟩) hHeld ?restbx4
        case hybx4 => (intro w hSw; (try dsimp only at hSw); obtain ⟨hc0, hc1, hc2, hc3, hc4⟩ := hSw.five; go_simp; try with_reducible rfl)
        simp only [Act.put, List.setIfInBounds_toArray, List.set_cons_zero, List.set_cons_succ]
        refine wpAnyH_take (i := 5) (oi := ⟨some 27, _, _, _, _, _⟩) (v := ?vbx5) rfl (by kernel_rfl) (by kernel_rfl) (by kernel_rfl) (fun _ _ _ h => h) (Or.inl ⟨by rfl, ?hybx5⟩) hHeld ?restbx5
        case hybx5 => (intro w hSw; (try dsimp only at hSw); obtain ⟨hc0, hc1, hc2, hc3, hc4⟩ := hSw.five; go_simp; try with_reducible rfl)
        simp only [Act.put, List.setIfInBounds_toArray, List.set_cons_zero, List.set_cons_succ]
        refine wpAnyH_ready (rs := [2]) (by kernel_rfl) (by simp) ?_
        refine AllReadyH.cons (o := ⟨some 24, _, _, _, _, _⟩) rfl (fun K hK => ?_) AllReadyH.nil
        go_simp
        refine (refPut_any _ _ fg _ hfl IB.out HL3.out).mono ?_
        rintro e Vb1 ⟨v3, rfl, ho, hb⟩
        (try go_wp2_with fail)
        refine hK.out _ _ (hHeld.step hb) (fun hHeld2 => ?_)
        clear hK K hHeld
        have hHeld := hHeld2
        clear hHeld2
        (try simp only [Act.put, List.setIfInBounds_toArray, List.set_cons_zero, List.set_cons_succ])
        replace IB : Hid (IsB Vb1 u5 (headG fm cl)) := IB.out.below hb
        have P3 : Hid (IsB Vb1 v3 (headG fm cl ++ putL fg.toNat)) := ho.isB (by have := HL3.out; rw [List.length_append]; omega)
        clear ho hb
        refine wpAnyH_ready (rs := [6]) (by kernel_rfl) (by simp) ?_
        refine AllReadyH.cons (o := ⟨some 28, _, _, _, _, _⟩) rfl (fun K hK => ?_) AllReadyH.nil
        go_simp
        have hsz := hHeld.2.2.size
        refine (refPut_any _ _ (L.length : Int) _ hLn P3.out HL4.out).mono ?_
        rintro e Vb2 ⟨v6, rfl, ho, hb⟩
        (try go_wp2_with fail)
        refine hK.out _ _ (hHeld.step hb) (fun hHeld2 => ?_)
        clear hK K hHeld
        have hHeld := hHeld2
        clear hHeld2
        (try simp only [Act.put, List.setIfInBounds_toArray, List.set_cons_zero, List.set_cons_succ])
        replace IB : Hid (IsB Vb2 u5 (headG fm cl)) := IB.out.below hb
        replace P3 : Hid (IsB Vb2 v3 (headG fm cl ++ putL fg.toNat)) := P3.out.below hb
        have OZ : Hid (OwnB w.heap.size Vb2 v6 (headH fm cl mo L.length)) := by
          have h0 := ho.cut hsz
          unfold headH
          rw [eFM]
          exact h0
        clear ho hb
        refine wpAnyH_take (i := 7) (oi := ⟨some 5, _, _, _, _, _⟩) (v := ?vb_2_6x7) rfl (by kernel_rfl) (by kernel_rfl) (by kernel_rfl) (fun _ _ _ h => h) (Or.inl ⟨by rfl, ?hyb_2_6x7⟩) hHeld ?restb_2_6x7
        case hyb_2_6x7 => (intro w hSw; (try dsimp only at hSw); obtain ⟨hc0, hc1, hc2, hc3, hc4⟩ := hSw.five; go_simp; try with_reducible rfl)
        simp only [Act.put, List.setIfInBounds_toArray, List.set_cons_zero, List.set_cons_succ]
        refine wpAnyH_done (by kernel_rfl) ?_ _
        have KZ := hHeld
        clear hHeld
        go_wp2
        go_meet
        case rel => exact ⟨OZ.out, KZ⟩
      case rest =>
        obtain ⟨OV, K4⟩ := hcut
        have O6 : Hid (OwnB w.heap.size wc u5 (headH fm cl mo L.length ++ textsB (textsF (L.take 0))) ∧ KeptC w w.heap.size [.int .i64 kd, .int .i64 fm, .slice a1 cl.length cc, .bool mo, .slice a2 L.length ch] wc) := ⟨by simpa [textsF, textsB] using OV, K4⟩
        clear OV K3 K4 O5 HL1 HL2 HL3 HL4 eFM
        go_wp2
        go_loopw [5, 6] (fun u i wr => ∃ k : Nat, k ≤ L.length ∧ i = .int .i64 (k : Int) ∧ Hid (OwnB w.heap.size wr u (headH fm cl mo L.length ++ textsB (textsF (L.take k))) ∧ KeptC w w.heap.size [.int .i64 kd, .int .i64 fm, .slice a1 cl.length cc, .bool mo, .slice a2 L.length ch] wr)) (fun _ i _ => L.length - (intOf i).toNat)
        case atStart => exact ⟨0, Nat.zero_le _, rfl, O6⟩
        case round =>
          obtain ⟨k, hk, rfl, HO⟩ := hrel
          have KR := HO.out.2
          obtain ⟨k_0, k_1, k_2, k_3, k_4⟩ := KR.five
          by_cases hlt : k < L.length
          · obtain ⟨b1, o1, rfl, g1⟩ := HR.out.resolve_left (by intro e; subst e; simp at hlt)
            obtain ⟨a3, c3, i3, hs3, hx⟩ := ((g1.below KR.2.2) k hlt).open
            have k1 : (k : Int) < (L.length : Int) := by omega
            have k0 : (0 : Int) ≤ (k : Int) := by omega
            have HCK : Hid (checkCh L[k] = 0) := HQ7.out _ (List.getElem_mem hlt)
            have HT : Hid ((headH fm cl mo L.length ++ textsB (textsF (L.take k))) ++ textB (txt (bytesCh L[k])) = headH fm cl mo L.length ++ textsB (textsF (L.take (k + 1)))) := by show _ = _; rw [textsF_snoc hlt]; simp [textsB]
            generalize L[k] = c at *
            have HLx : Hid ((headH fm cl mo L.length ++ textsB (textsF (L.take k))).length + (textB (txt (bytesCh c))).length ≤ 140737488355328) := by show _ ≤ _; rw [← List.length_append, HT.out]; exact HLL.out (k + 1)
            have IB : Hid (IsB wr u5 (headH fm cl mo L.length ++ textsB (textsF (L.take k)))) := HO.out.1.isB (by have := HLL.out k; omega)
            have HX : Hid (wr.rangeAt b1 (o1 + k * 13) (chCells c (.slice a3 c.deps.length c3))) := hx
            have I3 : Hid (IsI wr (.slice a3 c.deps.length c3) c.deps) := i3
            have HS : Hid (Sized c) := hs3
            clear g1 i3 hs3 hx HO
            go_upto_region 11 with fail
            go_step
            refine wpList_plain rfl (fun K hK => ?_)
            go_simp
            refine hK _ _ ?_
            clear hK K
            refine wpList_plain rfl (fun K hK => ?_)
            go_simp
            refine hK _ _ ?_
            clear hK K
            refine wpList_plain rfl (fun K hK => ?_)
            go_simp
            refine hK _ _ ?_
            clear hK K
            refine wpList_plain rfl (fun K hK => ?_)
            go_simp
            refine hK _ _ ?_
            clear hK K
            refine wpList_load_mid rfl 57 (.tmp 40) rfl b1 (o1 + k * 13) rfl (chCells c (.slice a3 c.deps.length c3)) _ HX.out Tryz.underlying57 rfl sizeChange ?_
            (try simp only [Act.put, List.setIfInBounds_toArray, List.set_cons_zero, List.set_cons_succ])
            go_wp2_with fail
            refine (refPutOk_any c.ac c.ar c.seq a3 c.deps c3 c.kind c.nc c.nr c.pc c.pr c.fc c.fr c.name c.value HS.out.1 _ I3.out HCK.out).mono ?_
            rintro e w3 ⟨v3, rfl, o3, hb3⟩
            have K5 := KR.step hb3
            have hbl := bytesCh_len HCK.out
            have o4 : OwnB wr.heap.size w3 v3 (bytesCh c) := o3
            have cv := conv_txt (o4.isB (by omega))
            have IB2 : Hid (IsB w3 u5 (headH fm cl mo L.length ++ textsB (textsF (L.take k)))) := IB.out.below hb3
            clear k_0 k_1 k_2 k_3 k_4 o3 o4 hb3 KR I3 IB HX
            go_wp2_with fail
            refine (refPutText_any _ _ (txt (bytesCh c)) _ IB2.out HLx.out).mono ?_
            rintro e w4 ⟨v4, rfl, o4, hb4⟩
            have hsz := K5.2.2.size
            have HO2 : Hid (OwnB w.heap.size w4 v4 (headH fm cl mo L.length ++ textsB (textsF (L.take (k + 1)))) ∧ KeptC w w.heap.size [.int .i64 kd, .int .i64 fm, .slice a1 cl.length cc, .bool mo, .slice (some ⟨b1, o1, none⟩) L.length ch] w4) := ⟨by have h0 := o4.cut hsz; rw [HT.out] at h0; exact h0, K5.step hb4⟩
            clear o4 hb4 K5 IB2 HT cv
            go_wp2
            go_roundw
            case rel => exact ⟨k + 1, by omega, by go_num, HO2⟩
            case measure => simp [intOf]; omega
          · obtain rfl : k = L.length := by omega
            have HTK : Hid (headH fm cl mo L.length ++ textsB (textsF (L.take L.length)) = loadFr ⟨kd, fm, cl, mo, L⟩) := by show _ = _; rw [List.take_length]; exact HLP.out
            rw [HTK.out] at HO
            have IB : Hid (IsB wr u5 (loadFr ⟨kd, fm, cl, mo, L⟩)) := HO.out.1.isB (by omega)
            have hsz := KR.2.2.size
            clear HO HTK
            go_wp2_with fail
            refine (refSeal_any kd _ (loadFr ⟨kd, fm, cl, mo, L⟩) _ IB.out).mono ?_
            rintro e w5 ⟨v5, rfl, o5, hb5⟩
            have KZ := KR.step hb5
            rw [HSE.out] at o5 ⊢
            have OZ : Hid (OwnB w.heap.size w5 v5 (frameL kd.toNat (loadFr ⟨kd, fm, cl, mo, L⟩))) := o5.cut hsz
            clear k_0 k_1 k_2 k_3 k_4 o5 hb5 KR IB
            go_wp2
            go_ret2
            exact ⟨_, rfl, OZ.out, KZ.2.2⟩

set_option maxRecDepth 100000 in
set_option maxHeartbeats 2000000 in
theorem refWrite_any (kd fm : Int) (a1 : Option Addr) (cl : List Int) (cc : Nat) (mo : Bool) (a2 : Option Addr) (L : List Ch) (ch : Nat) (w : World) (h1 : IsI w (.slice a1 cl.length cc) cl) (h2 : IsH w (.slice a2 L.length ch) L) :
    Calls Tryz.prog 23 #[.agg #[.int .i64 kd, .int .i64 fm, .slice a1 cl.length cc, .bool mo, .slice a2 L.length ch]] w fun e w' => ∃ v, e = .returned (.tuple #[v, .int .i64 (writeF ⟨kd, fm, cl, mo, L⟩).2]) ∧ OwnB w.heap.size w' v (writeF ⟨kd, fm, cl, mo, L⟩).1 ∧ Below w.heap.size w w' := by
  by_cases hc : checkFr ⟨kd, fm, cl, mo, L⟩ = 0
  · have e : writeF ⟨kd, fm, cl, mo, L⟩ = (frameL kd.toNat (loadFr ⟨kd, fm, cl, mo, L⟩), 0) := if_pos hc
    rw [e]
    exact refWriteOk_any kd fm a1 cl cc mo a2 L ch w h1 h2 hc
  · have HE : Hid (writeF ⟨kd, fm, cl, mo, L⟩ = ([], checkFr ⟨kd, fm, cl, mo, L⟩)) := if_neg hc
    have K0 := KeptC.start w [.int .i64 kd, .int .i64 fm, .slice a1 cl.length cc, .bool mo, .slice a2 L.length ch] 26
    have H1 : Hid (IsI w (.slice a1 cl.length cc) cl) := h1
    have H2 : Hid (IsH w (.slice a2 L.length ch) L) := h2
    have C1 : Hid (∀ W, IsI W (.slice a1 cl.length cc) cl → IsH W (.slice a2 L.length ch) L → Calls Tryz.prog 47 #[.agg #[.int .i64 kd, .int .i64 fm, .slice a1 cl.length cc, .bool mo, .slice a2 L.length ch]] W fun e w' => e = .returned (.int .i64 (checkFr ⟨kd, fm, cl, mo, L⟩)) ∧ Below W.heap.size W w') := fun W i1 i2 => refCheckFr_any kd fm a1 cl cc mo a2 L ch W i1 i2
    have q : (checkFr ⟨kd, fm, cl, mo, L⟩ != 0) = true := by simp [hc]
    clear h1 h2 hc
    generalize checkFr ⟨kd, fm, cl, mo, L⟩ = z at *
    go_enter Tryz.func23, Tryz.ntmps23
    go_wp2_with fail
    refine (C1.out _ (H1.out.below K0.2.2) (H2.out.below K0.2.2)).mono ?_
    rintro e w1 ⟨rfl, hb1⟩
    have K1 := K0.step hb1
    clear hb1 K0
    obtain ⟨k_0, k_1, k_2, k_3, k_4⟩ := K1.five
    go_wp2_with fail
    refine (C1.out _ (H1.out.below K1.2.2) (H2.out.below K1.2.2)).mono ?_
    rintro e w2 ⟨rfl, hb2⟩
    have K2 := K1.step hb2
    go_wp2
    go_ret2
    rw [HE.out]
    exact ⟨_, rfl, OwnB.nil0 _ _, K2.2.2⟩

end Go.Proofs.YtlioiblpcpaejaaGreat
