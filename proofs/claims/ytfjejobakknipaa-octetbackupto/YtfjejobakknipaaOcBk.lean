/- OctetBack: what was put is read back, to the end. -/
import Derived.Test.YtfjejobakknipaaOcSt
namespace Go.Proofs.Ytfjejobakknipaa
open Go.RowKit
set_option linter.unusedVariables false

/-- Where the k-th number begins, and what a reading there gives. -/
theorem nums_at {d : List Int} {k : Nat} (hk : k < d.length) (hd : d[k] < 9223372036854775808) (T : List UInt8) :
    numL ((putsL d ++ T).drop (putsL (d.take k)).length) = some (d[k].toNat, (putL d[k].toNat).length) := by
  have e : putsL d = putsL (d.take k) ++ (putL d[k].toNat ++ putsL (d.drop (k + 1))) := by
    conv => lhs; rw [← List.take_append_drop k d, List.drop_eq_getElem_cons hk]
    simp only [putsL, List.flatMap_append, List.flatMap_cons]
  rw [e, List.append_assoc, List.drop_left, List.append_assoc]
  exact numL_put (by omega) _
theorem texts_at {N : List UInt8} {s : List ByteArray} {k : Nat} (hk : k < s.length) (hs : s[k].size < 9223372036854775808) :
    numL ((N ++ textsL s).drop (N.length + (textsL (s.take k)).length)) = some (s[k].size, (putL s[k].size).length) ∧
    ((N ++ textsL s).drop (N.length + (textsL (s.take k)).length + (putL s[k].size).length)).take s[k].size = s[k].data.toList ∧
    N.length + (textsL (s.take k)).length + (putL s[k].size).length + s[k].size ≤ (N ++ textsL s).length := by
  have e : textsL s = textsL (s.take k) ++ (putL s[k].size ++ (s[k].data.toList ++ textsL (s.drop (k + 1)))) := by
    conv => lhs; rw [← List.take_append_drop k s, List.drop_eq_getElem_cons hk]
    simp only [textsL, List.flatMap_append, List.flatMap_cons, textL, List.append_assoc]
  have hz : s[k].data.toList.length = s[k].size := by rw [Array.length_toList]; rfl
  refine ⟨?_, ?_, ?_⟩
  · rw [e, ← List.append_assoc, ← List.length_append, List.drop_left]
    exact numL_put hs _
  · rw [e, ← List.append_assoc, ← List.append_assoc, ← List.length_append, ← List.length_append, List.drop_left, ← hz, List.take_left]
  · have := congrArg List.length e
    simp only [List.length_append] at this ⊢
    omega
theorem rd_num {d : List Int} {k : Nat} (hk : k < d.length) (hd : d[k] < 9223372036854775808) (T : List UInt8) :
    rdC (putsL d ++ T) (putsL (d.take k)).length 0 9223372036854775807 = ((d[k].toNat : Int), (putsL (d.take (k + 1))).length, 0) := by
  rw [rdC_ok (nums_at hk hd T) (by omega), putsL_snoc hk, List.length_append]
theorem rd_text {N : List UInt8} {s : List ByteArray} {k : Nat} (hk : k < s.length) (hs : s[k].size < 9223372036854775808) :
    rdT (N ++ textsL s) (N.length + (textsL (s.take k)).length) 0 (s[k].size : Int) = (s[k].data.toList, N.length + (textsL (s.take (k + 1))).length, 0) := by
  obtain ⟨h1, h2, h3⟩ := texts_at (N := N) hk hs
  rw [rdT_ok h1 (by omega) (by omega), h2, textsL_snoc hk, List.length_append, textL_length]
  simp only [Prod.mk.injEq, and_true, true_and]
  omega

set_option maxRecDepth 100000 in
set_option maxHeartbeats 4000000 in
theorem octetBack_walk (vl : Value) (d : List Int) (vs : Value) (ss : List ByteArray) (w : World) (h1 : IsI w vl d) (hd : ∀ x ∈ d, x < 9223372036854775808) (h2 : IsT w vs ss) (hl : (putsL d).length + (textsL ss).length ≤ 140737488355328) :
    Calls Try.prog 5 #[vl, vs] w fun e w' => e = .returned (.bool true) ∧ Below w.heap.size w w' := by
  have HI : Hid (IsI w vl d) := h1
  have HT : Hid (IsT w vs ss) := h2
  obtain ⟨a1, c1, rfl, hc1, hl1, r1⟩ := h1
  obtain ⟨a2, c2, rfl, hc2, hl2, r2⟩ := h2
  have HR1 : Hid (d = [] ∨ ∃ b o, a1 = some ⟨b, o, none⟩ ∧ IntsAt w b o d) := r1
  have HR2 : Hid (ss = [] ∨ ∃ b o, a2 = some ⟨b, o, none⟩ ∧ TextsAt w b o ss) := r2
  have HD : Hid (∀ x ∈ d, x < 9223372036854775808) := hd
  obtain ⟨P, hP⟩ : ∃ P, P = putsL d ++ textsL ss := ⟨_, rfl⟩
  have HPE : Hid (P = putsL d ++ textsL ss) := hP
  have HPL : Hid (P.length ≤ 140737488355328) := by show _ ≤ _; rw [hP, List.length_append]; exact hl
  have HRN : Hid (∀ k (hk : k < d.length), rdC P (putsL (d.take k)).length 0 9223372036854775807 = ((d[k].toNat : Int), (putsL (d.take (k + 1))).length, 0)) := fun k hk => by rw [hP]; exact rd_num hk (hd _ (List.getElem_mem hk)) _
  have HST : Hid (∀ k (hk : k < ss.length), ss[k].size ≤ 140737488355328) := fun k hk => by
    have h1 := congrArg List.length (textsL_snoc hk)
    have h2 := textsL_take ss (k + 1)
    rw [List.length_append, textL_length] at h1
    omega
  have HRT : Hid (∀ k (hk : k < ss.length), rdT P ((putsL d).length + (textsL (ss.take k)).length) 0 (ss[k].size : Int) = (ss[k].data.toList, (putsL d).length + (textsL (ss.take (k + 1))).length, 0)) := fun k hk => by rw [hP]; exact rd_text hk (by have := HST.out k hk; omega)
  clear r1 r2 hd hP
  go_enter Try.func5, Try.ntmps5
  go_wp2_with fail
  refine (put_any _ _ [] d _ (IsB.non _) HI.out HD.out (by simp; omega)).mono ?_
  rintro e w1 ⟨v1, rfl, ho1, hb1⟩
  rw [List.nil_append] at ho1
  obtain ⟨av1, cv1, rfl⟩ := ho1.form
  have HO1 : Hid (OwnB w.heap.size w1 (.slice av1 (putsL d).length cv1) (putsL d)) := ho1
  have HB1 : Hid (Below w.heap.size w w1) := hb1
  clear ho1 hb1
  go_wp2_with fail
  refine (putText_any _ _ (putsL d) ss _ (HO1.out.isB (by omega)) (HT.out.below HB1.out) hl).mono ?_
  rintro e w2 ⟨v2, rfl, ho2, hb2⟩
  rw [← HPE.out] at ho2
  obtain ⟨av2, cv2, rfl⟩ := ho2.form
  have HO2 : Hid (OwnB w1.heap.size w2 (.slice av2 P.length cv2) P) := ho2
  have HB2 : Hid (Below w.heap.size w w2) := HB1.out.trans (hb2.mono HB1.out.size)
  clear ho2 hb2
  go_wp2_with fail
  refine (new_any _ P _ (HO2.out.isB HPL.out)).mono ?_
  rintro e w3 ⟨g, rfl, hr3, hb3⟩
  have HB3 : Hid (Below w.heap.size w w3) := HB2.out.trans (hb3.mono HB2.out.size)
  have HG3 : Hid (RdIs w.heap.size w3 g P (putsL (d.take 0)).length 0) := hr3.low' HB2.out.size
  clear hr3 hb3
  go_wp2
  go_loopw [6] (fun i wr => ∃ k : Nat, k ≤ d.length ∧ i = .int .i64 (k : Int) ∧ Hid (RdIs w.heap.size wr g P (putsL (d.take k)).length 0) ∧ Hid (Below w.heap.size w wr)) (fun i _ => d.length - (intOf i).toNat)
  case atStart => exact ⟨0, Nat.zero_le _, rfl, HG3, HB3⟩
  case round =>
    obtain ⟨k, hk, rfl, HG, HB⟩ := hrel
    by_cases hlt : k < d.length
    · obtain ⟨b1, o1, rfl, g1⟩ := HR1.out.resolve_left (by intro e; subst e; simp at hlt)
      have HX : Hid (∀ W, Below w.heap.size w W → W.cell? ⟨b1, o1 + k, none⟩ = some (.int .i64 d[k])) := fun W hb => (g1.below hb) k hlt
      clear g1
      have hxd := HD.out d[k] (List.getElem_mem hlt)
      have HRD : Hid (rdC P (putsL (d.take k)).length 0 9223372036854775807 = ((d[k].toNat : Int), (putsL (d.take (k + 1))).length, 0)) := HRN.out k hlt
      have k1 : (k : Int) < (d.length : Int) := by omega
      have k0 : (0 : Int) ≤ (k : Int) := by omega
      generalize d[k] = x at *
      have HXB : Hid (x < 9223372036854775808) := hxd
      clear hxd
      have q : ((x.toNat : Int) == if x < 0 then 0 else x) = true := by
        rw [show (if x < 0 then 0 else x) = ((x.toNat : Nat) : Int) by split <;> omega]; simp
      go_wp2_with fail
      have HGd : Hid (RdIs w.heap.size wr.drew g P (putsL (d.take k)).length 0) := HG.out.drewN 1
      refine wp_region_held_drew (S := fun W' => W'.cell? ⟨b1, o1 + k, none⟩ = some (.int .i64 x) ∧ Below w.heap.size w W') (by kernel_rfl) ⟨HX.out _ HB.out.drew, HB.out.drew⟩ (fun hHeld => ?_)
      refine wpAnyH_take (i := 0) (oi := ⟨some 21, _, _, _, _, _⟩) (v := ?va0) rfl (by kernel_rfl) (by kernel_rfl) (by kernel_rfl) (fun _ _ _ h => h) (Or.inl ⟨by rfl, ?hya0⟩) hHeld ?resta0
      case hya0 => (intro w hSw; (try dsimp only at hSw); go_simp; try with_reducible rfl)
      simp only [Act.put, List.setIfInBounds_toArray, List.set_cons_zero, List.set_cons_succ]
      refine wpAnyH_take (i := 2) (oi := ⟨some 23, _, _, _, _, _⟩) (v := ?va2) rfl (by kernel_rfl) (by kernel_rfl) (by kernel_rfl) (fun _ _ _ h => h) (Or.inl ⟨by rfl, ?hya2⟩) hHeld ?resta2
      case hya2 => (intro w hSw; (try dsimp only at hSw); go_simp; try with_reducible rfl)
      simp only [Act.put, List.setIfInBounds_toArray, List.set_cons_zero, List.set_cons_succ]
      refine wpAnyH_take (i := 3) (oi := ⟨some 24, _, _, _, _, _⟩) (v := ?va3) rfl (by kernel_rfl) (by kernel_rfl) (by kernel_rfl) (fun _ _ _ h => h) (Or.inl ⟨by rfl, ?hya3⟩) hHeld ?resta3
      case hya3 => (intro w hSw; (try dsimp only at hSw); go_simp; try with_reducible rfl)
      simp only [Act.put, List.setIfInBounds_toArray, List.set_cons_zero, List.set_cons_succ]
      refine wpAnyH_take (i := 4) (oi := ⟨some 25, _, _, _, _, _⟩) (v := ?va4) rfl (by kernel_rfl) (by kernel_rfl) (by kernel_rfl) (fun _ _ _ h => h) (Or.inl ⟨by rfl, ?hya4⟩) hHeld ?resta4
      case hya4 => (intro w hSw; (try dsimp only at hSw); go_simp; try with_reducible rfl)
      simp only [Act.put, List.setIfInBounds_toArray, List.set_cons_zero, List.set_cons_succ]
      refine wpAnyH_take (i := 5) (oi := ⟨some 26, _, _, _, _, _⟩) (v := ?va5) rfl (by kernel_rfl) (by kernel_rfl) (by kernel_rfl) (fun _ _ _ h => h) (Or.inl ⟨by rfl, ?hya5⟩) hHeld ?resta5
      case hya5 => (intro w hSw; (try dsimp only at hSw); go_simp; try with_reducible rfl)
      simp only [Act.put, List.setIfInBounds_toArray, List.set_cons_zero, List.set_cons_succ]
      refine wpAnyH_take (i := 6) (oi := ⟨some 27, _, _, _, _, _⟩) (v := ?va6) rfl (by kernel_rfl) (by kernel_rfl) (by kernel_rfl) (fun _ _ _ h => h) (Or.inl ⟨by rfl, ?hya6⟩) hHeld ?resta6
      case hya6 => (intro w hSw; (try dsimp only at hSw); go_simp; try with_reducible rfl)
      simp only [Act.put, List.setIfInBounds_toArray, List.set_cons_zero, List.set_cons_succ]
      generalize (if x < 0 then 0 else x) = mx at *
      refine wpAnyH_ready (rs := [1]) (by kernel_rfl) (by simp) ?_
      refine AllReadyH.cons (o := ⟨some 22, _, _, _, _, _⟩) rfl (fun K hK => ?_) AllReadyH.nil
      go_simp
      refine (num_rd _ g _ _ _ _ HGd.out).mono ?_
      rintro e w' ⟨rfl, hr, hg⟩; rw [HRD.out] at hr ⊢
      (try go_wp2_with fail)
      refine hK.out _ _ ⟨HX.out _ (HGd.out.grows hHeld.2 hg (Nat.le_refl _) hHeld.2.size), HGd.out.grows hHeld.2 hg (Nat.le_refl _) hHeld.2.size⟩ (fun hHeld2 => ?_)
      clear hK K hHeld
      have hHeld := hHeld2
      clear hHeld2
      (try simp only [Act.put, List.setIfInBounds_toArray, List.set_cons_zero, List.set_cons_succ])
      refine wpAnyH_take (i := 7) (oi := ⟨some 28, _, _, _, _, _⟩) (v := ?va7) rfl (by kernel_rfl) (by kernel_rfl) (by kernel_rfl) (fun _ _ _ h => h) (Or.inl ⟨by rfl, ?hya7⟩) hHeld ?resta7
      case hya7 => (intro w hSw; (try dsimp only at hSw); go_simp; try with_reducible rfl)
      simp only [Act.put, List.setIfInBounds_toArray, List.set_cons_zero, List.set_cons_succ]
      refine wpAnyH_done (by kernel_rfl) ?_ _
      have HGn : Hid (RdIs w.heap.size w' g P (putsL (d.take (k + 1))).length 0) := hr
      have HBn : Hid (Below w.heap.size w w') := hHeld.2
      clear hr hg hHeld
      go_wp2
      go_roundw
      case rel => exact ⟨k + 1, by omega, by go_num, HGn, HBn⟩
      case measure => simp [intOf]; omega
    · obtain rfl : k = d.length := by omega
      have HTK : Hid (d.take d.length = d) := List.take_length
      rw [HTK.out] at HG
      have HG4 : Hid (RdIs w.heap.size wr g P ((putsL d).length + (textsL (ss.take 0)).length) 0) := HG.out
      have HB4 : Hid (Below w.heap.size w wr) := HB.out
      clear HG HB HB3 HG3 HTK
      generalize wr = w4 at *
      have HPE2 : Hid (P.length = (putsL d).length + (textsL ss).length) := by show _ = _; rw [HPE.out, List.length_append]
      clear HPE HRN HO1 HO2 hl
      generalize putsL d = N at *
      go_wp2
      go_loopw [7] (fun i wr => ∃ k : Nat, k ≤ ss.length ∧ i = .int .i64 (k : Int) ∧ Hid (RdIs w.heap.size wr g P (N.length + (textsL (ss.take k)).length) 0) ∧ Hid (Below w.heap.size w wr)) (fun i _ => ss.length - (intOf i).toNat)
      case atStart => exact ⟨0, Nat.zero_le _, rfl, HG4, HB4⟩
      case round =>
        obtain ⟨k, hk, rfl, HG, HB⟩ := hrel
        by_cases hlt : k < ss.length
        · obtain ⟨b1, o1, rfl, g1⟩ := HR2.out.resolve_left (by intro e; subst e; simp at hlt)
          have HX : Hid (∀ W, Below w.heap.size w W → W.cell? ⟨b1, o1 + k, none⟩ = some (.string ss[k])) := fun W hb => (g1.below hb) k hlt
          clear g1
          have hsz := HST.out k hlt
          have HRD : Hid (rdT P (N.length + (textsL (ss.take k)).length) 0 (ss[k].size : Int) = (ss[k].data.toList, N.length + (textsL (ss.take (k + 1))).length, 0)) := HRT.out k hlt
          have k1 : (k : Int) < (ss.length : Int) := by omega
          have k0 : (0 : Int) ≤ (k : Int) := by omega
          generalize ss[k] = x at *
          have HTX : Hid (txt x.data.toList = x) := by show _ = _; simp [txt]
          have q : (x.toList == x.toList) = true := by simp
          go_wp2_with fail
          have HGd : Hid (RdIs w.heap.size wr.drew g P (N.length + (textsL (ss.take k)).length) 0) := HG.out.drewN 1
          refine wp_region_held_drew (S := fun W' => W'.cell? ⟨b1, o1 + k, none⟩ = some (.string x) ∧ Below w.heap.size w W') (by kernel_rfl) ⟨HX.out _ HB.out.drew, HB.out.drew⟩ (fun hHeld => ?_)
          refine wpAnyH_take (i := 0) (oi := ⟨some 35, _, _, _, _, _⟩) (v := ?vb0) rfl (by kernel_rfl) (by kernel_rfl) (by kernel_rfl) (fun _ _ _ h => h) (Or.inl ⟨by rfl, ?hyb0⟩) hHeld ?restb0
          case hyb0 => (intro w hSw; (try dsimp only at hSw); go_simp; try with_reducible rfl)
          simp only [Act.put, List.setIfInBounds_toArray, List.set_cons_zero, List.set_cons_succ]
          refine wpAnyH_take (i := 1) (oi := ⟨some 36, _, _, _, _, _⟩) (v := ?vb1) rfl (by kernel_rfl) (by kernel_rfl) (by kernel_rfl) (fun _ _ _ h => h) (Or.inl ⟨by rfl, ?hyb1⟩) hHeld ?restb1
          case hyb1 => (intro w hSw; (try dsimp only at hSw); go_simp; try with_reducible rfl)
          simp only [Act.put, List.setIfInBounds_toArray, List.set_cons_zero, List.set_cons_succ]
          refine wpAnyH_take (i := 2) (oi := ⟨some 37, _, _, _, _, _⟩) (v := ?vb2) rfl (by kernel_rfl) (by kernel_rfl) (by kernel_rfl) (fun _ _ _ h => h) (Or.inl ⟨by rfl, ?hyb2⟩) hHeld ?restb2
          case hyb2 => (intro w hSw; (try dsimp only at hSw); go_simp; try with_reducible rfl)
          simp only [Act.put, List.setIfInBounds_toArray, List.set_cons_zero, List.set_cons_succ]
          refine wpAnyH_take (i := 3) (oi := ⟨some 38, _, _, _, _, _⟩) (v := ?vb3) rfl (by kernel_rfl) (by kernel_rfl) (by kernel_rfl) (fun _ _ _ h => h) (Or.inl ⟨by rfl, ?hyb3⟩) hHeld ?restb3
          case hyb3 => (intro w hSw; (try dsimp only at hSw); go_simp; try with_reducible rfl)
          simp only [Act.put, List.setIfInBounds_toArray, List.set_cons_zero, List.set_cons_succ]
          refine wpAnyH_take (i := 4) (oi := ⟨some 39, _, _, _, _, _⟩) (v := ?vb4) rfl (by kernel_rfl) (by kernel_rfl) (by kernel_rfl) (fun _ _ _ h => h) (Or.inl ⟨by rfl, ?hyb4⟩) hHeld ?restb4
          case hyb4 => (intro w hSw; (try dsimp only at hSw); go_simp; try with_reducible rfl)
          simp only [Act.put, List.setIfInBounds_toArray, List.set_cons_zero, List.set_cons_succ]
          refine wpAnyH_take (i := 5) (oi := ⟨some 40, _, _, _, _, _⟩) (v := ?vb5) rfl (by kernel_rfl) (by kernel_rfl) (by kernel_rfl) (fun _ _ _ h => h) (Or.inl ⟨by rfl, ?hyb5⟩) hHeld ?restb5
          case hyb5 => (intro w hSw; (try dsimp only at hSw); go_simp; try with_reducible rfl)
          simp only [Act.put, List.setIfInBounds_toArray, List.set_cons_zero, List.set_cons_succ]
          refine wpAnyH_take (i := 7) (oi := ⟨some 42, _, _, _, _, _⟩) (v := ?vb7) rfl (by kernel_rfl) (by kernel_rfl) (by kernel_rfl) (fun _ _ _ h => h) (Or.inl ⟨by rfl, ?hyb7⟩) hHeld ?restb7
          case hyb7 => (intro w hSw; (try dsimp only at hSw); go_simp; try with_reducible rfl)
          simp only [Act.put, List.setIfInBounds_toArray, List.set_cons_zero, List.set_cons_succ]
          refine wpAnyH_take (i := 8) (oi := ⟨some 43, _, _, _, _, _⟩) (v := ?vb8) rfl (by kernel_rfl) (by kernel_rfl) (by kernel_rfl) (fun _ _ _ h => h) (Or.inl ⟨by rfl, ?hyb8⟩) hHeld ?restb8
          case hyb8 => (intro w hSw; (try dsimp only at hSw); go_simp; try with_reducible rfl)
          simp only [Act.put, List.setIfInBounds_toArray, List.set_cons_zero, List.set_cons_succ]
          refine wpAnyH_take (i := 9) (oi := ⟨some 44, _, _, _, _, _⟩) (v := ?vb9) rfl (by kernel_rfl) (by kernel_rfl) (by kernel_rfl) (fun _ _ _ h => h) (Or.inl ⟨by rfl, ?hyb9⟩) hHeld ?restb9
          case hyb9 => (intro w hSw; (try dsimp only at hSw); go_simp; try with_reducible rfl)
          simp only [Act.put, List.setIfInBounds_toArray, List.set_cons_zero, List.set_cons_succ]
          refine wpAnyH_take (i := 10) (oi := ⟨some 45, _, _, _, _, _⟩) (v := ?vb10) rfl (by kernel_rfl) (by kernel_rfl) (by kernel_rfl) (fun _ _ _ h => h) (Or.inl ⟨by rfl, ?hyb10⟩) hHeld ?restb10
          case hyb10 => (intro w hSw; (try dsimp only at hSw); go_simp; try with_reducible rfl)
          simp only [Act.put, List.setIfInBounds_toArray, List.set_cons_zero, List.set_cons_succ]
          refine wpAnyH_ready (rs := [6]) (by kernel_rfl) (by simp) ?_
          refine AllReadyH.cons (o := ⟨some 41, _, _, _, _, _⟩) rfl (fun K hK => ?_) AllReadyH.nil
          go_simp
          refine (text_rd _ g _ _ _ _ _ HGd.out).mono ?_
          rintro e w' ⟨rfl, hr, hg⟩; rw [HRD.out] at hr ⊢; simp only [HTX.out]
          (try go_wp2_with fail)
          refine hK.out _ _ ⟨HX.out _ (HGd.out.grows hHeld.2 hg (Nat.le_refl _) hHeld.2.size), HGd.out.grows hHeld.2 hg (Nat.le_refl _) hHeld.2.size⟩ (fun hHeld2 => ?_)
          clear hK K hHeld
          have hHeld := hHeld2
          clear hHeld2
          (try simp only [Act.put, List.setIfInBounds_toArray, List.set_cons_zero, List.set_cons_succ])
          refine wpAnyH_take (i := 11) (oi := ⟨some 46, _, _, _, _, _⟩) (v := ?vb11) rfl (by kernel_rfl) (by kernel_rfl) (by kernel_rfl) (fun _ _ _ h => h) (Or.inl ⟨by rfl, ?hyb11⟩) hHeld ?restb11
          case hyb11 => (intro w hSw; (try dsimp only at hSw); go_simp; try with_reducible rfl)
          simp only [Act.put, List.setIfInBounds_toArray, List.set_cons_zero, List.set_cons_succ]
          refine wpAnyH_done (by kernel_rfl) ?_ _
          have HGn : Hid (RdIs w.heap.size w' g P (N.length + (textsL (ss.take (k + 1))).length) 0) := hr
          have HBn : Hid (Below w.heap.size w w') := hHeld.2
          clear hr hg hHeld
          go_wp2
          go_roundw
          case rel => exact ⟨k + 1, by omega, by go_num, HGn, HBn⟩
          case measure => simp [intOf]; omega
        · obtain rfl : k = ss.length := by omega
          have HTK : Hid (ss.take ss.length = ss) := List.take_length
          rw [HTK.out] at HG
          have HG5 : Hid (RdIs w.heap.size wr g P P.length 0) := by rw [HPE2.out]; exact HG.out
          clear HG HTK
          go_wp2_with fail
          refine (done_any _ g _ _ _ _ HG5.out).mono ?_
          rintro e w5 ⟨rfl, m5, rfl⟩
          have HE5 : Hid (doneL P P.length 0 = 0) := by show _ = _; simp [doneL]
          rw [HE5.out]
          have HG6 : Hid (RdIs w.heap.size (wr.drewN m5) g P P.length 0) := HG5.out.drewN m5
          go_wp2_with fail
          refine (left_any _ g _ _ _ _ HG6.out).mono ?_
          rintro e w6 ⟨rfl, m6, rfl⟩
          rw [Int.sub_self]
          have HB7 : Hid (Below w.heap.size w ((wr.drewN m5).drewN m6)) := below_drewN (below_drewN HB.out m5) m6
          generalize (wr.drewN m5).drewN m6 = w7 at *
          go_wp2_with fail
          refine (awake_any _).mono ?_
          rintro e w9 ⟨rfl, hb9⟩
          go_wp2
          go_ret
          exact ⟨rfl, HB7.out.trans (hb9.mono HB7.out.size)⟩

end Go.Proofs.Ytfjejobakknipaa
