/- The stamps that a change names: the document's Names, of any change; change.Less. -/
import Derived.Test.YtngldpabfpcaiaaGreatOlN
import Derived.Test.YtngldpabfpcaiaaGreatWalksB
namespace Go.Proofs.YtngldpabfpcaiaaGreat
open Go.RowKit
set_option linter.unusedVariables false
set_option linter.unusedSimpArgs false

theorem sort_on {p : Int × Int → Bool} {X : List (Int × Int)} {k : Nat} {D : List (Int × Int)} (h : k < X.length) (hD : D = S.sortL ((X.take k).filter p)) (hp : p X[k] = true) : S.putL D X[k] = S.sortL ((X.take (k + 1)).filter p) := by
  rw [filter_next h, if_pos hp, hD]
  unfold S.sortL
  rw [List.foldl_append]
  rfl
theorem sort_past {p : Int × Int → Bool} {X : List (Int × Int)} {k : Nat} {D : List (Int × Int)} (h : k < X.length) (hD : D = S.sortL ((X.take k).filter p)) (hp : p X[k] = false) : D = S.sortL ((X.take (k + 1)).filter p) := by rw [filter_next h, if_neg (by simp [hp]), List.append_nil, hD]
theorem below_of_alloc {w w' : World} {c r : Int} (h : w' = w.alloc (.cells #[.int .i64 c, .int .i64 r] 36)) : Below w.heap.size w w' := by rw [h]; exact (Below.refl _ _).alloc (Nat.le_refl _) _
/-- The change's box, the row of its three stamps, what is found so far. -/
def NSt (w0 : World) (cs rs : List Value) (v : Value) (D : List (Int × Int)) (W : World) : Prop := KeptC w0 w0.heap.size cs W ∧ KeptC w0 (w0.heap.size + 1) rs W ∧ S.IsS W v D
theorem NSt.step {w0 : World} {cs rs : List Value} {v : Value} {D : List (Int × Int)} {W W' : World} (h : NSt w0 cs rs v D W) (hb : Below W.heap.size W W') : NSt w0 cs rs v D W' := ⟨h.1.step hb, h.2.1.step hb, h.2.2.below hb⟩
theorem NSt.drew {w0 : World} {cs rs : List Value} {v : Value} {D : List (Int × Int)} {W : World} (h : NSt w0 cs rs v D W) : NSt w0 cs rs v D W.drew := h.step (Below.refl _ _).drew

set_option maxRecDepth 100000 in
set_option maxHeartbeats 8000000 in
/-- The document's Names. -/
theorem refNames_any (ac ar sq : Int) (dv : Value) (kd nc nr pc pr fc fr : Int) (nm vl : ByteArray) (ds : List Int) (w : World) :
    Calls Tryz.prog 73 #[.agg #[.int .i64 ac, .int .i64 ar, .int .i64 sq, dv, .int .i64 kd, .int .i64 nc, .int .i64 nr, .int .i64 pc, .int .i64 pr, .int .i64 fc, .int .i64 fr, .string nm, .string vl]] w fun e w' => ∃ v', e = .returned v' ∧ S.IsS w' v' (S.sortL (namesL ⟨ac, ar, sq, ds, kd, nc, nr, pc, pr, fc, fr, nm, vl⟩)) ∧ Below w.heap.size w w' := by
  have K0 := KeptC.start w [.int .i64 ac, .int .i64 ar, .int .i64 sq, dv, .int .i64 kd, .int .i64 nc, .int .i64 nr, .int .i64 pc, .int .i64 pr, .int .i64 fc, .int .i64 fr, .string nm, .string vl] 38
  have R0 := KeptC.start (w.alloc (.cells #[.int .i64 ac, .int .i64 ar, .int .i64 sq, dv, .int .i64 kd, .int .i64 nc, .int .i64 nr, .int .i64 pc, .int .i64 pr, .int .i64 fc, .int .i64 fr, .string nm, .string vl] 38)) [.int .i64 nc, .int .i64 nr, .int .i64 pc, .int .i64 pr, .int .i64 fc, .int .i64 fr] 36
  rw [show (w.alloc (.cells #[.int .i64 ac, .int .i64 ar, .int .i64 sq, dv, .int .i64 kd, .int .i64 nc, .int .i64 nr, .int .i64 pc, .int .i64 pr, .int .i64 fc, .int .i64 fr, .string nm, .string vl] 38)).heap.size = w.heap.size + 1 by simp] at R0
  have HK0 : KeptC w w.heap.size [.int .i64 ac, .int .i64 ar, .int .i64 sq, dv, .int .i64 kd, .int .i64 nc, .int .i64 nr, .int .i64 pc, .int .i64 pr, .int .i64 fc, .int .i64 fr, .string nm, .string vl] ((w.alloc (.cells #[.int .i64 ac, .int .i64 ar, .int .i64 sq, dv, .int .i64 kd, .int .i64 nc, .int .i64 nr, .int .i64 pc, .int .i64 pr, .int .i64 fc, .int .i64 fr, .string nm, .string vl] 38)).alloc (.cells #[.int .i64 nc, .int .i64 nr, .int .i64 pc, .int .i64 pr, .int .i64 fc, .int .i64 fr] 36)) := K0.step R0.2.2
  have HR0 : KeptC w (w.heap.size + 1) [.int .i64 nc, .int .i64 nr, .int .i64 pc, .int .i64 pr, .int .i64 fc, .int .i64 fr] ((w.alloc (.cells #[.int .i64 ac, .int .i64 ar, .int .i64 sq, dv, .int .i64 kd, .int .i64 nc, .int .i64 nr, .int .i64 pc, .int .i64 pr, .int .i64 fc, .int .i64 fr, .string nm, .string vl] 38)).alloc (.cells #[.int .i64 nc, .int .i64 nr, .int .i64 pc, .int .i64 pr, .int .i64 fc, .int .i64 fr] 36)) := ⟨R0.1, R0.2.1, HK0.2.2⟩
  have A3 : Below ((w.alloc (.cells #[.int .i64 ac, .int .i64 ar, .int .i64 sq, dv, .int .i64 kd, .int .i64 nc, .int .i64 nr, .int .i64 pc, .int .i64 pr, .int .i64 fc, .int .i64 fr, .string nm, .string vl] 38)).alloc (.cells #[.int .i64 nc, .int .i64 nr, .int .i64 pc, .int .i64 pr, .int .i64 fc, .int .i64 fr] 36)).heap.size ((w.alloc (.cells #[.int .i64 ac, .int .i64 ar, .int .i64 sq, dv, .int .i64 kd, .int .i64 nc, .int .i64 nr, .int .i64 pc, .int .i64 pr, .int .i64 fc, .int .i64 fr, .string nm, .string vl] 38)).alloc (.cells #[.int .i64 nc, .int .i64 nr, .int .i64 pc, .int .i64 pr, .int .i64 fc, .int .i64 fr] 36)) (((w.alloc (.cells #[.int .i64 ac, .int .i64 ar, .int .i64 sq, dv, .int .i64 kd, .int .i64 nc, .int .i64 nr, .int .i64 pc, .int .i64 pr, .int .i64 fc, .int .i64 fr, .string nm, .string vl] 38)).alloc (.cells #[.int .i64 nc, .int .i64 nr, .int .i64 pc, .int .i64 pr, .int .i64 fc, .int .i64 fr] 36)).alloc (.cells #[] 36)) := (Below.refl _ _).alloc (Nat.le_refl _) _
  have HS0 : Hid (NSt w [.int .i64 ac, .int .i64 ar, .int .i64 sq, dv, .int .i64 kd, .int .i64 nc, .int .i64 nr, .int .i64 pc, .int .i64 pr, .int .i64 fc, .int .i64 fr, .string nm, .string vl] [.int .i64 nc, .int .i64 nr, .int .i64 pc, .int .i64 pr, .int .i64 fc, .int .i64 fr] (.slice (some ⟨w.heap.size + 2, 0, none⟩) 0 0) [] (((w.alloc (.cells #[.int .i64 ac, .int .i64 ar, .int .i64 sq, dv, .int .i64 kd, .int .i64 nc, .int .i64 nr, .int .i64 pc, .int .i64 pr, .int .i64 fc, .int .i64 fr, .string nm, .string vl] 38)).alloc (.cells #[.int .i64 nc, .int .i64 nr, .int .i64 pc, .int .i64 pr, .int .i64 fc, .int .i64 fr] 36)).alloc (.cells #[] 36))) := ⟨HK0.step A3, HR0.step A3, S.isS_empty _ _⟩
  have HN0 : Hid (namesL ⟨ac, ar, sq, ds, kd, nc, nr, pc, pr, fc, fr, nm, vl⟩ = ([(nc, nr), (pc, pr), (fc, fr)] : List (Int × Int)).filter (namB2 ac ar)) := rfl
  clear K0 R0 HK0 HR0 A3
  go_enter Tryz.func73, Tryz.ntmps73
  go_wp2
  go_loopw [4, 5] (fun ov iv wr => ∃ (k : Nat) (D : List (Int × Int)), k ≤ 3 ∧ D.length ≤ k ∧ iv = .int .i64 (k : Int) ∧ Hid (D = S.sortL ((([(nc, nr), (pc, pr), (fc, fr)] : List (Int × Int)).take k).filter (namB2 ac ar))) ∧ Hid (NSt w [.int .i64 ac, .int .i64 ar, .int .i64 sq, dv, .int .i64 kd, .int .i64 nc, .int .i64 nr, .int .i64 pc, .int .i64 pr, .int .i64 fc, .int .i64 fr, .string nm, .string vl] [.int .i64 nc, .int .i64 nr, .int .i64 pc, .int .i64 pr, .int .i64 fc, .int .i64 fr] ov D wr)) (fun _ iv _ => 3 - (intOf iv).toNat)
  case atStart => exact ⟨0, [], by omega, by simp, rfl, rfl, HS0⟩
  case round =>
    obtain ⟨k, D, hk, hDl, rfl, HT, HS⟩ := hrel
    obtain ⟨ao, co, e0⟩ := HS.out.2.2.form
    subst e0
    obtain rfl | rfl | rfl | rfl : k = 0 ∨ k = 1 ∨ k = 2 ∨ k = 3 := by omega
    · have HT0 : Hid (D = S.sortL ((([(nc, nr), (pc, pr), (fc, fr)] : List (Int × Int)).take 0).filter (namB2 ac ar))) := HT
      have hi0 : (0 : Int) ≤ 0 := by omega
      have hi1 : (0 : Int) < 3 := by omega
      have x1 := HS.out.2.1.1 0 _ rfl
      have x2 := HS.out.2.1.1 1 _ rfl
      cases hrt : rightB nc nr
      · go_wp2_with fail
        refine wp_region_held_drew (S := fun W' => NSt w [.int .i64 ac, .int .i64 ar, .int .i64 sq, dv, .int .i64 kd, .int .i64 nc, .int .i64 nr, .int .i64 pc, .int .i64 pr, .int .i64 fc, .int .i64 fr, .string nm, .string vl] [.int .i64 nc, .int .i64 nr, .int .i64 pc, .int .i64 pr, .int .i64 fc, .int .i64 fr] (.slice ao D.length co) D W') (by kernel_rfl) HS.out.drew (fun hHeld => ?_)
        refine wpAnyH_take (i := 0) (oi := ⟨some 20, _, _, _, _, _⟩) (v := ?vk0n10) rfl (by kernel_rfl) (by kernel_rfl) (by kernel_rfl) (fun _ _ _ h => h) (Or.inl ⟨by rfl, ?hyk0n10⟩) hHeld ?restk0n10
        case hyk0n10 => (intro w hSw; (try dsimp only at hSw); have g0 := hSw.2.1.1 0 _ rfl; have g1 := hSw.2.1.1 1 _ rfl; have t0 := hSw.1.1 0 _ rfl; have t1 := hSw.1.1 1 _ rfl; go_simp; try with_reducible rfl)
        simp only [Act.put, List.setIfInBounds_toArray, List.set_cons_zero, List.set_cons_succ]
        refine wpAnyH_take (i := 1) (oi := ⟨some 21, _, _, _, _, _⟩) (v := ?vk0n11) rfl (by kernel_rfl) (by kernel_rfl) (by kernel_rfl) (fun _ _ _ h => h) (Or.inl ⟨by rfl, ?hyk0n11⟩) hHeld ?restk0n11
        case hyk0n11 => (intro w hSw; (try dsimp only at hSw); have g0 := hSw.2.1.1 0 _ rfl; have g1 := hSw.2.1.1 1 _ rfl; have t0 := hSw.1.1 0 _ rfl; have t1 := hSw.1.1 1 _ rfl; go_simp; try with_reducible rfl)
        simp only [Act.put, List.setIfInBounds_toArray, List.set_cons_zero, List.set_cons_succ]
        refine wpAnyH_take (i := 2) (oi := ⟨some 22, _, _, _, _, _⟩) (v := ?vk0n12) rfl (by kernel_rfl) (by kernel_rfl) (by kernel_rfl) (fun _ _ _ h => h) (Or.inl ⟨by rfl, ?hyk0n12⟩) hHeld ?restk0n12
        case hyk0n12 => (intro w hSw; (try dsimp only at hSw); have g0 := hSw.2.1.1 0 _ rfl; have g1 := hSw.2.1.1 1 _ rfl; have t0 := hSw.1.1 0 _ rfl; have t1 := hSw.1.1 1 _ rfl; go_simp; try with_reducible rfl)
        simp only [Act.put, List.setIfInBounds_toArray, List.set_cons_zero, List.set_cons_succ]
        refine wpAnyH_take (i := 3) (oi := ⟨some 23, _, _, _, _, _⟩) (v := ?vk0n13) rfl (by kernel_rfl) (by kernel_rfl) (by kernel_rfl) (fun _ _ _ h => h) (Or.inl ⟨by rfl, ?hyk0n13⟩) hHeld ?restk0n13
        case hyk0n13 => (intro w hSw; (try dsimp only at hSw); have g0 := hSw.2.1.1 0 _ rfl; have g1 := hSw.2.1.1 1 _ rfl; have t0 := hSw.1.1 0 _ rfl; have t1 := hSw.1.1 1 _ rfl; go_simp; try with_reducible rfl)
        simp only [Act.put, List.setIfInBounds_toArray, List.set_cons_zero, List.set_cons_succ]
        refine wpAnyH_ready (rs := [4]) (by kernel_rfl) (by simp) ?_
        refine AllReadyH.cons (o := ⟨some 24, _, _, _, _, _⟩) rfl (fun K hK => ?_) AllReadyH.nil
        go_simp
        have x1 := hHeld.2.1.1 0 _ rfl
        have x2 := hHeld.2.1.1 1 _ rfl
        (try go_simp)
        refine (refRight_any nc nr _).mono ?_
        rintro e w1 ⟨rfl, hw⟩
        have hb := below_of_alloc hw
        clear hw
        rw [hrt]
        (try go_wp2_with fail)
        refine hK.out _ _ (hHeld.step hb) (fun hHeld2 => ?_)
        clear hK K hHeld
        have hHeld := hHeld2
        clear hHeld2
        (try simp only [Act.put, List.setIfInBounds_toArray, List.set_cons_zero, List.set_cons_succ])
        refine wpAnyH_take (i := 5) (oi := ⟨some 25, _, _, _, _, _⟩) (v := ?vk0n15) rfl (by kernel_rfl) (by kernel_rfl) (by kernel_rfl) (fun _ _ _ h => h) (Or.inl ⟨by rfl, ?hyk0n15⟩) hHeld ?restk0n15
        case hyk0n15 => (intro w hSw; (try dsimp only at hSw); have g0 := hSw.2.1.1 0 _ rfl; have g1 := hSw.2.1.1 1 _ rfl; have t0 := hSw.1.1 0 _ rfl; have t1 := hSw.1.1 1 _ rfl; go_simp; try with_reducible rfl)
        simp only [Act.put, List.setIfInBounds_toArray, List.set_cons_zero, List.set_cons_succ]
        refine wpAnyH_take (i := 6) (oi := ⟨some 26, _, _, _, _, _⟩) (v := undef) rfl (by kernel_rfl) (by kernel_rfl) (by kernel_rfl) (fun _ _ _ h => h) (Or.inr ⟨by rfl, rfl⟩) hHeld ?_
        simp only [Act.put, List.setIfInBounds_toArray, List.set_cons_zero, List.set_cons_succ]
        refine wpAnyH_take (i := 7) (oi := ⟨some 27, _, _, _, _, _⟩) (v := undef) rfl (by kernel_rfl) (by kernel_rfl) (by kernel_rfl) (fun _ _ _ h => h) (Or.inr ⟨by rfl, rfl⟩) hHeld ?_
        simp only [Act.put, List.setIfInBounds_toArray, List.set_cons_zero, List.set_cons_succ]
        refine wpAnyH_take (i := 8) (oi := ⟨some 28, _, _, _, _, _⟩) (v := undef) rfl (by kernel_rfl) (by kernel_rfl) (by kernel_rfl) (fun _ _ _ h => h) (Or.inr ⟨by rfl, rfl⟩) hHeld ?_
        simp only [Act.put, List.setIfInBounds_toArray, List.set_cons_zero, List.set_cons_succ]
        refine wpAnyH_take (i := 9) (oi := ⟨some 29, _, _, _, _, _⟩) (v := undef) rfl (by kernel_rfl) (by kernel_rfl) (by kernel_rfl) (fun _ _ _ h => h) (Or.inr ⟨by rfl, rfl⟩) hHeld ?_
        simp only [Act.put, List.setIfInBounds_toArray, List.set_cons_zero, List.set_cons_succ]
        refine wpAnyH_take (i := 10) (oi := ⟨some 30, _, _, _, _, _⟩) (v := undef) rfl (by kernel_rfl) (by kernel_rfl) (by kernel_rfl) (fun _ _ _ h => h) (Or.inr ⟨by rfl, rfl⟩) hHeld ?_
        simp only [Act.put, List.setIfInBounds_toArray, List.set_cons_zero, List.set_cons_succ]
        refine wpAnyH_take (i := 11) (oi := ⟨some 31, _, _, _, _, _⟩) (v := undef) rfl (by kernel_rfl) (by kernel_rfl) (by kernel_rfl) (fun _ _ _ h => h) (Or.inr ⟨by rfl, rfl⟩) hHeld ?_
        simp only [Act.put, List.setIfInBounds_toArray, List.set_cons_zero, List.set_cons_succ]
        refine wpAnyH_take (i := 12) (oi := ⟨some 32, _, _, _, _, _⟩) (v := undef) rfl (by kernel_rfl) (by kernel_rfl) (by kernel_rfl) (fun _ _ _ h => h) (Or.inr ⟨by rfl, rfl⟩) hHeld ?_
        simp only [Act.put, List.setIfInBounds_toArray, List.set_cons_zero, List.set_cons_succ]
        refine wpAnyH_take (i := 13) (oi := ⟨some 33, _, _, _, _, _⟩) (v := ?vk0n113) rfl (by kernel_rfl) (by kernel_rfl) (by kernel_rfl) (fun _ _ _ h => h) (Or.inl ⟨by rfl, ?hyk0n113⟩) hHeld ?restk0n113
        case hyk0n113 => (intro w hSw; (try dsimp only at hSw); have g0 := hSw.2.1.1 0 _ rfl; have g1 := hSw.2.1.1 1 _ rfl; have t0 := hSw.1.1 0 _ rfl; have t1 := hSw.1.1 1 _ rfl; go_simp; try with_reducible rfl)
        simp only [Act.put, List.setIfInBounds_toArray, List.set_cons_zero, List.set_cons_succ]
        refine wpAnyH_done (by kernel_rfl) ?_ _
        have HS1 : Hid (NSt w [.int .i64 ac, .int .i64 ar, .int .i64 sq, dv, .int .i64 kd, .int .i64 nc, .int .i64 nr, .int .i64 pc, .int .i64 pr, .int .i64 fc, .int .i64 fr, .string nm, .string vl] [.int .i64 nc, .int .i64 nr, .int .i64 pc, .int .i64 pr, .int .i64 fc, .int .i64 fr] (.slice ao D.length co) D _) := hHeld
        clear hHeld
        go_wp2
        go_roundw
        case rel => exact ⟨1, D, by omega, by omega, by first | rfl | go_num, (sort_past (X := [(nc, nr), (pc, pr), (fc, fr)]) (k := 0) (by simp) HT0.out (namB2_not hrt)), HS1⟩
        case measure => simp [intOf]
      · by_cases ec : nc = ac
        · by_cases er : nr = ar
          · have qc : (nc == ac) = true := by simp [ec]
            have qr : (nr == ar) = true := by simp [er]
            have qc2 : (nc != ac) = false := by simp [ec]
            have qr2 : (nr != ar) = false := by simp [er]
            have HP : Hid (namB2 ac ar (nc, nr) = false) := by rw [ec, er]; exact namB2_own
            clear ec er
            go_wp2_with fail
            refine wp_region_held_drew (S := fun W' => NSt w [.int .i64 ac, .int .i64 ar, .int .i64 sq, dv, .int .i64 kd, .int .i64 nc, .int .i64 nr, .int .i64 pc, .int .i64 pr, .int .i64 fc, .int .i64 fr, .string nm, .string vl] [.int .i64 nc, .int .i64 nr, .int .i64 pc, .int .i64 pr, .int .i64 fc, .int .i64 fr] (.slice ao D.length co) D W') (by kernel_rfl) HS.out.drew (fun hHeld => ?_)
            refine wpAnyH_take (i := 0) (oi := ⟨some 20, _, _, _, _, _⟩) (v := ?vk0n20) rfl (by kernel_rfl) (by kernel_rfl) (by kernel_rfl) (fun _ _ _ h => h) (Or.inl ⟨by rfl, ?hyk0n20⟩) hHeld ?restk0n20
            case hyk0n20 => (intro w hSw; (try dsimp only at hSw); have g0 := hSw.2.1.1 0 _ rfl; have g1 := hSw.2.1.1 1 _ rfl; have t0 := hSw.1.1 0 _ rfl; have t1 := hSw.1.1 1 _ rfl; go_simp; try with_reducible rfl)
            simp only [Act.put, List.setIfInBounds_toArray, List.set_cons_zero, List.set_cons_succ]
            refine wpAnyH_take (i := 1) (oi := ⟨some 21, _, _, _, _, _⟩) (v := ?vk0n21) rfl (by kernel_rfl) (by kernel_rfl) (by kernel_rfl) (fun _ _ _ h => h) (Or.inl ⟨by rfl, ?hyk0n21⟩) hHeld ?restk0n21
            case hyk0n21 => (intro w hSw; (try dsimp only at hSw); have g0 := hSw.2.1.1 0 _ rfl; have g1 := hSw.2.1.1 1 _ rfl; have t0 := hSw.1.1 0 _ rfl; have t1 := hSw.1.1 1 _ rfl; go_simp; try with_reducible rfl)
            simp only [Act.put, List.setIfInBounds_toArray, List.set_cons_zero, List.set_cons_succ]
            refine wpAnyH_take (i := 2) (oi := ⟨some 22, _, _, _, _, _⟩) (v := ?vk0n22) rfl (by kernel_rfl) (by kernel_rfl) (by kernel_rfl) (fun _ _ _ h => h) (Or.inl ⟨by rfl, ?hyk0n22⟩) hHeld ?restk0n22
            case hyk0n22 => (intro w hSw; (try dsimp only at hSw); have g0 := hSw.2.1.1 0 _ rfl; have g1 := hSw.2.1.1 1 _ rfl; have t0 := hSw.1.1 0 _ rfl; have t1 := hSw.1.1 1 _ rfl; go_simp; try with_reducible rfl)
            simp only [Act.put, List.setIfInBounds_toArray, List.set_cons_zero, List.set_cons_succ]
            refine wpAnyH_take (i := 3) (oi := ⟨some 23, _, _, _, _, _⟩) (v := ?vk0n23) rfl (by kernel_rfl) (by kernel_rfl) (by kernel_rfl) (fun _ _ _ h => h) (Or.inl ⟨by rfl, ?hyk0n23⟩) hHeld ?restk0n23
            case hyk0n23 => (intro w hSw; (try dsimp only at hSw); have g0 := hSw.2.1.1 0 _ rfl; have g1 := hSw.2.1.1 1 _ rfl; have t0 := hSw.1.1 0 _ rfl; have t1 := hSw.1.1 1 _ rfl; go_simp; try with_reducible rfl)
            simp only [Act.put, List.setIfInBounds_toArray, List.set_cons_zero, List.set_cons_succ]
            refine wpAnyH_ready (rs := [4]) (by kernel_rfl) (by simp) ?_
            refine AllReadyH.cons (o := ⟨some 24, _, _, _, _, _⟩) rfl (fun K hK => ?_) AllReadyH.nil
            go_simp
            have x1 := hHeld.2.1.1 0 _ rfl
            have x2 := hHeld.2.1.1 1 _ rfl
            (try go_simp)
            refine (refRight_any nc nr _).mono ?_
            rintro e w1 ⟨rfl, hw⟩
            have hb := below_of_alloc hw
            clear hw
            rw [hrt]
            (try go_wp2_with fail)
            refine hK.out _ _ (hHeld.step hb) (fun hHeld2 => ?_)
            clear hK K hHeld
            have hHeld := hHeld2
            clear hHeld2
            (try simp only [Act.put, List.setIfInBounds_toArray, List.set_cons_zero, List.set_cons_succ])
            refine wpAnyH_take (i := 5) (oi := ⟨some 25, _, _, _, _, _⟩) (v := ?vk0n25) rfl (by kernel_rfl) (by kernel_rfl) (by kernel_rfl) (fun _ _ _ h => h) (Or.inl ⟨by rfl, ?hyk0n25⟩) hHeld ?restk0n25
            case hyk0n25 => (intro w hSw; (try dsimp only at hSw); have g0 := hSw.2.1.1 0 _ rfl; have g1 := hSw.2.1.1 1 _ rfl; have t0 := hSw.1.1 0 _ rfl; have t1 := hSw.1.1 1 _ rfl; go_simp; try with_reducible rfl)
            simp only [Act.put, List.setIfInBounds_toArray, List.set_cons_zero, List.set_cons_succ]
            refine wpAnyH_take (i := 6) (oi := ⟨some 26, _, _, _, _, _⟩) (v := ?vk0n26) rfl (by kernel_rfl) (by kernel_rfl) (by kernel_rfl) (fun _ _ _ h => h) (Or.inl ⟨by rfl, ?hyk0n26⟩) hHeld ?restk0n26
            case hyk0n26 => (intro w hSw; (try dsimp only at hSw); have g0 := hSw.2.1.1 0 _ rfl; have g1 := hSw.2.1.1 1 _ rfl; have t0 := hSw.1.1 0 _ rfl; have t1 := hSw.1.1 1 _ rfl; go_simp; try with_reducible rfl)
            simp only [Act.put, List.setIfInBounds_toArray, List.set_cons_zero, List.set_cons_succ]
            refine wpAnyH_take (i := 7) (oi := ⟨some 27, _, _, _, _, _⟩) (v := ?vk0n27) rfl (by kernel_rfl) (by kernel_rfl) (by kernel_rfl) (fun _ _ _ h => h) (Or.inl ⟨by rfl, ?hyk0n27⟩) hHeld ?restk0n27
            case hyk0n27 => (intro w hSw; (try dsimp only at hSw); have g0 := hSw.2.1.1 0 _ rfl; have g1 := hSw.2.1.1 1 _ rfl; have t0 := hSw.1.1 0 _ rfl; have t1 := hSw.1.1 1 _ rfl; go_simp; try with_reducible rfl)
            simp only [Act.put, List.setIfInBounds_toArray, List.set_cons_zero, List.set_cons_succ]
            refine wpAnyH_take (i := 8) (oi := ⟨some 28, _, _, _, _, _⟩) (v := ?vk0n28) rfl (by kernel_rfl) (by kernel_rfl) (by kernel_rfl) (fun _ _ _ h => h) (Or.inl ⟨by rfl, ?hyk0n28⟩) hHeld ?restk0n28
            case hyk0n28 => (intro w hSw; (try dsimp only at hSw); have g0 := hSw.2.1.1 0 _ rfl; have g1 := hSw.2.1.1 1 _ rfl; have t0 := hSw.1.1 0 _ rfl; have t1 := hSw.1.1 1 _ rfl; go_simp; try with_reducible rfl)
            simp only [Act.put, List.setIfInBounds_toArray, List.set_cons_zero, List.set_cons_succ]
            refine wpAnyH_take (i := 9) (oi := ⟨some 29, _, _, _, _, _⟩) (v := ?vk0n29) rfl (by kernel_rfl) (by kernel_rfl) (by kernel_rfl) (fun _ _ _ h => h) (Or.inl ⟨by rfl, ?hyk0n29⟩) hHeld ?restk0n29
            case hyk0n29 => (intro w hSw; (try dsimp only at hSw); have g0 := hSw.2.1.1 0 _ rfl; have g1 := hSw.2.1.1 1 _ rfl; have t0 := hSw.1.1 0 _ rfl; have t1 := hSw.1.1 1 _ rfl; go_simp; try with_reducible rfl)
            simp only [Act.put, List.setIfInBounds_toArray, List.set_cons_zero, List.set_cons_succ]
            refine wpAnyH_take (i := 10) (oi := ⟨some 30, _, _, _, _, _⟩) (v := ?vk0n210) rfl (by kernel_rfl) (by kernel_rfl) (by kernel_rfl) (fun _ _ _ h => h) (Or.inl ⟨by rfl, ?hyk0n210⟩) hHeld ?restk0n210
            case hyk0n210 => (intro w hSw; (try dsimp only at hSw); have g0 := hSw.2.1.1 0 _ rfl; have g1 := hSw.2.1.1 1 _ rfl; have t0 := hSw.1.1 0 _ rfl; have t1 := hSw.1.1 1 _ rfl; go_simp; try with_reducible rfl)
            simp only [Act.put, List.setIfInBounds_toArray, List.set_cons_zero, List.set_cons_succ]
            refine wpAnyH_take (i := 11) (oi := ⟨some 31, _, _, _, _, _⟩) (v := ?vk0n211) rfl (by kernel_rfl) (by kernel_rfl) (by kernel_rfl) (fun _ _ _ h => h) (Or.inl ⟨by rfl, ?hyk0n211⟩) hHeld ?restk0n211
            case hyk0n211 => (intro w hSw; (try dsimp only at hSw); have g0 := hSw.2.1.1 0 _ rfl; have g1 := hSw.2.1.1 1 _ rfl; have t0 := hSw.1.1 0 _ rfl; have t1 := hSw.1.1 1 _ rfl; go_simp; try with_reducible rfl)
            simp only [Act.put, List.setIfInBounds_toArray, List.set_cons_zero, List.set_cons_succ]
            refine wpAnyH_take (i := 12) (oi := ⟨some 32, _, _, _, _, _⟩) (v := ?vk0n212) rfl (by kernel_rfl) (by kernel_rfl) (by kernel_rfl) (fun _ _ _ h => h) (Or.inl ⟨by rfl, ?hyk0n212⟩) hHeld ?restk0n212
            case hyk0n212 => (intro w hSw; (try dsimp only at hSw); have g0 := hSw.2.1.1 0 _ rfl; have g1 := hSw.2.1.1 1 _ rfl; have t0 := hSw.1.1 0 _ rfl; have t1 := hSw.1.1 1 _ rfl; go_simp; try with_reducible rfl)
            simp only [Act.put, List.setIfInBounds_toArray, List.set_cons_zero, List.set_cons_succ]
            refine wpAnyH_take (i := 13) (oi := ⟨some 33, _, _, _, _, _⟩) (v := ?vk0n213) rfl (by kernel_rfl) (by kernel_rfl) (by kernel_rfl) (fun _ _ _ h => h) (Or.inl ⟨by rfl, ?hyk0n213⟩) hHeld ?restk0n213
            case hyk0n213 => (intro w hSw; (try dsimp only at hSw); have g0 := hSw.2.1.1 0 _ rfl; have g1 := hSw.2.1.1 1 _ rfl; have t0 := hSw.1.1 0 _ rfl; have t1 := hSw.1.1 1 _ rfl; go_simp; try with_reducible rfl)
            simp only [Act.put, List.setIfInBounds_toArray, List.set_cons_zero, List.set_cons_succ]
            refine wpAnyH_done (by kernel_rfl) ?_ _
            have HS1 : Hid (NSt w [.int .i64 ac, .int .i64 ar, .int .i64 sq, dv, .int .i64 kd, .int .i64 nc, .int .i64 nr, .int .i64 pc, .int .i64 pr, .int .i64 fc, .int .i64 fr, .string nm, .string vl] [.int .i64 nc, .int .i64 nr, .int .i64 pc, .int .i64 pr, .int .i64 fc, .int .i64 fr] (.slice ao D.length co) D _) := hHeld
            clear hHeld
            go_wp2
            go_roundw
            case rel => exact ⟨1, D, by omega, by omega, by first | rfl | go_num, (sort_past (X := [(nc, nr), (pc, pr), (fc, fr)]) (k := 0) (by simp) HT0.out HP.out), HS1⟩
            case measure => simp [intOf]
          · have qc : (nc == ac) = true := by simp [ec]
            have qr : (nr == ar) = false := by simp [er]
            have qr2 : (nr != ar) = true := by simp [er]
            have HP : Hid (namB2 ac ar (nc, nr) = true) := namB2_r hrt er
            clear ec er
            go_wp2_with fail
            refine wp_region_held_drew (S := fun W' => NSt w [.int .i64 ac, .int .i64 ar, .int .i64 sq, dv, .int .i64 kd, .int .i64 nc, .int .i64 nr, .int .i64 pc, .int .i64 pr, .int .i64 fc, .int .i64 fr, .string nm, .string vl] [.int .i64 nc, .int .i64 nr, .int .i64 pc, .int .i64 pr, .int .i64 fc, .int .i64 fr] (.slice ao D.length co) D W') (by kernel_rfl) HS.out.drew (fun hHeld => ?_)
            refine wpAnyH_take (i := 0) (oi := ⟨some 20, _, _, _, _, _⟩) (v := ?vk0n30) rfl (by kernel_rfl) (by kernel_rfl) (by kernel_rfl) (fun _ _ _ h => h) (Or.inl ⟨by rfl, ?hyk0n30⟩) hHeld ?restk0n30
            case hyk0n30 => (intro w hSw; (try dsimp only at hSw); have g0 := hSw.2.1.1 0 _ rfl; have g1 := hSw.2.1.1 1 _ rfl; have t0 := hSw.1.1 0 _ rfl; have t1 := hSw.1.1 1 _ rfl; go_simp; try with_reducible rfl)
            simp only [Act.put, List.setIfInBounds_toArray, List.set_cons_zero, List.set_cons_succ]
            refine wpAnyH_take (i := 1) (oi := ⟨some 21, _, _, _, _, _⟩) (v := ?vk0n31) rfl (by kernel_rfl) (by kernel_rfl) (by kernel_rfl) (fun _ _ _ h => h) (Or.inl ⟨by rfl, ?hyk0n31⟩) hHeld ?restk0n31
            case hyk0n31 => (intro w hSw; (try dsimp only at hSw); have g0 := hSw.2.1.1 0 _ rfl; have g1 := hSw.2.1.1 1 _ rfl; have t0 := hSw.1.1 0 _ rfl; have t1 := hSw.1.1 1 _ rfl; go_simp; try with_reducible rfl)
            simp only [Act.put, List.setIfInBounds_toArray, List.set_cons_zero, List.set_cons_succ]
            refine wpAnyH_take (i := 2) (oi := ⟨some 22, _, _, _, _, _⟩) (v := ?vk0n32) rfl (by kernel_rfl) (by kernel_rfl) (by kernel_rfl) (fun _ _ _ h => h) (Or.inl ⟨by rfl, ?hyk0n32⟩) hHeld ?restk0n32
            case hyk0n32 => (intro w hSw; (try dsimp only at hSw); have g0 := hSw.2.1.1 0 _ rfl; have g1 := hSw.2.1.1 1 _ rfl; have t0 := hSw.1.1 0 _ rfl; have t1 := hSw.1.1 1 _ rfl; go_simp; try with_reducible rfl)
            simp only [Act.put, List.setIfInBounds_toArray, List.set_cons_zero, List.set_cons_succ]
            refine wpAnyH_take (i := 3) (oi := ⟨some 23, _, _, _, _, _⟩) (v := ?vk0n33) rfl (by kernel_rfl) (by kernel_rfl) (by kernel_rfl) (fun _ _ _ h => h) (Or.inl ⟨by rfl, ?hyk0n33⟩) hHeld ?restk0n33
            case hyk0n33 => (intro w hSw; (try dsimp only at hSw); have g0 := hSw.2.1.1 0 _ rfl; have g1 := hSw.2.1.1 1 _ rfl; have t0 := hSw.1.1 0 _ rfl; have t1 := hSw.1.1 1 _ rfl; go_simp; try with_reducible rfl)
            simp only [Act.put, List.setIfInBounds_toArray, List.set_cons_zero, List.set_cons_succ]
            refine wpAnyH_ready (rs := [4]) (by kernel_rfl) (by simp) ?_
            refine AllReadyH.cons (o := ⟨some 24, _, _, _, _, _⟩) rfl (fun K hK => ?_) AllReadyH.nil
            go_simp
            have x1 := hHeld.2.1.1 0 _ rfl
            have x2 := hHeld.2.1.1 1 _ rfl
            (try go_simp)
            refine (refRight_any nc nr _).mono ?_
            rintro e w1 ⟨rfl, hw⟩
            have hb := below_of_alloc hw
            clear hw
            rw [hrt]
            (try go_wp2_with fail)
            refine hK.out _ _ (hHeld.step hb) (fun hHeld2 => ?_)
            clear hK K hHeld
            have hHeld := hHeld2
            clear hHeld2
            (try simp only [Act.put, List.setIfInBounds_toArray, List.set_cons_zero, List.set_cons_succ])
            refine wpAnyH_take (i := 5) (oi := ⟨some 25, _, _, _, _, _⟩) (v := ?vk0n35) rfl (by kernel_rfl) (by kernel_rfl) (by kernel_rfl) (fun _ _ _ h => h) (Or.inl ⟨by rfl, ?hyk0n35⟩) hHeld ?restk0n35
            case hyk0n35 => (intro w hSw; (try dsimp only at hSw); have g0 := hSw.2.1.1 0 _ rfl; have g1 := hSw.2.1.1 1 _ rfl; have t0 := hSw.1.1 0 _ rfl; have t1 := hSw.1.1 1 _ rfl; go_simp; try with_reducible rfl)
            simp only [Act.put, List.setIfInBounds_toArray, List.set_cons_zero, List.set_cons_succ]
            refine wpAnyH_take (i := 6) (oi := ⟨some 26, _, _, _, _, _⟩) (v := ?vk0n36) rfl (by kernel_rfl) (by kernel_rfl) (by kernel_rfl) (fun _ _ _ h => h) (Or.inl ⟨by rfl, ?hyk0n36⟩) hHeld ?restk0n36
            case hyk0n36 => (intro w hSw; (try dsimp only at hSw); have g0 := hSw.2.1.1 0 _ rfl; have g1 := hSw.2.1.1 1 _ rfl; have t0 := hSw.1.1 0 _ rfl; have t1 := hSw.1.1 1 _ rfl; go_simp; try with_reducible rfl)
            simp only [Act.put, List.setIfInBounds_toArray, List.set_cons_zero, List.set_cons_succ]
            refine wpAnyH_take (i := 7) (oi := ⟨some 27, _, _, _, _, _⟩) (v := ?vk0n37) rfl (by kernel_rfl) (by kernel_rfl) (by kernel_rfl) (fun _ _ _ h => h) (Or.inl ⟨by rfl, ?hyk0n37⟩) hHeld ?restk0n37
            case hyk0n37 => (intro w hSw; (try dsimp only at hSw); have g0 := hSw.2.1.1 0 _ rfl; have g1 := hSw.2.1.1 1 _ rfl; have t0 := hSw.1.1 0 _ rfl; have t1 := hSw.1.1 1 _ rfl; go_simp; try with_reducible rfl)
            simp only [Act.put, List.setIfInBounds_toArray, List.set_cons_zero, List.set_cons_succ]
            refine wpAnyH_take (i := 8) (oi := ⟨some 28, _, _, _, _, _⟩) (v := ?vk0n38) rfl (by kernel_rfl) (by kernel_rfl) (by kernel_rfl) (fun _ _ _ h => h) (Or.inl ⟨by rfl, ?hyk0n38⟩) hHeld ?restk0n38
            case hyk0n38 => (intro w hSw; (try dsimp only at hSw); have g0 := hSw.2.1.1 0 _ rfl; have g1 := hSw.2.1.1 1 _ rfl; have t0 := hSw.1.1 0 _ rfl; have t1 := hSw.1.1 1 _ rfl; go_simp; try with_reducible rfl)
            simp only [Act.put, List.setIfInBounds_toArray, List.set_cons_zero, List.set_cons_succ]
            refine wpAnyH_take (i := 9) (oi := ⟨some 29, _, _, _, _, _⟩) (v := ?vk0n39) rfl (by kernel_rfl) (by kernel_rfl) (by kernel_rfl) (fun _ _ _ h => h) (Or.inl ⟨by rfl, ?hyk0n39⟩) hHeld ?restk0n39
            case hyk0n39 => (intro w hSw; (try dsimp only at hSw); have g0 := hSw.2.1.1 0 _ rfl; have g1 := hSw.2.1.1 1 _ rfl; have t0 := hSw.1.1 0 _ rfl; have t1 := hSw.1.1 1 _ rfl; go_simp; try with_reducible rfl)
            simp only [Act.put, List.setIfInBounds_toArray, List.set_cons_zero, List.set_cons_succ]
            refine wpAnyH_take (i := 10) (oi := ⟨some 30, _, _, _, _, _⟩) (v := ?vk0n310) rfl (by kernel_rfl) (by kernel_rfl) (by kernel_rfl) (fun _ _ _ h => h) (Or.inl ⟨by rfl, ?hyk0n310⟩) hHeld ?restk0n310
            case hyk0n310 => (intro w hSw; (try dsimp only at hSw); have g0 := hSw.2.1.1 0 _ rfl; have g1 := hSw.2.1.1 1 _ rfl; have t0 := hSw.1.1 0 _ rfl; have t1 := hSw.1.1 1 _ rfl; go_simp; try with_reducible rfl)
            simp only [Act.put, List.setIfInBounds_toArray, List.set_cons_zero, List.set_cons_succ]
            refine wpAnyH_take (i := 11) (oi := ⟨some 31, _, _, _, _, _⟩) (v := ?vk0n311) rfl (by kernel_rfl) (by kernel_rfl) (by kernel_rfl) (fun _ _ _ h => h) (Or.inl ⟨by rfl, ?hyk0n311⟩) hHeld ?restk0n311
            case hyk0n311 => (intro w hSw; (try dsimp only at hSw); have g0 := hSw.2.1.1 0 _ rfl; have g1 := hSw.2.1.1 1 _ rfl; have t0 := hSw.1.1 0 _ rfl; have t1 := hSw.1.1 1 _ rfl; go_simp; try with_reducible rfl)
            simp only [Act.put, List.setIfInBounds_toArray, List.set_cons_zero, List.set_cons_succ]
            refine wpAnyH_take (i := 12) (oi := ⟨some 32, _, _, _, _, _⟩) (v := ?vk0n312) rfl (by kernel_rfl) (by kernel_rfl) (by kernel_rfl) (fun _ _ _ h => h) (Or.inl ⟨by rfl, ?hyk0n312⟩) hHeld ?restk0n312
            case hyk0n312 => (intro w hSw; (try dsimp only at hSw); have g0 := hSw.2.1.1 0 _ rfl; have g1 := hSw.2.1.1 1 _ rfl; have t0 := hSw.1.1 0 _ rfl; have t1 := hSw.1.1 1 _ rfl; go_simp; try with_reducible rfl)
            simp only [Act.put, List.setIfInBounds_toArray, List.set_cons_zero, List.set_cons_succ]
            refine wpAnyH_take (i := 13) (oi := ⟨some 33, _, _, _, _, _⟩) (v := ?vk0n313) rfl (by kernel_rfl) (by kernel_rfl) (by kernel_rfl) (fun _ _ _ h => h) (Or.inl ⟨by rfl, ?hyk0n313⟩) hHeld ?restk0n313
            case hyk0n313 => (intro w hSw; (try dsimp only at hSw); have g0 := hSw.2.1.1 0 _ rfl; have g1 := hSw.2.1.1 1 _ rfl; have t0 := hSw.1.1 0 _ rfl; have t1 := hSw.1.1 1 _ rfl; go_simp; try with_reducible rfl)
            simp only [Act.put, List.setIfInBounds_toArray, List.set_cons_zero, List.set_cons_succ]
            refine wpAnyH_done (by kernel_rfl) ?_ _
            have HS1 : Hid (NSt w [.int .i64 ac, .int .i64 ar, .int .i64 sq, dv, .int .i64 kd, .int .i64 nc, .int .i64 nr, .int .i64 pc, .int .i64 pr, .int .i64 fc, .int .i64 fr, .string nm, .string vl] [.int .i64 nc, .int .i64 nr, .int .i64 pc, .int .i64 pr, .int .i64 fc, .int .i64 fr] (.slice ao D.length co) D _) := hHeld
            clear hHeld
            have y1 := HS1.out.2.1.1 0 _ rfl
            have y2 := HS1.out.2.1.1 1 _ rfl
            go_wp2_with fail
            refine (S.put_any (.slice ao D.length co) D nc nr _ HS1.out.2.2 (by omega)).mono ?_
            rintro e w2 ⟨v2, rfl, his2, hb2⟩
            have HS2 : Hid (NSt w [.int .i64 ac, .int .i64 ar, .int .i64 sq, dv, .int .i64 kd, .int .i64 nc, .int .i64 nr, .int .i64 pc, .int .i64 pr, .int .i64 fc, .int .i64 fr, .string nm, .string vl] [.int .i64 nc, .int .i64 nr, .int .i64 pc, .int .i64 pr, .int .i64 fc, .int .i64 fr] v2 (S.putL D (nc, nr)) w2) := ⟨HS1.out.1.step hb2, HS1.out.2.1.step hb2, his2⟩
            have hpl := S.putL_length D (nc, nr)
            clear his2 hb2
            go_wp2
            go_roundw
            case rel => exact ⟨1, S.putL D (nc, nr), by omega, by omega, by first | rfl | go_num, (sort_on (X := [(nc, nr), (pc, pr), (fc, fr)]) (k := 0) (by simp) HT0.out HP.out), HS2⟩
            case measure => simp [intOf]
        · have qc : (nc == ac) = false := by simp [ec]
          have qc2 : (nc != ac) = true := by simp [ec]
          have HP : Hid (namB2 ac ar (nc, nr) = true) := namB2_c hrt ec
          clear ec
          go_wp2_with fail
          refine wp_region_held_drew (S := fun W' => NSt w [.int .i64 ac, .int .i64 ar, .int .i64 sq, dv, .int .i64 kd, .int .i64 nc, .int .i64 nr, .int .i64 pc, .int .i64 pr, .int .i64 fc, .int .i64 fr, .string nm, .string vl] [.int .i64 nc, .int .i64 nr, .int .i64 pc, .int .i64 pr, .int .i64 fc, .int .i64 fr] (.slice ao D.length co) D W') (by kernel_rfl) HS.out.drew (fun hHeld => ?_)
          refine wpAnyH_take (i := 0) (oi := ⟨some 20, _, _, _, _, _⟩) (v := ?vk0n40) rfl (by kernel_rfl) (by kernel_rfl) (by kernel_rfl) (fun _ _ _ h => h) (Or.inl ⟨by rfl, ?hyk0n40⟩) hHeld ?restk0n40
          case hyk0n40 => (intro w hSw; (try dsimp only at hSw); have g0 := hSw.2.1.1 0 _ rfl; have g1 := hSw.2.1.1 1 _ rfl; have t0 := hSw.1.1 0 _ rfl; have t1 := hSw.1.1 1 _ rfl; go_simp; try with_reducible rfl)
          simp only [Act.put, List.setIfInBounds_toArray, List.set_cons_zero, List.set_cons_succ]
          refine wpAnyH_take (i := 1) (oi := ⟨some 21, _, _, _, _, _⟩) (v := ?vk0n41) rfl (by kernel_rfl) (by kernel_rfl) (by kernel_rfl) (fun _ _ _ h => h) (Or.inl ⟨by rfl, ?hyk0n41⟩) hHeld ?restk0n41
          case hyk0n41 => (intro w hSw; (try dsimp only at hSw); have g0 := hSw.2.1.1 0 _ rfl; have g1 := hSw.2.1.1 1 _ rfl; have t0 := hSw.1.1 0 _ rfl; have t1 := hSw.1.1 1 _ rfl; go_simp; try with_reducible rfl)
          simp only [Act.put, List.setIfInBounds_toArray, List.set_cons_zero, List.set_cons_succ]
          refine wpAnyH_take (i := 2) (oi := ⟨some 22, _, _, _, _, _⟩) (v := ?vk0n42) rfl (by kernel_rfl) (by kernel_rfl) (by kernel_rfl) (fun _ _ _ h => h) (Or.inl ⟨by rfl, ?hyk0n42⟩) hHeld ?restk0n42
          case hyk0n42 => (intro w hSw; (try dsimp only at hSw); have g0 := hSw.2.1.1 0 _ rfl; have g1 := hSw.2.1.1 1 _ rfl; have t0 := hSw.1.1 0 _ rfl; have t1 := hSw.1.1 1 _ rfl; go_simp; try with_reducible rfl)
          simp only [Act.put, List.setIfInBounds_toArray, List.set_cons_zero, List.set_cons_succ]
          refine wpAnyH_take (i := 3) (oi := ⟨some 23, _, _, _, _, _⟩) (v := ?vk0n43) rfl (by kernel_rfl) (by kernel_rfl) (by kernel_rfl) (fun _ _ _ h => h) (Or.inl ⟨by rfl, ?hyk0n43⟩) hHeld ?restk0n43
          case hyk0n43 => (intro w hSw; (try dsimp only at hSw); have g0 := hSw.2.1.1 0 _ rfl; have g1 := hSw.2.1.1 1 _ rfl; have t0 := hSw.1.1 0 _ rfl; have t1 := hSw.1.1 1 _ rfl; go_simp; try with_reducible rfl)
          simp only [Act.put, List.setIfInBounds_toArray, List.set_cons_zero, List.set_cons_succ]
          refine wpAnyH_ready (rs := [4]) (by kernel_rfl) (by simp) ?_
          refine AllReadyH.cons (o := ⟨some 24, _, _, _, _, _⟩) rfl (fun K hK => ?_) AllReadyH.nil
          go_simp
          have x1 := hHeld.2.1.1 0 _ rfl
          have x2 := hHeld.2.1.1 1 _ rfl
          (try go_simp)
          refine (refRight_any nc nr _).mono ?_
          rintro e w1 ⟨rfl, hw⟩
          have hb := below_of_alloc hw
          clear hw
          rw [hrt]
          (try go_wp2_with fail)
          refine hK.out _ _ (hHeld.step hb) (fun hHeld2 => ?_)
          clear hK K hHeld
          have hHeld := hHeld2
          clear hHeld2
          (try simp only [Act.put, List.setIfInBounds_toArray, List.set_cons_zero, List.set_cons_succ])
          refine wpAnyH_take (i := 5) (oi := ⟨some 25, _, _, _, _, _⟩) (v := ?vk0n45) rfl (by kernel_rfl) (by kernel_rfl) (by kernel_rfl) (fun _ _ _ h => h) (Or.inl ⟨by rfl, ?hyk0n45⟩) hHeld ?restk0n45
          case hyk0n45 => (intro w hSw; (try dsimp only at hSw); have g0 := hSw.2.1.1 0 _ rfl; have g1 := hSw.2.1.1 1 _ rfl; have t0 := hSw.1.1 0 _ rfl; have t1 := hSw.1.1 1 _ rfl; go_simp; try with_reducible rfl)
          simp only [Act.put, List.setIfInBounds_toArray, List.set_cons_zero, List.set_cons_succ]
          refine wpAnyH_take (i := 6) (oi := ⟨some 26, _, _, _, _, _⟩) (v := ?vk0n46) rfl (by kernel_rfl) (by kernel_rfl) (by kernel_rfl) (fun _ _ _ h => h) (Or.inl ⟨by rfl, ?hyk0n46⟩) hHeld ?restk0n46
          case hyk0n46 => (intro w hSw; (try dsimp only at hSw); have g0 := hSw.2.1.1 0 _ rfl; have g1 := hSw.2.1.1 1 _ rfl; have t0 := hSw.1.1 0 _ rfl; have t1 := hSw.1.1 1 _ rfl; go_simp; try with_reducible rfl)
          simp only [Act.put, List.setIfInBounds_toArray, List.set_cons_zero, List.set_cons_succ]
          refine wpAnyH_take (i := 7) (oi := ⟨some 27, _, _, _, _, _⟩) (v := ?vk0n47) rfl (by kernel_rfl) (by kernel_rfl) (by kernel_rfl) (fun _ _ _ h => h) (Or.inl ⟨by rfl, ?hyk0n47⟩) hHeld ?restk0n47
          case hyk0n47 => (intro w hSw; (try dsimp only at hSw); have g0 := hSw.2.1.1 0 _ rfl; have g1 := hSw.2.1.1 1 _ rfl; have t0 := hSw.1.1 0 _ rfl; have t1 := hSw.1.1 1 _ rfl; go_simp; try with_reducible rfl)
          simp only [Act.put, List.setIfInBounds_toArray, List.set_cons_zero, List.set_cons_succ]
          refine wpAnyH_take (i := 8) (oi := ⟨some 28, _, _, _, _, _⟩) (v := ?vk0n48) rfl (by kernel_rfl) (by kernel_rfl) (by kernel_rfl) (fun _ _ _ h => h) (Or.inl ⟨by rfl, ?hyk0n48⟩) hHeld ?restk0n48
          case hyk0n48 => (intro w hSw; (try dsimp only at hSw); have g0 := hSw.2.1.1 0 _ rfl; have g1 := hSw.2.1.1 1 _ rfl; have t0 := hSw.1.1 0 _ rfl; have t1 := hSw.1.1 1 _ rfl; go_simp; try with_reducible rfl)
          simp only [Act.put, List.setIfInBounds_toArray, List.set_cons_zero, List.set_cons_succ]
          refine wpAnyH_take (i := 9) (oi := ⟨some 29, _, _, _, _, _⟩) (v := ?vk0n49) rfl (by kernel_rfl) (by kernel_rfl) (by kernel_rfl) (fun _ _ _ h => h) (Or.inl ⟨by rfl, ?hyk0n49⟩) hHeld ?restk0n49
          case hyk0n49 => (intro w hSw; (try dsimp only at hSw); have g0 := hSw.2.1.1 0 _ rfl; have g1 := hSw.2.1.1 1 _ rfl; have t0 := hSw.1.1 0 _ rfl; have t1 := hSw.1.1 1 _ rfl; go_simp; try with_reducible rfl)
          simp only [Act.put, List.setIfInBounds_toArray, List.set_cons_zero, List.set_cons_succ]
          refine wpAnyH_take (i := 10) (oi := ⟨some 30, _, _, _, _, _⟩) (v := ?vk0n410) rfl (by kernel_rfl) (by kernel_rfl) (by kernel_rfl) (fun _ _ _ h => h) (Or.inl ⟨by rfl, ?hyk0n410⟩) hHeld ?restk0n410
          case hyk0n410 => (intro w hSw; (try dsimp only at hSw); have g0 := hSw.2.1.1 0 _ rfl; have g1 := hSw.2.1.1 1 _ rfl; have t0 := hSw.1.1 0 _ rfl; have t1 := hSw.1.1 1 _ rfl; go_simp; try with_reducible rfl)
          simp only [Act.put, List.setIfInBounds_toArray, List.set_cons_zero, List.set_cons_succ]
          refine wpAnyH_take (i := 11) (oi := ⟨some 31, _, _, _, _, _⟩) (v := ?vk0n411) rfl (by kernel_rfl) (by kernel_rfl) (by kernel_rfl) (fun _ _ _ h => h) (Or.inl ⟨by rfl, ?hyk0n411⟩) hHeld ?restk0n411
          case hyk0n411 => (intro w hSw; (try dsimp only at hSw); have g0 := hSw.2.1.1 0 _ rfl; have g1 := hSw.2.1.1 1 _ rfl; have t0 := hSw.1.1 0 _ rfl; have t1 := hSw.1.1 1 _ rfl; go_simp; try with_reducible rfl)
          simp only [Act.put, List.setIfInBounds_toArray, List.set_cons_zero, List.set_cons_succ]
          refine wpAnyH_take (i := 12) (oi := ⟨some 32, _, _, _, _, _⟩) (v := ?vk0n412) rfl (by kernel_rfl) (by kernel_rfl) (by kernel_rfl) (fun _ _ _ h => h) (Or.inl ⟨by rfl, ?hyk0n412⟩) hHeld ?restk0n412
          case hyk0n412 => (intro w hSw; (try dsimp only at hSw); have g0 := hSw.2.1.1 0 _ rfl; have g1 := hSw.2.1.1 1 _ rfl; have t0 := hSw.1.1 0 _ rfl; have t1 := hSw.1.1 1 _ rfl; go_simp; try with_reducible rfl)
          simp only [Act.put, List.setIfInBounds_toArray, List.set_cons_zero, List.set_cons_succ]
          refine wpAnyH_take (i := 13) (oi := ⟨some 33, _, _, _, _, _⟩) (v := ?vk0n413) rfl (by kernel_rfl) (by kernel_rfl) (by kernel_rfl) (fun _ _ _ h => h) (Or.inl ⟨by rfl, ?hyk0n413⟩) hHeld ?restk0n413
          case hyk0n413 => (intro w hSw; (try dsimp only at hSw); have g0 := hSw.2.1.1 0 _ rfl; have g1 := hSw.2.1.1 1 _ rfl; have t0 := hSw.1.1 0 _ rfl; have t1 := hSw.1.1 1 _ rfl; go_simp; try with_reducible rfl)
          simp only [Act.put, List.setIfInBounds_toArray, List.set_cons_zero, List.set_cons_succ]
          refine wpAnyH_done (by kernel_rfl) ?_ _
          have HS1 : Hid (NSt w [.int .i64 ac, .int .i64 ar, .int .i64 sq, dv, .int .i64 kd, .int .i64 nc, .int .i64 nr, .int .i64 pc, .int .i64 pr, .int .i64 fc, .int .i64 fr, .string nm, .string vl] [.int .i64 nc, .int .i64 nr, .int .i64 pc, .int .i64 pr, .int .i64 fc, .int .i64 fr] (.slice ao D.length co) D _) := hHeld
          clear hHeld
          have y1 := HS1.out.2.1.1 0 _ rfl
          have y2 := HS1.out.2.1.1 1 _ rfl
          go_wp2_with fail
          refine (S.put_any (.slice ao D.length co) D nc nr _ HS1.out.2.2 (by omega)).mono ?_
          rintro e w2 ⟨v2, rfl, his2, hb2⟩
          have HS2 : Hid (NSt w [.int .i64 ac, .int .i64 ar, .int .i64 sq, dv, .int .i64 kd, .int .i64 nc, .int .i64 nr, .int .i64 pc, .int .i64 pr, .int .i64 fc, .int .i64 fr, .string nm, .string vl] [.int .i64 nc, .int .i64 nr, .int .i64 pc, .int .i64 pr, .int .i64 fc, .int .i64 fr] v2 (S.putL D (nc, nr)) w2) := ⟨HS1.out.1.step hb2, HS1.out.2.1.step hb2, his2⟩
          have hpl := S.putL_length D (nc, nr)
          clear his2 hb2
          go_wp2
          go_roundw
          case rel => exact ⟨1, S.putL D (nc, nr), by omega, by omega, by first | rfl | go_num, (sort_on (X := [(nc, nr), (pc, pr), (fc, fr)]) (k := 0) (by simp) HT0.out HP.out), HS2⟩
          case measure => simp [intOf]
    · have HT0 : Hid (D = S.sortL ((([(nc, nr), (pc, pr), (fc, fr)] : List (Int × Int)).take 1).filter (namB2 ac ar))) := HT
      have hi0 : (0 : Int) ≤ 1 := by omega
      have hi1 : (1 : Int) < 3 := by omega
      have x1 := HS.out.2.1.1 2 _ rfl
      have x2 := HS.out.2.1.1 3 _ rfl
      cases hrt : rightB pc pr
      · go_wp2_with fail
        refine wp_region_held_drew (S := fun W' => NSt w [.int .i64 ac, .int .i64 ar, .int .i64 sq, dv, .int .i64 kd, .int .i64 nc, .int .i64 nr, .int .i64 pc, .int .i64 pr, .int .i64 fc, .int .i64 fr, .string nm, .string vl] [.int .i64 nc, .int .i64 nr, .int .i64 pc, .int .i64 pr, .int .i64 fc, .int .i64 fr] (.slice ao D.length co) D W') (by kernel_rfl) HS.out.drew (fun hHeld => ?_)
        refine wpAnyH_take (i := 0) (oi := ⟨some 20, _, _, _, _, _⟩) (v := ?vk1n10) rfl (by kernel_rfl) (by kernel_rfl) (by kernel_rfl) (fun _ _ _ h => h) (Or.inl ⟨by rfl, ?hyk1n10⟩) hHeld ?restk1n10
        case hyk1n10 => (intro w hSw; (try dsimp only at hSw); have g2 := hSw.2.1.1 2 _ rfl; have g3 := hSw.2.1.1 3 _ rfl; have t0 := hSw.1.1 0 _ rfl; have t1 := hSw.1.1 1 _ rfl; go_simp; try with_reducible rfl)
        simp only [Act.put, List.setIfInBounds_toArray, List.set_cons_zero, List.set_cons_succ]
        refine wpAnyH_take (i := 1) (oi := ⟨some 21, _, _, _, _, _⟩) (v := ?vk1n11) rfl (by kernel_rfl) (by kernel_rfl) (by kernel_rfl) (fun _ _ _ h => h) (Or.inl ⟨by rfl, ?hyk1n11⟩) hHeld ?restk1n11
        case hyk1n11 => (intro w hSw; (try dsimp only at hSw); have g2 := hSw.2.1.1 2 _ rfl; have g3 := hSw.2.1.1 3 _ rfl; have t0 := hSw.1.1 0 _ rfl; have t1 := hSw.1.1 1 _ rfl; go_simp; try with_reducible rfl)
        simp only [Act.put, List.setIfInBounds_toArray, List.set_cons_zero, List.set_cons_succ]
        refine wpAnyH_take (i := 2) (oi := ⟨some 22, _, _, _, _, _⟩) (v := ?vk1n12) rfl (by kernel_rfl) (by kernel_rfl) (by kernel_rfl) (fun _ _ _ h => h) (Or.inl ⟨by rfl, ?hyk1n12⟩) hHeld ?restk1n12
        case hyk1n12 => (intro w hSw; (try dsimp only at hSw); have g2 := hSw.2.1.1 2 _ rfl; have g3 := hSw.2.1.1 3 _ rfl; have t0 := hSw.1.1 0 _ rfl; have t1 := hSw.1.1 1 _ rfl; go_simp; try with_reducible rfl)
        simp only [Act.put, List.setIfInBounds_toArray, List.set_cons_zero, List.set_cons_succ]
        refine wpAnyH_take (i := 3) (oi := ⟨some 23, _, _, _, _, _⟩) (v := ?vk1n13) rfl (by kernel_rfl) (by kernel_rfl) (by kernel_rfl) (fun _ _ _ h => h) (Or.inl ⟨by rfl, ?hyk1n13⟩) hHeld ?restk1n13
        case hyk1n13 => (intro w hSw; (try dsimp only at hSw); have g2 := hSw.2.1.1 2 _ rfl; have g3 := hSw.2.1.1 3 _ rfl; have t0 := hSw.1.1 0 _ rfl; have t1 := hSw.1.1 1 _ rfl; go_simp; try with_reducible rfl)
        simp only [Act.put, List.setIfInBounds_toArray, List.set_cons_zero, List.set_cons_succ]
        refine wpAnyH_ready (rs := [4]) (by kernel_rfl) (by simp) ?_
        refine AllReadyH.cons (o := ⟨some 24, _, _, _, _, _⟩) rfl (fun K hK => ?_) AllReadyH.nil
        go_simp
        have x1 := hHeld.2.1.1 2 _ rfl
        have x2 := hHeld.2.1.1 3 _ rfl
        (try go_simp)
        refine (refRight_any pc pr _).mono ?_
        rintro e w1 ⟨rfl, hw⟩
        have hb := below_of_alloc hw
        clear hw
        rw [hrt]
        (try go_wp2_with fail)
        refine hK.out _ _ (hHeld.step hb) (fun hHeld2 => ?_)
        clear hK K hHeld
        have hHeld := hHeld2
        clear hHeld2
        (try simp only [Act.put, List.setIfInBounds_toArray, List.set_cons_zero, List.set_cons_succ])
        refine wpAnyH_take (i := 5) (oi := ⟨some 25, _, _, _, _, _⟩) (v := ?vk1n15) rfl (by kernel_rfl) (by kernel_rfl) (by kernel_rfl) (fun _ _ _ h => h) (Or.inl ⟨by rfl, ?hyk1n15⟩) hHeld ?restk1n15
        case hyk1n15 => (intro w hSw; (try dsimp only at hSw); have g2 := hSw.2.1.1 2 _ rfl; have g3 := hSw.2.1.1 3 _ rfl; have t0 := hSw.1.1 0 _ rfl; have t1 := hSw.1.1 1 _ rfl; go_simp; try with_reducible rfl)
        simp only [Act.put, List.setIfInBounds_toArray, List.set_cons_zero, List.set_cons_succ]
        refine wpAnyH_take (i := 6) (oi := ⟨some 26, _, _, _, _, _⟩) (v := undef) rfl (by kernel_rfl) (by kernel_rfl) (by kernel_rfl) (fun _ _ _ h => h) (Or.inr ⟨by rfl, rfl⟩) hHeld ?_
        simp only [Act.put, List.setIfInBounds_toArray, List.set_cons_zero, List.set_cons_succ]
        refine wpAnyH_take (i := 7) (oi := ⟨some 27, _, _, _, _, _⟩) (v := undef) rfl (by kernel_rfl) (by kernel_rfl) (by kernel_rfl) (fun _ _ _ h => h) (Or.inr ⟨by rfl, rfl⟩) hHeld ?_
        simp only [Act.put, List.setIfInBounds_toArray, List.set_cons_zero, List.set_cons_succ]
        refine wpAnyH_take (i := 8) (oi := ⟨some 28, _, _, _, _, _⟩) (v := undef) rfl (by kernel_rfl) (by kernel_rfl) (by kernel_rfl) (fun _ _ _ h => h) (Or.inr ⟨by rfl, rfl⟩) hHeld ?_
        simp only [Act.put, List.setIfInBounds_toArray, List.set_cons_zero, List.set_cons_succ]
        refine wpAnyH_take (i := 9) (oi := ⟨some 29, _, _, _, _, _⟩) (v := undef) rfl (by kernel_rfl) (by kernel_rfl) (by kernel_rfl) (fun _ _ _ h => h) (Or.inr ⟨by rfl, rfl⟩) hHeld ?_
        simp only [Act.put, List.setIfInBounds_toArray, List.set_cons_zero, List.set_cons_succ]
        refine wpAnyH_take (i := 10) (oi := ⟨some 30, _, _, _, _, _⟩) (v := undef) rfl (by kernel_rfl) (by kernel_rfl) (by kernel_rfl) (fun _ _ _ h => h) (Or.inr ⟨by rfl, rfl⟩) hHeld ?_
        simp only [Act.put, List.setIfInBounds_toArray, List.set_cons_zero, List.set_cons_succ]
        refine wpAnyH_take (i := 11) (oi := ⟨some 31, _, _, _, _, _⟩) (v := undef) rfl (by kernel_rfl) (by kernel_rfl) (by kernel_rfl) (fun _ _ _ h => h) (Or.inr ⟨by rfl, rfl⟩) hHeld ?_
        simp only [Act.put, List.setIfInBounds_toArray, List.set_cons_zero, List.set_cons_succ]
        refine wpAnyH_take (i := 12) (oi := ⟨some 32, _, _, _, _, _⟩) (v := undef) rfl (by kernel_rfl) (by kernel_rfl) (by kernel_rfl) (fun _ _ _ h => h) (Or.inr ⟨by rfl, rfl⟩) hHeld ?_
        simp only [Act.put, List.setIfInBounds_toArray, List.set_cons_zero, List.set_cons_succ]
        refine wpAnyH_take (i := 13) (oi := ⟨some 33, _, _, _, _, _⟩) (v := ?vk1n113) rfl (by kernel_rfl) (by kernel_rfl) (by kernel_rfl) (fun _ _ _ h => h) (Or.inl ⟨by rfl, ?hyk1n113⟩) hHeld ?restk1n113
        case hyk1n113 => (intro w hSw; (try dsimp only at hSw); have g2 := hSw.2.1.1 2 _ rfl; have g3 := hSw.2.1.1 3 _ rfl; have t0 := hSw.1.1 0 _ rfl; have t1 := hSw.1.1 1 _ rfl; go_simp; try with_reducible rfl)
        simp only [Act.put, List.setIfInBounds_toArray, List.set_cons_zero, List.set_cons_succ]
        refine wpAnyH_done (by kernel_rfl) ?_ _
        have HS1 : Hid (NSt w [.int .i64 ac, .int .i64 ar, .int .i64 sq, dv, .int .i64 kd, .int .i64 nc, .int .i64 nr, .int .i64 pc, .int .i64 pr, .int .i64 fc, .int .i64 fr, .string nm, .string vl] [.int .i64 nc, .int .i64 nr, .int .i64 pc, .int .i64 pr, .int .i64 fc, .int .i64 fr] (.slice ao D.length co) D _) := hHeld
        clear hHeld
        go_wp2
        go_roundw
        case rel => exact ⟨2, D, by omega, by omega, by first | rfl | go_num, (sort_past (X := [(nc, nr), (pc, pr), (fc, fr)]) (k := 1) (by simp) HT0.out (namB2_not hrt)), HS1⟩
        case measure => simp [intOf]
      · by_cases ec : pc = ac
        · by_cases er : pr = ar
          · have qc : (pc == ac) = true := by simp [ec]
            have qr : (pr == ar) = true := by simp [er]
            have qc2 : (pc != ac) = false := by simp [ec]
            have qr2 : (pr != ar) = false := by simp [er]
            have HP : Hid (namB2 ac ar (pc, pr) = false) := by rw [ec, er]; exact namB2_own
            clear ec er
            go_wp2_with fail
            refine wp_region_held_drew (S := fun W' => NSt w [.int .i64 ac, .int .i64 ar, .int .i64 sq, dv, .int .i64 kd, .int .i64 nc, .int .i64 nr, .int .i64 pc, .int .i64 pr, .int .i64 fc, .int .i64 fr, .string nm, .string vl] [.int .i64 nc, .int .i64 nr, .int .i64 pc, .int .i64 pr, .int .i64 fc, .int .i64 fr] (.slice ao D.length co) D W') (by kernel_rfl) HS.out.drew (fun hHeld => ?_)
            refine wpAnyH_take (i := 0) (oi := ⟨some 20, _, _, _, _, _⟩) (v := ?vk1n20) rfl (by kernel_rfl) (by kernel_rfl) (by kernel_rfl) (fun _ _ _ h => h) (Or.inl ⟨by rfl, ?hyk1n20⟩) hHeld ?restk1n20
            case hyk1n20 => (intro w hSw; (try dsimp only at hSw); have g2 := hSw.2.1.1 2 _ rfl; have g3 := hSw.2.1.1 3 _ rfl; have t0 := hSw.1.1 0 _ rfl; have t1 := hSw.1.1 1 _ rfl; go_simp; try with_reducible rfl)
            simp only [Act.put, List.setIfInBounds_toArray, List.set_cons_zero, List.set_cons_succ]
            refine wpAnyH_take (i := 1) (oi := ⟨some 21, _, _, _, _, _⟩) (v := ?vk1n21) rfl (by kernel_rfl) (by kernel_rfl) (by kernel_rfl) (fun _ _ _ h => h) (Or.inl ⟨by rfl, ?hyk1n21⟩) hHeld ?restk1n21
            case hyk1n21 => (intro w hSw; (try dsimp only at hSw); have g2 := hSw.2.1.1 2 _ rfl; have g3 := hSw.2.1.1 3 _ rfl; have t0 := hSw.1.1 0 _ rfl; have t1 := hSw.1.1 1 _ rfl; go_simp; try with_reducible rfl)
            simp only [Act.put, List.setIfInBounds_toArray, List.set_cons_zero, List.set_cons_succ]
            refine wpAnyH_take (i := 2) (oi := ⟨some 22, _, _, _, _, _⟩) (v := ?vk1n22) rfl (by kernel_rfl) (by kernel_rfl) (by kernel_rfl) (fun _ _ _ h => h) (Or.inl ⟨by rfl, ?hyk1n22⟩) hHeld ?restk1n22
            case hyk1n22 => (intro w hSw; (try dsimp only at hSw); have g2 := hSw.2.1.1 2 _ rfl; have g3 := hSw.2.1.1 3 _ rfl; have t0 := hSw.1.1 0 _ rfl; have t1 := hSw.1.1 1 _ rfl; go_simp; try with_reducible rfl)
            simp only [Act.put, List.setIfInBounds_toArray, List.set_cons_zero, List.set_cons_succ]
            refine wpAnyH_take (i := 3) (oi := ⟨some 23, _, _, _, _, _⟩) (v := ?vk1n23) rfl (by kernel_rfl) (by kernel_rfl) (by kernel_rfl) (fun _ _ _ h => h) (Or.inl ⟨by rfl, ?hyk1n23⟩) hHeld ?restk1n23
            case hyk1n23 => (intro w hSw; (try dsimp only at hSw); have g2 := hSw.2.1.1 2 _ rfl; have g3 := hSw.2.1.1 3 _ rfl; have t0 := hSw.1.1 0 _ rfl; have t1 := hSw.1.1 1 _ rfl; go_simp; try with_reducible rfl)
            simp only [Act.put, List.setIfInBounds_toArray, List.set_cons_zero, List.set_cons_succ]
            refine wpAnyH_ready (rs := [4]) (by kernel_rfl) (by simp) ?_
            refine AllReadyH.cons (o := ⟨some 24, _, _, _, _, _⟩) rfl (fun K hK => ?_) AllReadyH.nil
            go_simp
            have x1 := hHeld.2.1.1 2 _ rfl
            have x2 := hHeld.2.1.1 3 _ rfl
            (try go_simp)
            refine (refRight_any pc pr _).mono ?_
            rintro e w1 ⟨rfl, hw⟩
            have hb := below_of_alloc hw
            clear hw
            rw [hrt]
            (try go_wp2_with fail)
            refine hK.out _ _ (hHeld.step hb) (fun hHeld2 => ?_)
            clear hK K hHeld
            have hHeld := hHeld2
            clear hHeld2
            (try simp only [Act.put, List.setIfInBounds_toArray, List.set_cons_zero, List.set_cons_succ])
            refine wpAnyH_take (i := 5) (oi := ⟨some 25, _, _, _, _, _⟩) (v := ?vk1n25) rfl (by kernel_rfl) (by kernel_rfl) (by kernel_rfl) (fun _ _ _ h => h) (Or.inl ⟨by rfl, ?hyk1n25⟩) hHeld ?restk1n25
            case hyk1n25 => (intro w hSw; (try dsimp only at hSw); have g2 := hSw.2.1.1 2 _ rfl; have g3 := hSw.2.1.1 3 _ rfl; have t0 := hSw.1.1 0 _ rfl; have t1 := hSw.1.1 1 _ rfl; go_simp; try with_reducible rfl)
            simp only [Act.put, List.setIfInBounds_toArray, List.set_cons_zero, List.set_cons_succ]
            refine wpAnyH_take (i := 6) (oi := ⟨some 26, _, _, _, _, _⟩) (v := ?vk1n26) rfl (by kernel_rfl) (by kernel_rfl) (by kernel_rfl) (fun _ _ _ h => h) (Or.inl ⟨by rfl, ?hyk1n26⟩) hHeld ?restk1n26
            case hyk1n26 => (intro w hSw; (try dsimp only at hSw); have g2 := hSw.2.1.1 2 _ rfl; have g3 := hSw.2.1.1 3 _ rfl; have t0 := hSw.1.1 0 _ rfl; have t1 := hSw.1.1 1 _ rfl; go_simp; try with_reducible rfl)
            simp only [Act.put, List.setIfInBounds_toArray, List.set_cons_zero, List.set_cons_succ]
            refine wpAnyH_take (i := 7) (oi := ⟨some 27, _, _, _, _, _⟩) (v := ?vk1n27) rfl (by kernel_rfl) (by kernel_rfl) (by kernel_rfl) (fun _ _ _ h => h) (Or.inl ⟨by rfl, ?hyk1n27⟩) hHeld ?restk1n27
            case hyk1n27 => (intro w hSw; (try dsimp only at hSw); have g2 := hSw.2.1.1 2 _ rfl; have g3 := hSw.2.1.1 3 _ rfl; have t0 := hSw.1.1 0 _ rfl; have t1 := hSw.1.1 1 _ rfl; go_simp; try with_reducible rfl)
            simp only [Act.put, List.setIfInBounds_toArray, List.set_cons_zero, List.set_cons_succ]
            refine wpAnyH_take (i := 8) (oi := ⟨some 28, _, _, _, _, _⟩) (v := ?vk1n28) rfl (by kernel_rfl) (by kernel_rfl) (by kernel_rfl) (fun _ _ _ h => h) (Or.inl ⟨by rfl, ?hyk1n28⟩) hHeld ?restk1n28
            case hyk1n28 => (intro w hSw; (try dsimp only at hSw); have g2 := hSw.2.1.1 2 _ rfl; have g3 := hSw.2.1.1 3 _ rfl; have t0 := hSw.1.1 0 _ rfl; have t1 := hSw.1.1 1 _ rfl; go_simp; try with_reducible rfl)
            simp only [Act.put, List.setIfInBounds_toArray, List.set_cons_zero, List.set_cons_succ]
            refine wpAnyH_take (i := 9) (oi := ⟨some 29, _, _, _, _, _⟩) (v := ?vk1n29) rfl (by kernel_rfl) (by kernel_rfl) (by kernel_rfl) (fun _ _ _ h => h) (Or.inl ⟨by rfl, ?hyk1n29⟩) hHeld ?restk1n29
            case hyk1n29 => (intro w hSw; (try dsimp only at hSw); have g2 := hSw.2.1.1 2 _ rfl; have g3 := hSw.2.1.1 3 _ rfl; have t0 := hSw.1.1 0 _ rfl; have t1 := hSw.1.1 1 _ rfl; go_simp; try with_reducible rfl)
            simp only [Act.put, List.setIfInBounds_toArray, List.set_cons_zero, List.set_cons_succ]
            refine wpAnyH_take (i := 10) (oi := ⟨some 30, _, _, _, _, _⟩) (v := ?vk1n210) rfl (by kernel_rfl) (by kernel_rfl) (by kernel_rfl) (fun _ _ _ h => h) (Or.inl ⟨by rfl, ?hyk1n210⟩) hHeld ?restk1n210
            case hyk1n210 => (intro w hSw; (try dsimp only at hSw); have g2 := hSw.2.1.1 2 _ rfl; have g3 := hSw.2.1.1 3 _ rfl; have t0 := hSw.1.1 0 _ rfl; have t1 := hSw.1.1 1 _ rfl; go_simp; try with_reducible rfl)
            simp only [Act.put, List.setIfInBounds_toArray, List.set_cons_zero, List.set_cons_succ]
            refine wpAnyH_take (i := 11) (oi := ⟨some 31, _, _, _, _, _⟩) (v := ?vk1n211) rfl (by kernel_rfl) (by kernel_rfl) (by kernel_rfl) (fun _ _ _ h => h) (Or.inl ⟨by rfl, ?hyk1n211⟩) hHeld ?restk1n211
            case hyk1n211 => (intro w hSw; (try dsimp only at hSw); have g2 := hSw.2.1.1 2 _ rfl; have g3 := hSw.2.1.1 3 _ rfl; have t0 := hSw.1.1 0 _ rfl; have t1 := hSw.1.1 1 _ rfl; go_simp; try with_reducible rfl)
            simp only [Act.put, List.setIfInBounds_toArray, List.set_cons_zero, List.set_cons_succ]
            refine wpAnyH_take (i := 12) (oi := ⟨some 32, _, _, _, _, _⟩) (v := ?vk1n212) rfl (by kernel_rfl) (by kernel_rfl) (by kernel_rfl) (fun _ _ _ h => h) (Or.inl ⟨by rfl, ?hyk1n212⟩) hHeld ?restk1n212
            case hyk1n212 => (intro w hSw; (try dsimp only at hSw); have g2 := hSw.2.1.1 2 _ rfl; have g3 := hSw.2.1.1 3 _ rfl; have t0 := hSw.1.1 0 _ rfl; have t1 := hSw.1.1 1 _ rfl; go_simp; try with_reducible rfl)
            simp only [Act.put, List.setIfInBounds_toArray, List.set_cons_zero, List.set_cons_succ]
            refine wpAnyH_take (i := 13) (oi := ⟨some 33, _, _, _, _, _⟩) (v := ?vk1n213) rfl (by kernel_rfl) (by kernel_rfl) (by kernel_rfl) (fun _ _ _ h => h) (Or.inl ⟨by rfl, ?hyk1n213⟩) hHeld ?restk1n213
            case hyk1n213 => (intro w hSw; (try dsimp only at hSw); have g2 := hSw.2.1.1 2 _ rfl; have g3 := hSw.2.1.1 3 _ rfl; have t0 := hSw.1.1 0 _ rfl; have t1 := hSw.1.1 1 _ rfl; go_simp; try with_reducible rfl)
            simp only [Act.put, List.setIfInBounds_toArray, List.set_cons_zero, List.set_cons_succ]
            refine wpAnyH_done (by kernel_rfl) ?_ _
            have HS1 : Hid (NSt w [.int .i64 ac, .int .i64 ar, .int .i64 sq, dv, .int .i64 kd, .int .i64 nc, .int .i64 nr, .int .i64 pc, .int .i64 pr, .int .i64 fc, .int .i64 fr, .string nm, .string vl] [.int .i64 nc, .int .i64 nr, .int .i64 pc, .int .i64 pr, .int .i64 fc, .int .i64 fr] (.slice ao D.length co) D _) := hHeld
            clear hHeld
            go_wp2
            go_roundw
            case rel => exact ⟨2, D, by omega, by omega, by first | rfl | go_num, (sort_past (X := [(nc, nr), (pc, pr), (fc, fr)]) (k := 1) (by simp) HT0.out HP.out), HS1⟩
            case measure => simp [intOf]
          · have qc : (pc == ac) = true := by simp [ec]
            have qr : (pr == ar) = false := by simp [er]
            have qr2 : (pr != ar) = true := by simp [er]
            have HP : Hid (namB2 ac ar (pc, pr) = true) := namB2_r hrt er
            clear ec er
            go_wp2_with fail
            refine wp_region_held_drew (S := fun W' => NSt w [.int .i64 ac, .int .i64 ar, .int .i64 sq, dv, .int .i64 kd, .int .i64 nc, .int .i64 nr, .int .i64 pc, .int .i64 pr, .int .i64 fc, .int .i64 fr, .string nm, .string vl] [.int .i64 nc, .int .i64 nr, .int .i64 pc, .int .i64 pr, .int .i64 fc, .int .i64 fr] (.slice ao D.length co) D W') (by kernel_rfl) HS.out.drew (fun hHeld => ?_)
            refine wpAnyH_take (i := 0) (oi := ⟨some 20, _, _, _, _, _⟩) (v := ?vk1n30) rfl (by kernel_rfl) (by kernel_rfl) (by kernel_rfl) (fun _ _ _ h => h) (Or.inl ⟨by rfl, ?hyk1n30⟩) hHeld ?restk1n30
            case hyk1n30 => (intro w hSw; (try dsimp only at hSw); have g2 := hSw.2.1.1 2 _ rfl; have g3 := hSw.2.1.1 3 _ rfl; have t0 := hSw.1.1 0 _ rfl; have t1 := hSw.1.1 1 _ rfl; go_simp; try with_reducible rfl)
            simp only [Act.put, List.setIfInBounds_toArray, List.set_cons_zero, List.set_cons_succ]
            refine wpAnyH_take (i := 1) (oi := ⟨some 21, _, _, _, _, _⟩) (v := ?vk1n31) rfl (by kernel_rfl) (by kernel_rfl) (by kernel_rfl) (fun _ _ _ h => h) (Or.inl ⟨by rfl, ?hyk1n31⟩) hHeld ?restk1n31
            case hyk1n31 => (intro w hSw; (try dsimp only at hSw); have g2 := hSw.2.1.1 2 _ rfl; have g3 := hSw.2.1.1 3 _ rfl; have t0 := hSw.1.1 0 _ rfl; have t1 := hSw.1.1 1 _ rfl; go_simp; try with_reducible rfl)
            simp only [Act.put, List.setIfInBounds_toArray, List.set_cons_zero, List.set_cons_succ]
            refine wpAnyH_take (i := 2) (oi := ⟨some 22, _, _, _, _, _⟩) (v := ?vk1n32) rfl (by kernel_rfl) (by kernel_rfl) (by kernel_rfl) (fun _ _ _ h => h) (Or.inl ⟨by rfl, ?hyk1n32⟩) hHeld ?restk1n32
            case hyk1n32 => (intro w hSw; (try dsimp only at hSw); have g2 := hSw.2.1.1 2 _ rfl; have g3 := hSw.2.1.1 3 _ rfl; have t0 := hSw.1.1 0 _ rfl; have t1 := hSw.1.1 1 _ rfl; go_simp; try with_reducible rfl)
            simp only [Act.put, List.setIfInBounds_toArray, List.set_cons_zero, List.set_cons_succ]
            refine wpAnyH_take (i := 3) (oi := ⟨some 23, _, _, _, _, _⟩) (v := ?vk1n33) rfl (by kernel_rfl) (by kernel_rfl) (by kernel_rfl) (fun _ _ _ h => h) (Or.inl ⟨by rfl, ?hyk1n33⟩) hHeld ?restk1n33
            case hyk1n33 => (intro w hSw; (try dsimp only at hSw); have g2 := hSw.2.1.1 2 _ rfl; have g3 := hSw.2.1.1 3 _ rfl; have t0 := hSw.1.1 0 _ rfl; have t1 := hSw.1.1 1 _ rfl; go_simp; try with_reducible rfl)
            simp only [Act.put, List.setIfInBounds_toArray, List.set_cons_zero, List.set_cons_succ]
            refine wpAnyH_ready (rs := [4]) (by kernel_rfl) (by simp) ?_
            refine AllReadyH.cons (o := ⟨some 24, _, _, _, _, _⟩) rfl (fun K hK => ?_) AllReadyH.nil
            go_simp
            have x1 := hHeld.2.1.1 2 _ rfl
            have x2 := hHeld.2.1.1 3 _ rfl
            (try go_simp)
            refine (refRight_any pc pr _).mono ?_
            rintro e w1 ⟨rfl, hw⟩
            have hb := below_of_alloc hw
            clear hw
            rw [hrt]
            (try go_wp2_with fail)
            refine hK.out _ _ (hHeld.step hb) (fun hHeld2 => ?_)
            clear hK K hHeld
            have hHeld := hHeld2
            clear hHeld2
            (try simp only [Act.put, List.setIfInBounds_toArray, List.set_cons_zero, List.set_cons_succ])
            refine wpAnyH_take (i := 5) (oi := ⟨some 25, _, _, _, _, _⟩) (v := ?vk1n35) rfl (by kernel_rfl) (by kernel_rfl) (by kernel_rfl) (fun _ _ _ h => h) (Or.inl ⟨by rfl, ?hyk1n35⟩) hHeld ?restk1n35
            case hyk1n35 => (intro w hSw; (try dsimp only at hSw); have g2 := hSw.2.1.1 2 _ rfl; have g3 := hSw.2.1.1 3 _ rfl; have t0 := hSw.1.1 0 _ rfl; have t1 := hSw.1.1 1 _ rfl; go_simp; try with_reducible rfl)
            simp only [Act.put, List.setIfInBounds_toArray, List.set_cons_zero, List.set_cons_succ]
            refine wpAnyH_take (i := 6) (oi := ⟨some 26, _, _, _, _, _⟩) (v := ?vk1n36) rfl (by kernel_rfl) (by kernel_rfl) (by kernel_rfl) (fun _ _ _ h => h) (Or.inl ⟨by rfl, ?hyk1n36⟩) hHeld ?restk1n36
            case hyk1n36 => (intro w hSw; (try dsimp only at hSw); have g2 := hSw.2.1.1 2 _ rfl; have g3 := hSw.2.1.1 3 _ rfl; have t0 := hSw.1.1 0 _ rfl; have t1 := hSw.1.1 1 _ rfl; go_simp; try with_reducible rfl)
            simp only [Act.put, List.setIfInBounds_toArray, List.set_cons_zero, List.set_cons_succ]
            refine wpAnyH_take (i := 7) (oi := ⟨some 27, _, _, _, _, _⟩) (v := ?vk1n37) rfl (by kernel_rfl) (by kernel_rfl) (by kernel_rfl) (fun _ _ _ h => h) (Or.inl ⟨by rfl, ?hyk1n37⟩) hHeld ?restk1n37
            case hyk1n37 => (intro w hSw; (try dsimp only at hSw); have g2 := hSw.2.1.1 2 _ rfl; have g3 := hSw.2.1.1 3 _ rfl; have t0 := hSw.1.1 0 _ rfl; have t1 := hSw.1.1 1 _ rfl; go_simp; try with_reducible rfl)
            simp only [Act.put, List.setIfInBounds_toArray, List.set_cons_zero, List.set_cons_succ]
            refine wpAnyH_take (i := 8) (oi := ⟨some 28, _, _, _, _, _⟩) (v := ?vk1n38) rfl (by kernel_rfl) (by kernel_rfl) (by kernel_rfl) (fun _ _ _ h => h) (Or.inl ⟨by rfl, ?hyk1n38⟩) hHeld ?restk1n38
            case hyk1n38 => (intro w hSw; (try dsimp only at hSw); have g2 := hSw.2.1.1 2 _ rfl; have g3 := hSw.2.1.1 3 _ rfl; have t0 := hSw.1.1 0 _ rfl; have t1 := hSw.1.1 1 _ rfl; go_simp; try with_reducible rfl)
            simp only [Act.put, List.setIfInBounds_toArray, List.set_cons_zero, List.set_cons_succ]
            refine wpAnyH_take (i := 9) (oi := ⟨some 29, _, _, _, _, _⟩) (v := ?vk1n39) rfl (by kernel_rfl) (by kernel_rfl) (by kernel_rfl) (fun _ _ _ h => h) (Or.inl ⟨by rfl, ?hyk1n39⟩) hHeld ?restk1n39
            case hyk1n39 => (intro w hSw; (try dsimp only at hSw); have g2 := hSw.2.1.1 2 _ rfl; have g3 := hSw.2.1.1 3 _ rfl; have t0 := hSw.1.1 0 _ rfl; have t1 := hSw.1.1 1 _ rfl; go_simp; try with_reducible rfl)
            simp only [Act.put, List.setIfInBounds_toArray, List.set_cons_zero, List.set_cons_succ]
            refine wpAnyH_take (i := 10) (oi := ⟨some 30, _, _, _, _, _⟩) (v := ?vk1n310) rfl (by kernel_rfl) (by kernel_rfl) (by kernel_rfl) (fun _ _ _ h => h) (Or.inl ⟨by rfl, ?hyk1n310⟩) hHeld ?restk1n310
            case hyk1n310 => (intro w hSw; (try dsimp only at hSw); have g2 := hSw.2.1.1 2 _ rfl; have g3 := hSw.2.1.1 3 _ rfl; have t0 := hSw.1.1 0 _ rfl; have t1 := hSw.1.1 1 _ rfl; go_simp; try with_reducible rfl)
            simp only [Act.put, List.setIfInBounds_toArray, List.set_cons_zero, List.set_cons_succ]
            refine wpAnyH_take (i := 11) (oi := ⟨some 31, _, _, _, _, _⟩) (v := ?vk1n311) rfl (by kernel_rfl) (by kernel_rfl) (by kernel_rfl) (fun _ _ _ h => h) (Or.inl ⟨by rfl, ?hyk1n311⟩) hHeld ?restk1n311
            case hyk1n311 => (intro w hSw; (try dsimp only at hSw); have g2 := hSw.2.1.1 2 _ rfl; have g3 := hSw.2.1.1 3 _ rfl; have t0 := hSw.1.1 0 _ rfl; have t1 := hSw.1.1 1 _ rfl; go_simp; try with_reducible rfl)
            simp only [Act.put, List.setIfInBounds_toArray, List.set_cons_zero, List.set_cons_succ]
            refine wpAnyH_take (i := 12) (oi := ⟨some 32, _, _, _, _, _⟩) (v := ?vk1n312) rfl (by kernel_rfl) (by kernel_rfl) (by kernel_rfl) (fun _ _ _ h => h) (Or.inl ⟨by rfl, ?hyk1n312⟩) hHeld ?restk1n312
            case hyk1n312 => (intro w hSw; (try dsimp only at hSw); have g2 := hSw.2.1.1 2 _ rfl; have g3 := hSw.2.1.1 3 _ rfl; have t0 := hSw.1.1 0 _ rfl; have t1 := hSw.1.1 1 _ rfl; go_simp; try with_reducible rfl)
            simp only [Act.put, List.setIfInBounds_toArray, List.set_cons_zero, List.set_cons_succ]
            refine wpAnyH_take (i := 13) (oi := ⟨some 33, _, _, _, _, _⟩) (v := ?vk1n313) rfl (by kernel_rfl) (by kernel_rfl) (by kernel_rfl) (fun _ _ _ h => h) (Or.inl ⟨by rfl, ?hyk1n313⟩) hHeld ?restk1n313
            case hyk1n313 => (intro w hSw; (try dsimp only at hSw); have g2 := hSw.2.1.1 2 _ rfl; have g3 := hSw.2.1.1 3 _ rfl; have t0 := hSw.1.1 0 _ rfl; have t1 := hSw.1.1 1 _ rfl; go_simp; try with_reducible rfl)
            simp only [Act.put, List.setIfInBounds_toArray, List.set_cons_zero, List.set_cons_succ]
            refine wpAnyH_done (by kernel_rfl) ?_ _
            have HS1 : Hid (NSt w [.int .i64 ac, .int .i64 ar, .int .i64 sq, dv, .int .i64 kd, .int .i64 nc, .int .i64 nr, .int .i64 pc, .int .i64 pr, .int .i64 fc, .int .i64 fr, .string nm, .string vl] [.int .i64 nc, .int .i64 nr, .int .i64 pc, .int .i64 pr, .int .i64 fc, .int .i64 fr] (.slice ao D.length co) D _) := hHeld
            clear hHeld
            have y1 := HS1.out.2.1.1 2 _ rfl
            have y2 := HS1.out.2.1.1 3 _ rfl
            go_wp2_with fail
            refine (S.put_any (.slice ao D.length co) D pc pr _ HS1.out.2.2 (by omega)).mono ?_
            rintro e w2 ⟨v2, rfl, his2, hb2⟩
            have HS2 : Hid (NSt w [.int .i64 ac, .int .i64 ar, .int .i64 sq, dv, .int .i64 kd, .int .i64 nc, .int .i64 nr, .int .i64 pc, .int .i64 pr, .int .i64 fc, .int .i64 fr, .string nm, .string vl] [.int .i64 nc, .int .i64 nr, .int .i64 pc, .int .i64 pr, .int .i64 fc, .int .i64 fr] v2 (S.putL D (pc, pr)) w2) := ⟨HS1.out.1.step hb2, HS1.out.2.1.step hb2, his2⟩
            have hpl := S.putL_length D (pc, pr)
            clear his2 hb2
            go_wp2
            go_roundw
            case rel => exact ⟨2, S.putL D (pc, pr), by omega, by omega, by first | rfl | go_num, (sort_on (X := [(nc, nr), (pc, pr), (fc, fr)]) (k := 1) (by simp) HT0.out HP.out), HS2⟩
            case measure => simp [intOf]
        · have qc : (pc == ac) = false := by simp [ec]
          have qc2 : (pc != ac) = true := by simp [ec]
          have HP : Hid (namB2 ac ar (pc, pr) = true) := namB2_c hrt ec
          clear ec
          go_wp2_with fail
          refine wp_region_held_drew (S := fun W' => NSt w [.int .i64 ac, .int .i64 ar, .int .i64 sq, dv, .int .i64 kd, .int .i64 nc, .int .i64 nr, .int .i64 pc, .int .i64 pr, .int .i64 fc, .int .i64 fr, .string nm, .string vl] [.int .i64 nc, .int .i64 nr, .int .i64 pc, .int .i64 pr, .int .i64 fc, .int .i64 fr] (.slice ao D.length co) D W') (by kernel_rfl) HS.out.drew (fun hHeld => ?_)
          refine wpAnyH_take (i := 0) (oi := ⟨some 20, _, _, _, _, _⟩) (v := ?vk1n40) rfl (by kernel_rfl) (by kernel_rfl) (by kernel_rfl) (fun _ _ _ h => h) (Or.inl ⟨by rfl, ?hyk1n40⟩) hHeld ?restk1n40
          case hyk1n40 => (intro w hSw; (try dsimp only at hSw); have g2 := hSw.2.1.1 2 _ rfl; have g3 := hSw.2.1.1 3 _ rfl; have t0 := hSw.1.1 0 _ rfl; have t1 := hSw.1.1 1 _ rfl; go_simp; try with_reducible rfl)
          simp only [Act.put, List.setIfInBounds_toArray, List.set_cons_zero, List.set_cons_succ]
          refine wpAnyH_take (i := 1) (oi := ⟨some 21, _, _, _, _, _⟩) (v := ?vk1n41) rfl (by kernel_rfl) (by kernel_rfl) (by kernel_rfl) (fun _ _ _ h => h) (Or.inl ⟨by rfl, ?hyk1n41⟩) hHeld ?restk1n41
          case hyk1n41 => (intro w hSw; (try dsimp only at hSw); have g2 := hSw.2.1.1 2 _ rfl; have g3 := hSw.2.1.1 3 _ rfl; have t0 := hSw.1.1 0 _ rfl; have t1 := hSw.1.1 1 _ rfl; go_simp; try with_reducible rfl)
          simp only [Act.put, List.setIfInBounds_toArray, List.set_cons_zero, List.set_cons_succ]
          refine wpAnyH_take (i := 2) (oi := ⟨some 22, _, _, _, _, _⟩) (v := ?vk1n42) rfl (by kernel_rfl) (by kernel_rfl) (by kernel_rfl) (fun _ _ _ h => h) (Or.inl ⟨by rfl, ?hyk1n42⟩) hHeld ?restk1n42
          case hyk1n42 => (intro w hSw; (try dsimp only at hSw); have g2 := hSw.2.1.1 2 _ rfl; have g3 := hSw.2.1.1 3 _ rfl; have t0 := hSw.1.1 0 _ rfl; have t1 := hSw.1.1 1 _ rfl; go_simp; try with_reducible rfl)
          simp only [Act.put, List.setIfInBounds_toArray, List.set_cons_zero, List.set_cons_succ]
          refine wpAnyH_take (i := 3) (oi := ⟨some 23, _, _, _, _, _⟩) (v := ?vk1n43) rfl (by kernel_rfl) (by kernel_rfl) (by kernel_rfl) (fun _ _ _ h => h) (Or.inl ⟨by rfl, ?hyk1n43⟩) hHeld ?restk1n43
          case hyk1n43 => (intro w hSw; (try dsimp only at hSw); have g2 := hSw.2.1.1 2 _ rfl; have g3 := hSw.2.1.1 3 _ rfl; have t0 := hSw.1.1 0 _ rfl; have t1 := hSw.1.1 1 _ rfl; go_simp; try with_reducible rfl)
          simp only [Act.put, List.setIfInBounds_toArray, List.set_cons_zero, List.set_cons_succ]
          refine wpAnyH_ready (rs := [4]) (by kernel_rfl) (by simp) ?_
          refine AllReadyH.cons (o := ⟨some 24, _, _, _, _, _⟩) rfl (fun K hK => ?_) AllReadyH.nil
          go_simp
          have x1 := hHeld.2.1.1 2 _ rfl
          have x2 := hHeld.2.1.1 3 _ rfl
          (try go_simp)
          refine (refRight_any pc pr _).mono ?_
          rintro e w1 ⟨rfl, hw⟩
          have hb := below_of_alloc hw
          clear hw
          rw [hrt]
          (try go_wp2_with fail)
          refine hK.out _ _ (hHeld.step hb) (fun hHeld2 => ?_)
          clear hK K hHeld
          have hHeld := hHeld2
          clear hHeld2
          (try simp only [Act.put, List.setIfInBounds_toArray, List.set_cons_zero, List.set_cons_succ])
          refine wpAnyH_take (i := 5) (oi := ⟨some 25, _, _, _, _, _⟩) (v := ?vk1n45) rfl (by kernel_rfl) (by kernel_rfl) (by kernel_rfl) (fun _ _ _ h => h) (Or.inl ⟨by rfl, ?hyk1n45⟩) hHeld ?restk1n45
          case hyk1n45 => (intro w hSw; (try dsimp only at hSw); have g2 := hSw.2.1.1 2 _ rfl; have g3 := hSw.2.1.1 3 _ rfl; have t0 := hSw.1.1 0 _ rfl; have t1 := hSw.1.1 1 _ rfl; go_simp; try with_reducible rfl)
          simp only [Act.put, List.setIfInBounds_toArray, List.set_cons_zero, List.set_cons_succ]
          refine wpAnyH_take (i := 6) (oi := ⟨some 26, _, _, _, _, _⟩) (v := ?vk1n46) rfl (by kernel_rfl) (by kernel_rfl) (by kernel_rfl) (fun _ _ _ h => h) (Or.inl ⟨by rfl, ?hyk1n46⟩) hHeld ?restk1n46
          case hyk1n46 => (intro w hSw; (try dsimp only at hSw); have g2 := hSw.2.1.1 2 _ rfl; have g3 := hSw.2.1.1 3 _ rfl; have t0 := hSw.1.1 0 _ rfl; have t1 := hSw.1.1 1 _ rfl; go_simp; try with_reducible rfl)
          simp only [Act.put, List.setIfInBounds_toArray, List.set_cons_zero, List.set_cons_succ]
          refine wpAnyH_take (i := 7) (oi := ⟨some 27, _, _, _, _, _⟩) (v := ?vk1n47) rfl (by kernel_rfl) (by kernel_rfl) (by kernel_rfl) (fun _ _ _ h => h) (Or.inl ⟨by rfl, ?hyk1n47⟩) hHeld ?restk1n47
          case hyk1n47 => (intro w hSw; (try dsimp only at hSw); have g2 := hSw.2.1.1 2 _ rfl; have g3 := hSw.2.1.1 3 _ rfl; have t0 := hSw.1.1 0 _ rfl; have t1 := hSw.1.1 1 _ rfl; go_simp; try with_reducible rfl)
          simp only [Act.put, List.setIfInBounds_toArray, List.set_cons_zero, List.set_cons_succ]
          refine wpAnyH_take (i := 8) (oi := ⟨some 28, _, _, _, _, _⟩) (v := ?vk1n48) rfl (by kernel_rfl) (by kernel_rfl) (by kernel_rfl) (fun _ _ _ h => h) (Or.inl ⟨by rfl, ?hyk1n48⟩) hHeld ?restk1n48
          case hyk1n48 => (intro w hSw; (try dsimp only at hSw); have g2 := hSw.2.1.1 2 _ rfl; have g3 := hSw.2.1.1 3 _ rfl; have t0 := hSw.1.1 0 _ rfl; have t1 := hSw.1.1 1 _ rfl; go_simp; try with_reducible rfl)
          simp only [Act.put, List.setIfInBounds_toArray, List.set_cons_zero, List.set_cons_succ]
          refine wpAnyH_take (i := 9) (oi := ⟨some 29, _, _, _, _, _⟩) (v := ?vk1n49) rfl (by kernel_rfl) (by kernel_rfl) (by kernel_rfl) (fun _ _ _ h => h) (Or.inl ⟨by rfl, ?hyk1n49⟩) hHeld ?restk1n49
          case hyk1n49 => (intro w hSw; (try dsimp only at hSw); have g2 := hSw.2.1.1 2 _ rfl; have g3 := hSw.2.1.1 3 _ rfl; have t0 := hSw.1.1 0 _ rfl; have t1 := hSw.1.1 1 _ rfl; go_simp; try with_reducible rfl)
          simp only [Act.put, List.setIfInBounds_toArray, List.set_cons_zero, List.set_cons_succ]
          refine wpAnyH_take (i := 10) (oi := ⟨some 30, _, _, _, _, _⟩) (v := ?vk1n410) rfl (by kernel_rfl) (by kernel_rfl) (by kernel_rfl) (fun _ _ _ h => h) (Or.inl ⟨by rfl, ?hyk1n410⟩) hHeld ?restk1n410
          case hyk1n410 => (intro w hSw; (try dsimp only at hSw); have g2 := hSw.2.1.1 2 _ rfl; have g3 := hSw.2.1.1 3 _ rfl; have t0 := hSw.1.1 0 _ rfl; have t1 := hSw.1.1 1 _ rfl; go_simp; try with_reducible rfl)
          simp only [Act.put, List.setIfInBounds_toArray, List.set_cons_zero, List.set_cons_succ]
          refine wpAnyH_take (i := 11) (oi := ⟨some 31, _, _, _, _, _⟩) (v := ?vk1n411) rfl (by kernel_rfl) (by kernel_rfl) (by kernel_rfl) (fun _ _ _ h => h) (Or.inl ⟨by rfl, ?hyk1n411⟩) hHeld ?restk1n411
          case hyk1n411 => (intro w hSw; (try dsimp only at hSw); have g2 := hSw.2.1.1 2 _ rfl; have g3 := hSw.2.1.1 3 _ rfl; have t0 := hSw.1.1 0 _ rfl; have t1 := hSw.1.1 1 _ rfl; go_simp; try with_reducible rfl)
          simp only [Act.put, List.setIfInBounds_toArray, List.set_cons_zero, List.set_cons_succ]
          refine wpAnyH_take (i := 12) (oi := ⟨some 32, _, _, _, _, _⟩) (v := ?vk1n412) rfl (by kernel_rfl) (by kernel_rfl) (by kernel_rfl) (fun _ _ _ h => h) (Or.inl ⟨by rfl, ?hyk1n412⟩) hHeld ?restk1n412
          case hyk1n412 => (intro w hSw; (try dsimp only at hSw); have g2 := hSw.2.1.1 2 _ rfl; have g3 := hSw.2.1.1 3 _ rfl; have t0 := hSw.1.1 0 _ rfl; have t1 := hSw.1.1 1 _ rfl; go_simp; try with_reducible rfl)
          simp only [Act.put, List.setIfInBounds_toArray, List.set_cons_zero, List.set_cons_succ]
          refine wpAnyH_take (i := 13) (oi := ⟨some 33, _, _, _, _, _⟩) (v := ?vk1n413) rfl (by kernel_rfl) (by kernel_rfl) (by kernel_rfl) (fun _ _ _ h => h) (Or.inl ⟨by rfl, ?hyk1n413⟩) hHeld ?restk1n413
          case hyk1n413 => (intro w hSw; (try dsimp only at hSw); have g2 := hSw.2.1.1 2 _ rfl; have g3 := hSw.2.1.1 3 _ rfl; have t0 := hSw.1.1 0 _ rfl; have t1 := hSw.1.1 1 _ rfl; go_simp; try with_reducible rfl)
          simp only [Act.put, List.setIfInBounds_toArray, List.set_cons_zero, List.set_cons_succ]
          refine wpAnyH_done (by kernel_rfl) ?_ _
          have HS1 : Hid (NSt w [.int .i64 ac, .int .i64 ar, .int .i64 sq, dv, .int .i64 kd, .int .i64 nc, .int .i64 nr, .int .i64 pc, .int .i64 pr, .int .i64 fc, .int .i64 fr, .string nm, .string vl] [.int .i64 nc, .int .i64 nr, .int .i64 pc, .int .i64 pr, .int .i64 fc, .int .i64 fr] (.slice ao D.length co) D _) := hHeld
          clear hHeld
          have y1 := HS1.out.2.1.1 2 _ rfl
          have y2 := HS1.out.2.1.1 3 _ rfl
          go_wp2_with fail
          refine (S.put_any (.slice ao D.length co) D pc pr _ HS1.out.2.2 (by omega)).mono ?_
          rintro e w2 ⟨v2, rfl, his2, hb2⟩
          have HS2 : Hid (NSt w [.int .i64 ac, .int .i64 ar, .int .i64 sq, dv, .int .i64 kd, .int .i64 nc, .int .i64 nr, .int .i64 pc, .int .i64 pr, .int .i64 fc, .int .i64 fr, .string nm, .string vl] [.int .i64 nc, .int .i64 nr, .int .i64 pc, .int .i64 pr, .int .i64 fc, .int .i64 fr] v2 (S.putL D (pc, pr)) w2) := ⟨HS1.out.1.step hb2, HS1.out.2.1.step hb2, his2⟩
          have hpl := S.putL_length D (pc, pr)
          clear his2 hb2
          go_wp2
          go_roundw
          case rel => exact ⟨2, S.putL D (pc, pr), by omega, by omega, by first | rfl | go_num, (sort_on (X := [(nc, nr), (pc, pr), (fc, fr)]) (k := 1) (by simp) HT0.out HP.out), HS2⟩
          case measure => simp [intOf]
    · have HT0 : Hid (D = S.sortL ((([(nc, nr), (pc, pr), (fc, fr)] : List (Int × Int)).take 2).filter (namB2 ac ar))) := HT
      have hi0 : (0 : Int) ≤ 2 := by omega
      have hi1 : (2 : Int) < 3 := by omega
      have x1 := HS.out.2.1.1 4 _ rfl
      have x2 := HS.out.2.1.1 5 _ rfl
      cases hrt : rightB fc fr
      · go_wp2_with fail
        refine wp_region_held_drew (S := fun W' => NSt w [.int .i64 ac, .int .i64 ar, .int .i64 sq, dv, .int .i64 kd, .int .i64 nc, .int .i64 nr, .int .i64 pc, .int .i64 pr, .int .i64 fc, .int .i64 fr, .string nm, .string vl] [.int .i64 nc, .int .i64 nr, .int .i64 pc, .int .i64 pr, .int .i64 fc, .int .i64 fr] (.slice ao D.length co) D W') (by kernel_rfl) HS.out.drew (fun hHeld => ?_)
        refine wpAnyH_take (i := 0) (oi := ⟨some 20, _, _, _, _, _⟩) (v := ?vk2n10) rfl (by kernel_rfl) (by kernel_rfl) (by kernel_rfl) (fun _ _ _ h => h) (Or.inl ⟨by rfl, ?hyk2n10⟩) hHeld ?restk2n10
        case hyk2n10 => (intro w hSw; (try dsimp only at hSw); have g4 := hSw.2.1.1 4 _ rfl; have g5 := hSw.2.1.1 5 _ rfl; have t0 := hSw.1.1 0 _ rfl; have t1 := hSw.1.1 1 _ rfl; go_simp; try with_reducible rfl)
        simp only [Act.put, List.setIfInBounds_toArray, List.set_cons_zero, List.set_cons_succ]
        refine wpAnyH_take (i := 1) (oi := ⟨some 21, _, _, _, _, _⟩) (v := ?vk2n11) rfl (by kernel_rfl) (by kernel_rfl) (by kernel_rfl) (fun _ _ _ h => h) (Or.inl ⟨by rfl, ?hyk2n11⟩) hHeld ?restk2n11
        case hyk2n11 => (intro w hSw; (try dsimp only at hSw); have g4 := hSw.2.1.1 4 _ rfl; have g5 := hSw.2.1.1 5 _ rfl; have t0 := hSw.1.1 0 _ rfl; have t1 := hSw.1.1 1 _ rfl; go_simp; try with_reducible rfl)
        simp only [Act.put, List.setIfInBounds_toArray, List.set_cons_zero, List.set_cons_succ]
        refine wpAnyH_take (i := 2) (oi := ⟨some 22, _, _, _, _, _⟩) (v := ?vk2n12) rfl (by kernel_rfl) (by kernel_rfl) (by kernel_rfl) (fun _ _ _ h => h) (Or.inl ⟨by rfl, ?hyk2n12⟩) hHeld ?restk2n12
        case hyk2n12 => (intro w hSw; (try dsimp only at hSw); have g4 := hSw.2.1.1 4 _ rfl; have g5 := hSw.2.1.1 5 _ rfl; have t0 := hSw.1.1 0 _ rfl; have t1 := hSw.1.1 1 _ rfl; go_simp; try with_reducible rfl)
        simp only [Act.put, List.setIfInBounds_toArray, List.set_cons_zero, List.set_cons_succ]
        refine wpAnyH_take (i := 3) (oi := ⟨some 23, _, _, _, _, _⟩) (v := ?vk2n13) rfl (by kernel_rfl) (by kernel_rfl) (by kernel_rfl) (fun _ _ _ h => h) (Or.inl ⟨by rfl, ?hyk2n13⟩) hHeld ?restk2n13
        case hyk2n13 => (intro w hSw; (try dsimp only at hSw); have g4 := hSw.2.1.1 4 _ rfl; have g5 := hSw.2.1.1 5 _ rfl; have t0 := hSw.1.1 0 _ rfl; have t1 := hSw.1.1 1 _ rfl; go_simp; try with_reducible rfl)
        simp only [Act.put, List.setIfInBounds_toArray, List.set_cons_zero, List.set_cons_succ]
        refine wpAnyH_ready (rs := [4]) (by kernel_rfl) (by simp) ?_
        refine AllReadyH.cons (o := ⟨some 24, _, _, _, _, _⟩) rfl (fun K hK => ?_) AllReadyH.nil
        go_simp
        have x1 := hHeld.2.1.1 4 _ rfl
        have x2 := hHeld.2.1.1 5 _ rfl
        (try go_simp)
        refine (refRight_any fc fr _).mono ?_
        rintro e w1 ⟨rfl, hw⟩
        have hb := below_of_alloc hw
        clear hw
        rw [hrt]
        (try go_wp2_with fail)
        refine hK.out _ _ (hHeld.step hb) (fun hHeld2 => ?_)
        clear hK K hHeld
        have hHeld := hHeld2
        clear hHeld2
        (try simp only [Act.put, List.setIfInBounds_toArray, List.set_cons_zero, List.set_cons_succ])
        refine wpAnyH_take (i := 5) (oi := ⟨some 25, _, _, _, _, _⟩) (v := ?vk2n15) rfl (by kernel_rfl) (by kernel_rfl) (by kernel_rfl) (fun _ _ _ h => h) (Or.inl ⟨by rfl, ?hyk2n15⟩) hHeld ?restk2n15
        case hyk2n15 => (intro w hSw; (try dsimp only at hSw); have g4 := hSw.2.1.1 4 _ rfl; have g5 := hSw.2.1.1 5 _ rfl; have t0 := hSw.1.1 0 _ rfl; have t1 := hSw.1.1 1 _ rfl; go_simp; try with_reducible rfl)
        simp only [Act.put, List.setIfInBounds_toArray, List.set_cons_zero, List.set_cons_succ]
        refine wpAnyH_take (i := 6) (oi := ⟨some 26, _, _, _, _, _⟩) (v := undef) rfl (by kernel_rfl) (by kernel_rfl) (by kernel_rfl) (fun _ _ _ h => h) (Or.inr ⟨by rfl, rfl⟩) hHeld ?_
        simp only [Act.put, List.setIfInBounds_toArray, List.set_cons_zero, List.set_cons_succ]
        refine wpAnyH_take (i := 7) (oi := ⟨some 27, _, _, _, _, _⟩) (v := undef) rfl (by kernel_rfl) (by kernel_rfl) (by kernel_rfl) (fun _ _ _ h => h) (Or.inr ⟨by rfl, rfl⟩) hHeld ?_
        simp only [Act.put, List.setIfInBounds_toArray, List.set_cons_zero, List.set_cons_succ]
        refine wpAnyH_take (i := 8) (oi := ⟨some 28, _, _, _, _, _⟩) (v := undef) rfl (by kernel_rfl) (by kernel_rfl) (by kernel_rfl) (fun _ _ _ h => h) (Or.inr ⟨by rfl, rfl⟩) hHeld ?_
        simp only [Act.put, List.setIfInBounds_toArray, List.set_cons_zero, List.set_cons_succ]
        refine wpAnyH_take (i := 9) (oi := ⟨some 29, _, _, _, _, _⟩) (v := undef) rfl (by kernel_rfl) (by kernel_rfl) (by kernel_rfl) (fun _ _ _ h => h) (Or.inr ⟨by rfl, rfl⟩) hHeld ?_
        simp only [Act.put, List.setIfInBounds_toArray, List.set_cons_zero, List.set_cons_succ]
        refine wpAnyH_take (i := 10) (oi := ⟨some 30, _, _, _, _, _⟩) (v := undef) rfl (by kernel_rfl) (by kernel_rfl) (by kernel_rfl) (fun _ _ _ h => h) (Or.inr ⟨by rfl, rfl⟩) hHeld ?_
        simp only [Act.put, List.setIfInBounds_toArray, List.set_cons_zero, List.set_cons_succ]
        refine wpAnyH_take (i := 11) (oi := ⟨some 31, _, _, _, _, _⟩) (v := undef) rfl (by kernel_rfl) (by kernel_rfl) (by kernel_rfl) (fun _ _ _ h => h) (Or.inr ⟨by rfl, rfl⟩) hHeld ?_
        simp only [Act.put, List.setIfInBounds_toArray, List.set_cons_zero, List.set_cons_succ]
        refine wpAnyH_take (i := 12) (oi := ⟨some 32, _, _, _, _, _⟩) (v := undef) rfl (by kernel_rfl) (by kernel_rfl) (by kernel_rfl) (fun _ _ _ h => h) (Or.inr ⟨by rfl, rfl⟩) hHeld ?_
        simp only [Act.put, List.setIfInBounds_toArray, List.set_cons_zero, List.set_cons_succ]
        refine wpAnyH_take (i := 13) (oi := ⟨some 33, _, _, _, _, _⟩) (v := ?vk2n113) rfl (by kernel_rfl) (by kernel_rfl) (by kernel_rfl) (fun _ _ _ h => h) (Or.inl ⟨by rfl, ?hyk2n113⟩) hHeld ?restk2n113
        case hyk2n113 => (intro w hSw; (try dsimp only at hSw); have g4 := hSw.2.1.1 4 _ rfl; have g5 := hSw.2.1.1 5 _ rfl; have t0 := hSw.1.1 0 _ rfl; have t1 := hSw.1.1 1 _ rfl; go_simp; try with_reducible rfl)
        simp only [Act.put, List.setIfInBounds_toArray, List.set_cons_zero, List.set_cons_succ]
        refine wpAnyH_done (by kernel_rfl) ?_ _
        have HS1 : Hid (NSt w [.int .i64 ac, .int .i64 ar, .int .i64 sq, dv, .int .i64 kd, .int .i64 nc, .int .i64 nr, .int .i64 pc, .int .i64 pr, .int .i64 fc, .int .i64 fr, .string nm, .string vl] [.int .i64 nc, .int .i64 nr, .int .i64 pc, .int .i64 pr, .int .i64 fc, .int .i64 fr] (.slice ao D.length co) D _) := hHeld
        clear hHeld
        go_wp2
        go_roundw
        case rel => exact ⟨3, D, by omega, by omega, by first | rfl | go_num, (sort_past (X := [(nc, nr), (pc, pr), (fc, fr)]) (k := 2) (by simp) HT0.out (namB2_not hrt)), HS1⟩
        case measure => simp [intOf]
      · by_cases ec : fc = ac
        · by_cases er : fr = ar
          · have qc : (fc == ac) = true := by simp [ec]
            have qr : (fr == ar) = true := by simp [er]
            have qc2 : (fc != ac) = false := by simp [ec]
            have qr2 : (fr != ar) = false := by simp [er]
            have HP : Hid (namB2 ac ar (fc, fr) = false) := by rw [ec, er]; exact namB2_own
            clear ec er
            go_wp2_with fail
            refine wp_region_held_drew (S := fun W' => NSt w [.int .i64 ac, .int .i64 ar, .int .i64 sq, dv, .int .i64 kd, .int .i64 nc, .int .i64 nr, .int .i64 pc, .int .i64 pr, .int .i64 fc, .int .i64 fr, .string nm, .string vl] [.int .i64 nc, .int .i64 nr, .int .i64 pc, .int .i64 pr, .int .i64 fc, .int .i64 fr] (.slice ao D.length co) D W') (by kernel_rfl) HS.out.drew (fun hHeld => ?_)
            refine wpAnyH_take (i := 0) (oi := ⟨some 20, _, _, _, _, _⟩) (v := ?vk2n20) rfl (by kernel_rfl) (by kernel_rfl) (by kernel_rfl) (fun _ _ _ h => h) (Or.inl ⟨by rfl, ?hyk2n20⟩) hHeld ?restk2n20
            case hyk2n20 => (intro w hSw; (try dsimp only at hSw); have g4 := hSw.2.1.1 4 _ rfl; have g5 := hSw.2.1.1 5 _ rfl; have t0 := hSw.1.1 0 _ rfl; have t1 := hSw.1.1 1 _ rfl; go_simp; try with_reducible rfl)
            simp only [Act.put, List.setIfInBounds_toArray, List.set_cons_zero, List.set_cons_succ]
            refine wpAnyH_take (i := 1) (oi := ⟨some 21, _, _, _, _, _⟩) (v := ?vk2n21) rfl (by kernel_rfl) (by kernel_rfl) (by kernel_rfl) (fun _ _ _ h => h) (Or.inl ⟨by rfl, ?hyk2n21⟩) hHeld ?restk2n21
            case hyk2n21 => (intro w hSw; (try dsimp only at hSw); have g4 := hSw.2.1.1 4 _ rfl; have g5 := hSw.2.1.1 5 _ rfl; have t0 := hSw.1.1 0 _ rfl; have t1 := hSw.1.1 1 _ rfl; go_simp; try with_reducible rfl)
            simp only [Act.put, List.setIfInBounds_toArray, List.set_cons_zero, List.set_cons_succ]
            refine wpAnyH_take (i := 2) (oi := ⟨some 22, _, _, _, _, _⟩) (v := ?vk2n22) rfl (by kernel_rfl) (by kernel_rfl) (by kernel_rfl) (fun _ _ _ h => h) (Or.inl ⟨by rfl, ?hyk2n22⟩) hHeld ?restk2n22
            case hyk2n22 => (intro w hSw; (try dsimp only at hSw); have g4 := hSw.2.1.1 4 _ rfl; have g5 := hSw.2.1.1 5 _ rfl; have t0 := hSw.1.1 0 _ rfl; have t1 := hSw.1.1 1 _ rfl; go_simp; try with_reducible rfl)
            simp only [Act.put, List.setIfInBounds_toArray, List.set_cons_zero, List.set_cons_succ]
            refine wpAnyH_take (i := 3) (oi := ⟨some 23, _, _, _, _, _⟩) (v := ?vk2n23) rfl (by kernel_rfl) (by kernel_rfl) (by kernel_rfl) (fun _ _ _ h => h) (Or.inl ⟨by rfl, ?hyk2n23⟩) hHeld ?restk2n23
            case hyk2n23 => (intro w hSw; (try dsimp only at hSw); have g4 := hSw.2.1.1 4 _ rfl; have g5 := hSw.2.1.1 5 _ rfl; have t0 := hSw.1.1 0 _ rfl; have t1 := hSw.1.1 1 _ rfl; go_simp; try with_reducible rfl)
            simp only [Act.put, List.setIfInBounds_toArray, List.set_cons_zero, List.set_cons_succ]
            refine wpAnyH_ready (rs := [4]) (by kernel_rfl) (by simp) ?_
            refine AllReadyH.cons (o := ⟨some 24, _, _, _, _, _⟩) rfl (fun K hK => ?_) AllReadyH.nil
            go_simp
            have x1 := hHeld.2.1.1 4 _ rfl
            have x2 := hHeld.2.1.1 5 _ rfl
            (try go_simp)
            refine (refRight_any fc fr _).mono ?_
            rintro e w1 ⟨rfl, hw⟩
            have hb := below_of_alloc hw
            clear hw
            rw [hrt]
            (try go_wp2_with fail)
            refine hK.out _ _ (hHeld.step hb) (fun hHeld2 => ?_)
            clear hK K hHeld
            have hHeld := hHeld2
            clear hHeld2
            (try simp only [Act.put, List.setIfInBounds_toArray, List.set_cons_zero, List.set_cons_succ])
            refine wpAnyH_take (i := 5) (oi := ⟨some 25, _, _, _, _, _⟩) (v := ?vk2n25) rfl (by kernel_rfl) (by kernel_rfl) (by kernel_rfl) (fun _ _ _ h => h) (Or.inl ⟨by rfl, ?hyk2n25⟩) hHeld ?restk2n25
            case hyk2n25 => (intro w hSw; (try dsimp only at hSw); have g4 := hSw.2.1.1 4 _ rfl; have g5 := hSw.2.1.1 5 _ rfl; have t0 := hSw.1.1 0 _ rfl; have t1 := hSw.1.1 1 _ rfl; go_simp; try with_reducible rfl)
            simp only [Act.put, List.setIfInBounds_toArray, List.set_cons_zero, List.set_cons_succ]
            refine wpAnyH_take (i := 6) (oi := ⟨some 26, _, _, _, _, _⟩) (v := ?vk2n26) rfl (by kernel_rfl) (by kernel_rfl) (by kernel_rfl) (fun _ _ _ h => h) (Or.inl ⟨by rfl, ?hyk2n26⟩) hHeld ?restk2n26
            case hyk2n26 => (intro w hSw; (try dsimp only at hSw); have g4 := hSw.2.1.1 4 _ rfl; have g5 := hSw.2.1.1 5 _ rfl; have t0 := hSw.1.1 0 _ rfl; have t1 := hSw.1.1 1 _ rfl; go_simp; try with_reducible rfl)
            simp only [Act.put, List.setIfInBounds_toArray, List.set_cons_zero, List.set_cons_succ]
            refine wpAnyH_take (i := 7) (oi := ⟨some 27, _, _, _, _, _⟩) (v := ?vk2n27) rfl (by kernel_rfl) (by kernel_rfl) (by kernel_rfl) (fun _ _ _ h => h) (Or.inl ⟨by rfl, ?hyk2n27⟩) hHeld ?restk2n27
            case hyk2n27 => (intro w hSw; (try dsimp only at hSw); have g4 := hSw.2.1.1 4 _ rfl; have g5 := hSw.2.1.1 5 _ rfl; have t0 := hSw.1.1 0 _ rfl; have t1 := hSw.1.1 1 _ rfl; go_simp; try with_reducible rfl)
            simp only [Act.put, List.setIfInBounds_toArray, List.set_cons_zero, List.set_cons_succ]
            refine wpAnyH_take (i := 8) (oi := ⟨some 28, _, _, _, _, _⟩) (v := ?vk2n28) rfl (by kernel_rfl) (by kernel_rfl) (by kernel_rfl) (fun _ _ _ h => h) (Or.inl ⟨by rfl, ?hyk2n28⟩) hHeld ?restk2n28
            case hyk2n28 => (intro w hSw; (try dsimp only at hSw); have g4 := hSw.2.1.1 4 _ rfl; have g5 := hSw.2.1.1 5 _ rfl; have t0 := hSw.1.1 0 _ rfl; have t1 := hSw.1.1 1 _ rfl; go_simp; try with_reducible rfl)
            simp only [Act.put, List.setIfInBounds_toArray, List.set_cons_zero, List.set_cons_succ]
            refine wpAnyH_take (i := 9) (oi := ⟨some 29, _, _, _, _, _⟩) (v := ?vk2n29) rfl (by kernel_rfl) (by kernel_rfl) (by kernel_rfl) (fun _ _ _ h => h) (Or.inl ⟨by rfl, ?hyk2n29⟩) hHeld ?restk2n29
            case hyk2n29 => (intro w hSw; (try dsimp only at hSw); have g4 := hSw.2.1.1 4 _ rfl; have g5 := hSw.2.1.1 5 _ rfl; have t0 := hSw.1.1 0 _ rfl; have t1 := hSw.1.1 1 _ rfl; go_simp; try with_reducible rfl)
            simp only [Act.put, List.setIfInBounds_toArray, List.set_cons_zero, List.set_cons_succ]
            refine wpAnyH_take (i := 10) (oi := ⟨some 30, _, _, _, _, _⟩) (v := ?vk2n210) rfl (by kernel_rfl) (by kernel_rfl) (by kernel_rfl) (fun _ _ _ h => h) (Or.inl ⟨by rfl, ?hyk2n210⟩) hHeld ?restk2n210
            case hyk2n210 => (intro w hSw; (try dsimp only at hSw); have g4 := hSw.2.1.1 4 _ rfl; have g5 := hSw.2.1.1 5 _ rfl; have t0 := hSw.1.1 0 _ rfl; have t1 := hSw.1.1 1 _ rfl; go_simp; try with_reducible rfl)
            simp only [Act.put, List.setIfInBounds_toArray, List.set_cons_zero, List.set_cons_succ]
            refine wpAnyH_take (i := 11) (oi := ⟨some 31, _, _, _, _, _⟩) (v := ?vk2n211) rfl (by kernel_rfl) (by kernel_rfl) (by kernel_rfl) (fun _ _ _ h => h) (Or.inl ⟨by rfl, ?hyk2n211⟩) hHeld ?restk2n211
            case hyk2n211 => (intro w hSw; (try dsimp only at hSw); have g4 := hSw.2.1.1 4 _ rfl; have g5 := hSw.2.1.1 5 _ rfl; have t0 := hSw.1.1 0 _ rfl; have t1 := hSw.1.1 1 _ rfl; go_simp; try with_reducible rfl)
            simp only [Act.put, List.setIfInBounds_toArray, List.set_cons_zero, List.set_cons_succ]
            refine wpAnyH_take (i := 12) (oi := ⟨some 32, _, _, _, _, _⟩) (v := ?vk2n212) rfl (by kernel_rfl) (by kernel_rfl) (by kernel_rfl) (fun _ _ _ h => h) (Or.inl ⟨by rfl, ?hyk2n212⟩) hHeld ?restk2n212
            case hyk2n212 => (intro w hSw; (try dsimp only at hSw); have g4 := hSw.2.1.1 4 _ rfl; have g5 := hSw.2.1.1 5 _ rfl; have t0 := hSw.1.1 0 _ rfl; have t1 := hSw.1.1 1 _ rfl; go_simp; try with_reducible rfl)
            simp only [Act.put, List.setIfInBounds_toArray, List.set_cons_zero, List.set_cons_succ]
            refine wpAnyH_take (i := 13) (oi := ⟨some 33, _, _, _, _, _⟩) (v := ?vk2n213) rfl (by kernel_rfl) (by kernel_rfl) (by kernel_rfl) (fun _ _ _ h => h) (Or.inl ⟨by rfl, ?hyk2n213⟩) hHeld ?restk2n213
            case hyk2n213 => (intro w hSw; (try dsimp only at hSw); have g4 := hSw.2.1.1 4 _ rfl; have g5 := hSw.2.1.1 5 _ rfl; have t0 := hSw.1.1 0 _ rfl; have t1 := hSw.1.1 1 _ rfl; go_simp; try with_reducible rfl)
            simp only [Act.put, List.setIfInBounds_toArray, List.set_cons_zero, List.set_cons_succ]
            refine wpAnyH_done (by kernel_rfl) ?_ _
            have HS1 : Hid (NSt w [.int .i64 ac, .int .i64 ar, .int .i64 sq, dv, .int .i64 kd, .int .i64 nc, .int .i64 nr, .int .i64 pc, .int .i64 pr, .int .i64 fc, .int .i64 fr, .string nm, .string vl] [.int .i64 nc, .int .i64 nr, .int .i64 pc, .int .i64 pr, .int .i64 fc, .int .i64 fr] (.slice ao D.length co) D _) := hHeld
            clear hHeld
            go_wp2
            go_roundw
            case rel => exact ⟨3, D, by omega, by omega, by first | rfl | go_num, (sort_past (X := [(nc, nr), (pc, pr), (fc, fr)]) (k := 2) (by simp) HT0.out HP.out), HS1⟩
            case measure => simp [intOf]
          · have qc : (fc == ac) = true := by simp [ec]
            have qr : (fr == ar) = false := by simp [er]
            have qr2 : (fr != ar) = true := by simp [er]
            have HP : Hid (namB2 ac ar (fc, fr) = true) := namB2_r hrt er
            clear ec er
            go_wp2_with fail
            refine wp_region_held_drew (S := fun W' => NSt w [.int .i64 ac, .int .i64 ar, .int .i64 sq, dv, .int .i64 kd, .int .i64 nc, .int .i64 nr, .int .i64 pc, .int .i64 pr, .int .i64 fc, .int .i64 fr, .string nm, .string vl] [.int .i64 nc, .int .i64 nr, .int .i64 pc, .int .i64 pr, .int .i64 fc, .int .i64 fr] (.slice ao D.length co) D W') (by kernel_rfl) HS.out.drew (fun hHeld => ?_)
            refine wpAnyH_take (i := 0) (oi := ⟨some 20, _, _, _, _, _⟩) (v := ?vk2n30) rfl (by kernel_rfl) (by kernel_rfl) (by kernel_rfl) (fun _ _ _ h => h) (Or.inl ⟨by rfl, ?hyk2n30⟩) hHeld ?restk2n30
            case hyk2n30 => (intro w hSw; (try dsimp only at hSw); have g4 := hSw.2.1.1 4 _ rfl; have g5 := hSw.2.1.1 5 _ rfl; have t0 := hSw.1.1 0 _ rfl; have t1 := hSw.1.1 1 _ rfl; go_simp; try with_reducible rfl)
            simp only [Act.put, List.setIfInBounds_toArray, List.set_cons_zero, List.set_cons_succ]
            refine wpAnyH_take (i := 1) (oi := ⟨some 21, _, _, _, _, _⟩) (v := ?vk2n31) rfl (by kernel_rfl) (by kernel_rfl) (by kernel_rfl) (fun _ _ _ h => h) (Or.inl ⟨by rfl, ?hyk2n31⟩) hHeld ?restk2n31
            case hyk2n31 => (intro w hSw; (try dsimp only at hSw); have g4 := hSw.2.1.1 4 _ rfl; have g5 := hSw.2.1.1 5 _ rfl; have t0 := hSw.1.1 0 _ rfl; have t1 := hSw.1.1 1 _ rfl; go_simp; try with_reducible rfl)
            simp only [Act.put, List.setIfInBounds_toArray, List.set_cons_zero, List.set_cons_succ]
            refine wpAnyH_take (i := 2) (oi := ⟨some 22, _, _, _, _, _⟩) (v := ?vk2n32) rfl (by kernel_rfl) (by kernel_rfl) (by kernel_rfl) (fun _ _ _ h => h) (Or.inl ⟨by rfl, ?hyk2n32⟩) hHeld ?restk2n32
            case hyk2n32 => (intro w hSw; (try dsimp only at hSw); have g4 := hSw.2.1.1 4 _ rfl; have g5 := hSw.2.1.1 5 _ rfl; have t0 := hSw.1.1 0 _ rfl; have t1 := hSw.1.1 1 _ rfl; go_simp; try with_reducible rfl)
            simp only [Act.put, List.setIfInBounds_toArray, List.set_cons_zero, List.set_cons_succ]
            refine wpAnyH_take (i := 3) (oi := ⟨some 23, _, _, _, _, _⟩) (v := ?vk2n33) rfl (by kernel_rfl) (by kernel_rfl) (by kernel_rfl) (fun _ _ _ h => h) (Or.inl ⟨by rfl, ?hyk2n33⟩) hHeld ?restk2n33
            case hyk2n33 => (intro w hSw; (try dsimp only at hSw); have g4 := hSw.2.1.1 4 _ rfl; have g5 := hSw.2.1.1 5 _ rfl; have t0 := hSw.1.1 0 _ rfl; have t1 := hSw.1.1 1 _ rfl; go_simp; try with_reducible rfl)
            simp only [Act.put, List.setIfInBounds_toArray, List.set_cons_zero, List.set_cons_succ]
            refine wpAnyH_ready (rs := [4]) (by kernel_rfl) (by simp) ?_
            refine AllReadyH.cons (o := ⟨some 24, _, _, _, _, _⟩) rfl (fun K hK => ?_) AllReadyH.nil
            go_simp
            have x1 := hHeld.2.1.1 4 _ rfl
            have x2 := hHeld.2.1.1 5 _ rfl
            (try go_simp)
            refine (refRight_any fc fr _).mono ?_
            rintro e w1 ⟨rfl, hw⟩
            have hb := below_of_alloc hw
            clear hw
            rw [hrt]
            (try go_wp2_with fail)
            refine hK.out _ _ (hHeld.step hb) (fun hHeld2 => ?_)
            clear hK K hHeld
            have hHeld := hHeld2
            clear hHeld2
            (try simp only [Act.put, List.setIfInBounds_toArray, List.set_cons_zero, List.set_cons_succ])
            refine wpAnyH_take (i := 5) (oi := ⟨some 25, _, _, _, _, _⟩) (v := ?vk2n35) rfl (by kernel_rfl) (by kernel_rfl) (by kernel_rfl) (fun _ _ _ h => h) (Or.inl ⟨by rfl, ?hyk2n35⟩) hHeld ?restk2n35
            case hyk2n35 => (intro w hSw; (try dsimp only at hSw); have g4 := hSw.2.1.1 4 _ rfl; have g5 := hSw.2.1.1 5 _ rfl; have t0 := hSw.1.1 0 _ rfl; have t1 := hSw.1.1 1 _ rfl; go_simp; try with_reducible rfl)
            simp only [Act.put, List.setIfInBounds_toArray, List.set_cons_zero, List.set_cons_succ]
            refine wpAnyH_take (i := 6) (oi := ⟨some 26, _, _, _, _, _⟩) (v := ?vk2n36) rfl (by kernel_rfl) (by kernel_rfl) (by kernel_rfl) (fun _ _ _ h => h) (Or.inl ⟨by rfl, ?hyk2n36⟩) hHeld ?restk2n36
            case hyk2n36 => (intro w hSw; (try dsimp only at hSw); have g4 := hSw.2.1.1 4 _ rfl; have g5 := hSw.2.1.1 5 _ rfl; have t0 := hSw.1.1 0 _ rfl; have t1 := hSw.1.1 1 _ rfl; go_simp; try with_reducible rfl)
            simp only [Act.put, List.setIfInBounds_toArray, List.set_cons_zero, List.set_cons_succ]
            refine wpAnyH_take (i := 7) (oi := ⟨some 27, _, _, _, _, _⟩) (v := ?vk2n37) rfl (by kernel_rfl) (by kernel_rfl) (by kernel_rfl) (fun _ _ _ h => h) (Or.inl ⟨by rfl, ?hyk2n37⟩) hHeld ?restk2n37
            case hyk2n37 => (intro w hSw; (try dsimp only at hSw); have g4 := hSw.2.1.1 4 _ rfl; have g5 := hSw.2.1.1 5 _ rfl; have t0 := hSw.1.1 0 _ rfl; have t1 := hSw.1.1 1 _ rfl; go_simp; try with_reducible rfl)
            simp only [Act.put, List.setIfInBounds_toArray, List.set_cons_zero, List.set_cons_succ]
            refine wpAnyH_take (i := 8) (oi := ⟨some 28, _, _, _, _, _⟩) (v := ?vk2n38) rfl (by kernel_rfl) (by kernel_rfl) (by kernel_rfl) (fun _ _ _ h => h) (Or.inl ⟨by rfl, ?hyk2n38⟩) hHeld ?restk2n38
            case hyk2n38 => (intro w hSw; (try dsimp only at hSw); have g4 := hSw.2.1.1 4 _ rfl; have g5 := hSw.2.1.1 5 _ rfl; have t0 := hSw.1.1 0 _ rfl; have t1 := hSw.1.1 1 _ rfl; go_simp; try with_reducible rfl)
            simp only [Act.put, List.setIfInBounds_toArray, List.set_cons_zero, List.set_cons_succ]
            refine wpAnyH_take (i := 9) (oi := ⟨some 29, _, _, _, _, _⟩) (v := ?vk2n39) rfl (by kernel_rfl) (by kernel_rfl) (by kernel_rfl) (fun _ _ _ h => h) (Or.inl ⟨by rfl, ?hyk2n39⟩) hHeld ?restk2n39
            case hyk2n39 => (intro w hSw; (try dsimp only at hSw); have g4 := hSw.2.1.1 4 _ rfl; have g5 := hSw.2.1.1 5 _ rfl; have t0 := hSw.1.1 0 _ rfl; have t1 := hSw.1.1 1 _ rfl; go_simp; try with_reducible rfl)
            simp only [Act.put, List.setIfInBounds_toArray, List.set_cons_zero, List.set_cons_succ]
            refine wpAnyH_take (i := 10) (oi := ⟨some 30, _, _, _, _, _⟩) (v := ?vk2n310) rfl (by kernel_rfl) (by kernel_rfl) (by kernel_rfl) (fun _ _ _ h => h) (Or.inl ⟨by rfl, ?hyk2n310⟩) hHeld ?restk2n310
            case hyk2n310 => (intro w hSw; (try dsimp only at hSw); have g4 := hSw.2.1.1 4 _ rfl; have g5 := hSw.2.1.1 5 _ rfl; have t0 := hSw.1.1 0 _ rfl; have t1 := hSw.1.1 1 _ rfl; go_simp; try with_reducible rfl)
            simp only [Act.put, List.setIfInBounds_toArray, List.set_cons_zero, List.set_cons_succ]
            refine wpAnyH_take (i := 11) (oi := ⟨some 31, _, _, _, _, _⟩) (v := ?vk2n311) rfl (by kernel_rfl) (by kernel_rfl) (by kernel_rfl) (fun _ _ _ h => h) (Or.inl ⟨by rfl, ?hyk2n311⟩) hHeld ?restk2n311
            case hyk2n311 => (intro w hSw; (try dsimp only at hSw); have g4 := hSw.2.1.1 4 _ rfl; have g5 := hSw.2.1.1 5 _ rfl; have t0 := hSw.1.1 0 _ rfl; have t1 := hSw.1.1 1 _ rfl; go_simp; try with_reducible rfl)
            simp only [Act.put, List.setIfInBounds_toArray, List.set_cons_zero, List.set_cons_succ]
            refine wpAnyH_take (i := 12) (oi := ⟨some 32, _, _, _, _, _⟩) (v := ?vk2n312) rfl (by kernel_rfl) (by kernel_rfl) (by kernel_rfl) (fun _ _ _ h => h) (Or.inl ⟨by rfl, ?hyk2n312⟩) hHeld ?restk2n312
            case hyk2n312 => (intro w hSw; (try dsimp only at hSw); have g4 := hSw.2.1.1 4 _ rfl; have g5 := hSw.2.1.1 5 _ rfl; have t0 := hSw.1.1 0 _ rfl; have t1 := hSw.1.1 1 _ rfl; go_simp; try with_reducible rfl)
            simp only [Act.put, List.setIfInBounds_toArray, List.set_cons_zero, List.set_cons_succ]
            refine wpAnyH_take (i := 13) (oi := ⟨some 33, _, _, _, _, _⟩) (v := ?vk2n313) rfl (by kernel_rfl) (by kernel_rfl) (by kernel_rfl) (fun _ _ _ h => h) (Or.inl ⟨by rfl, ?hyk2n313⟩) hHeld ?restk2n313
            case hyk2n313 => (intro w hSw; (try dsimp only at hSw); have g4 := hSw.2.1.1 4 _ rfl; have g5 := hSw.2.1.1 5 _ rfl; have t0 := hSw.1.1 0 _ rfl; have t1 := hSw.1.1 1 _ rfl; go_simp; try with_reducible rfl)
            simp only [Act.put, List.setIfInBounds_toArray, List.set_cons_zero, List.set_cons_succ]
            refine wpAnyH_done (by kernel_rfl) ?_ _
            have HS1 : Hid (NSt w [.int .i64 ac, .int .i64 ar, .int .i64 sq, dv, .int .i64 kd, .int .i64 nc, .int .i64 nr, .int .i64 pc, .int .i64 pr, .int .i64 fc, .int .i64 fr, .string nm, .string vl] [.int .i64 nc, .int .i64 nr, .int .i64 pc, .int .i64 pr, .int .i64 fc, .int .i64 fr] (.slice ao D.length co) D _) := hHeld
            clear hHeld
            have y1 := HS1.out.2.1.1 4 _ rfl
            have y2 := HS1.out.2.1.1 5 _ rfl
            go_wp2_with fail
            refine (S.put_any (.slice ao D.length co) D fc fr _ HS1.out.2.2 (by omega)).mono ?_
            rintro e w2 ⟨v2, rfl, his2, hb2⟩
            have HS2 : Hid (NSt w [.int .i64 ac, .int .i64 ar, .int .i64 sq, dv, .int .i64 kd, .int .i64 nc, .int .i64 nr, .int .i64 pc, .int .i64 pr, .int .i64 fc, .int .i64 fr, .string nm, .string vl] [.int .i64 nc, .int .i64 nr, .int .i64 pc, .int .i64 pr, .int .i64 fc, .int .i64 fr] v2 (S.putL D (fc, fr)) w2) := ⟨HS1.out.1.step hb2, HS1.out.2.1.step hb2, his2⟩
            have hpl := S.putL_length D (fc, fr)
            clear his2 hb2
            go_wp2
            go_roundw
            case rel => exact ⟨3, S.putL D (fc, fr), by omega, by omega, by first | rfl | go_num, (sort_on (X := [(nc, nr), (pc, pr), (fc, fr)]) (k := 2) (by simp) HT0.out HP.out), HS2⟩
            case measure => simp [intOf]
        · have qc : (fc == ac) = false := by simp [ec]
          have qc2 : (fc != ac) = true := by simp [ec]
          have HP : Hid (namB2 ac ar (fc, fr) = true) := namB2_c hrt ec
          clear ec
          go_wp2_with fail
          refine wp_region_held_drew (S := fun W' => NSt w [.int .i64 ac, .int .i64 ar, .int .i64 sq, dv, .int .i64 kd, .int .i64 nc, .int .i64 nr, .int .i64 pc, .int .i64 pr, .int .i64 fc, .int .i64 fr, .string nm, .string vl] [.int .i64 nc, .int .i64 nr, .int .i64 pc, .int .i64 pr, .int .i64 fc, .int .i64 fr] (.slice ao D.length co) D W') (by kernel_rfl) HS.out.drew (fun hHeld => ?_)
          refine wpAnyH_take (i := 0) (oi := ⟨some 20, _, _, _, _, _⟩) (v := ?vk2n40) rfl (by kernel_rfl) (by kernel_rfl) (by kernel_rfl) (fun _ _ _ h => h) (Or.inl ⟨by rfl, ?hyk2n40⟩) hHeld ?restk2n40
          case hyk2n40 => (intro w hSw; (try dsimp only at hSw); have g4 := hSw.2.1.1 4 _ rfl; have g5 := hSw.2.1.1 5 _ rfl; have t0 := hSw.1.1 0 _ rfl; have t1 := hSw.1.1 1 _ rfl; go_simp; try with_reducible rfl)
          simp only [Act.put, List.setIfInBounds_toArray, List.set_cons_zero, List.set_cons_succ]
          refine wpAnyH_take (i := 1) (oi := ⟨some 21, _, _, _, _, _⟩) (v := ?vk2n41) rfl (by kernel_rfl) (by kernel_rfl) (by kernel_rfl) (fun _ _ _ h => h) (Or.inl ⟨by rfl, ?hyk2n41⟩) hHeld ?restk2n41
          case hyk2n41 => (intro w hSw; (try dsimp only at hSw); have g4 := hSw.2.1.1 4 _ rfl; have g5 := hSw.2.1.1 5 _ rfl; have t0 := hSw.1.1 0 _ rfl; have t1 := hSw.1.1 1 _ rfl; go_simp; try with_reducible rfl)
          simp only [Act.put, List.setIfInBounds_toArray, List.set_cons_zero, List.set_cons_succ]
          refine wpAnyH_take (i := 2) (oi := ⟨some 22, _, _, _, _, _⟩) (v := ?vk2n42) rfl (by kernel_rfl) (by kernel_rfl) (by kernel_rfl) (fun _ _ _ h => h) (Or.inl ⟨by rfl, ?hyk2n42⟩) hHeld ?restk2n42
          case hyk2n42 => (intro w hSw; (try dsimp only at hSw); have g4 := hSw.2.1.1 4 _ rfl; have g5 := hSw.2.1.1 5 _ rfl; have t0 := hSw.1.1 0 _ rfl; have t1 := hSw.1.1 1 _ rfl; go_simp; try with_reducible rfl)
          simp only [Act.put, List.setIfInBounds_toArray, List.set_cons_zero, List.set_cons_succ]
          refine wpAnyH_take (i := 3) (oi := ⟨some 23, _, _, _, _, _⟩) (v := ?vk2n43) rfl (by kernel_rfl) (by kernel_rfl) (by kernel_rfl) (fun _ _ _ h => h) (Or.inl ⟨by rfl, ?hyk2n43⟩) hHeld ?restk2n43
          case hyk2n43 => (intro w hSw; (try dsimp only at hSw); have g4 := hSw.2.1.1 4 _ rfl; have g5 := hSw.2.1.1 5 _ rfl; have t0 := hSw.1.1 0 _ rfl; have t1 := hSw.1.1 1 _ rfl; go_simp; try with_reducible rfl)
          simp only [Act.put, List.setIfInBounds_toArray, List.set_cons_zero, List.set_cons_succ]
          refine wpAnyH_ready (rs := [4]) (by kernel_rfl) (by simp) ?_
          refine AllReadyH.cons (o := ⟨some 24, _, _, _, _, _⟩) rfl (fun K hK => ?_) AllReadyH.nil
          go_simp
          have x1 := hHeld.2.1.1 4 _ rfl
          have x2 := hHeld.2.1.1 5 _ rfl
          (try go_simp)
          refine (refRight_any fc fr _).mono ?_
          rintro e w1 ⟨rfl, hw⟩
          have hb := below_of_alloc hw
          clear hw
          rw [hrt]
          (try go_wp2_with fail)
          refine hK.out _ _ (hHeld.step hb) (fun hHeld2 => ?_)
          clear hK K hHeld
          have hHeld := hHeld2
          clear hHeld2
          (try simp only [Act.put, List.setIfInBounds_toArray, List.set_cons_zero, List.set_cons_succ])
          refine wpAnyH_take (i := 5) (oi := ⟨some 25, _, _, _, _, _⟩) (v := ?vk2n45) rfl (by kernel_rfl) (by kernel_rfl) (by kernel_rfl) (fun _ _ _ h => h) (Or.inl ⟨by rfl, ?hyk2n45⟩) hHeld ?restk2n45
          case hyk2n45 => (intro w hSw; (try dsimp only at hSw); have g4 := hSw.2.1.1 4 _ rfl; have g5 := hSw.2.1.1 5 _ rfl; have t0 := hSw.1.1 0 _ rfl; have t1 := hSw.1.1 1 _ rfl; go_simp; try with_reducible rfl)
          simp only [Act.put, List.setIfInBounds_toArray, List.set_cons_zero, List.set_cons_succ]
          refine wpAnyH_take (i := 6) (oi := ⟨some 26, _, _, _, _, _⟩) (v := ?vk2n46) rfl (by kernel_rfl) (by kernel_rfl) (by kernel_rfl) (fun _ _ _ h => h) (Or.inl ⟨by rfl, ?hyk2n46⟩) hHeld ?restk2n46
          case hyk2n46 => (intro w hSw; (try dsimp only at hSw); have g4 := hSw.2.1.1 4 _ rfl; have g5 := hSw.2.1.1 5 _ rfl; have t0 := hSw.1.1 0 _ rfl; have t1 := hSw.1.1 1 _ rfl; go_simp; try with_reducible rfl)
          simp only [Act.put, List.setIfInBounds_toArray, List.set_cons_zero, List.set_cons_succ]
          refine wpAnyH_take (i := 7) (oi := ⟨some 27, _, _, _, _, _⟩) (v := ?vk2n47) rfl (by kernel_rfl) (by kernel_rfl) (by kernel_rfl) (fun _ _ _ h => h) (Or.inl ⟨by rfl, ?hyk2n47⟩) hHeld ?restk2n47
          case hyk2n47 => (intro w hSw; (try dsimp only at hSw); have g4 := hSw.2.1.1 4 _ rfl; have g5 := hSw.2.1.1 5 _ rfl; have t0 := hSw.1.1 0 _ rfl; have t1 := hSw.1.1 1 _ rfl; go_simp; try with_reducible rfl)
          simp only [Act.put, List.setIfInBounds_toArray, List.set_cons_zero, List.set_cons_succ]
          refine wpAnyH_take (i := 8) (oi := ⟨some 28, _, _, _, _, _⟩) (v := ?vk2n48) rfl (by kernel_rfl) (by kernel_rfl) (by kernel_rfl) (fun _ _ _ h => h) (Or.inl ⟨by rfl, ?hyk2n48⟩) hHeld ?restk2n48
          case hyk2n48 => (intro w hSw; (try dsimp only at hSw); have g4 := hSw.2.1.1 4 _ rfl; have g5 := hSw.2.1.1 5 _ rfl; have t0 := hSw.1.1 0 _ rfl; have t1 := hSw.1.1 1 _ rfl; go_simp; try with_reducible rfl)
          simp only [Act.put, List.setIfInBounds_toArray, List.set_cons_zero, List.set_cons_succ]
          refine wpAnyH_take (i := 9) (oi := ⟨some 29, _, _, _, _, _⟩) (v := ?vk2n49) rfl (by kernel_rfl) (by kernel_rfl) (by kernel_rfl) (fun _ _ _ h => h) (Or.inl ⟨by rfl, ?hyk2n49⟩) hHeld ?restk2n49
          case hyk2n49 => (intro w hSw; (try dsimp only at hSw); have g4 := hSw.2.1.1 4 _ rfl; have g5 := hSw.2.1.1 5 _ rfl; have t0 := hSw.1.1 0 _ rfl; have t1 := hSw.1.1 1 _ rfl; go_simp; try with_reducible rfl)
          simp only [Act.put, List.setIfInBounds_toArray, List.set_cons_zero, List.set_cons_succ]
          refine wpAnyH_take (i := 10) (oi := ⟨some 30, _, _, _, _, _⟩) (v := ?vk2n410) rfl (by kernel_rfl) (by kernel_rfl) (by kernel_rfl) (fun _ _ _ h => h) (Or.inl ⟨by rfl, ?hyk2n410⟩) hHeld ?restk2n410
          case hyk2n410 => (intro w hSw; (try dsimp only at hSw); have g4 := hSw.2.1.1 4 _ rfl; have g5 := hSw.2.1.1 5 _ rfl; have t0 := hSw.1.1 0 _ rfl; have t1 := hSw.1.1 1 _ rfl; go_simp; try with_reducible rfl)
          simp only [Act.put, List.setIfInBounds_toArray, List.set_cons_zero, List.set_cons_succ]
          refine wpAnyH_take (i := 11) (oi := ⟨some 31, _, _, _, _, _⟩) (v := ?vk2n411) rfl (by kernel_rfl) (by kernel_rfl) (by kernel_rfl) (fun _ _ _ h => h) (Or.inl ⟨by rfl, ?hyk2n411⟩) hHeld ?restk2n411
          case hyk2n411 => (intro w hSw; (try dsimp only at hSw); have g4 := hSw.2.1.1 4 _ rfl; have g5 := hSw.2.1.1 5 _ rfl; have t0 := hSw.1.1 0 _ rfl; have t1 := hSw.1.1 1 _ rfl; go_simp; try with_reducible rfl)
          simp only [Act.put, List.setIfInBounds_toArray, List.set_cons_zero, List.set_cons_succ]
          refine wpAnyH_take (i := 12) (oi := ⟨some 32, _, _, _, _, _⟩) (v := ?vk2n412) rfl (by kernel_rfl) (by kernel_rfl) (by kernel_rfl) (fun _ _ _ h => h) (Or.inl ⟨by rfl, ?hyk2n412⟩) hHeld ?restk2n412
          case hyk2n412 => (intro w hSw; (try dsimp only at hSw); have g4 := hSw.2.1.1 4 _ rfl; have g5 := hSw.2.1.1 5 _ rfl; have t0 := hSw.1.1 0 _ rfl; have t1 := hSw.1.1 1 _ rfl; go_simp; try with_reducible rfl)
          simp only [Act.put, List.setIfInBounds_toArray, List.set_cons_zero, List.set_cons_succ]
          refine wpAnyH_take (i := 13) (oi := ⟨some 33, _, _, _, _, _⟩) (v := ?vk2n413) rfl (by kernel_rfl) (by kernel_rfl) (by kernel_rfl) (fun _ _ _ h => h) (Or.inl ⟨by rfl, ?hyk2n413⟩) hHeld ?restk2n413
          case hyk2n413 => (intro w hSw; (try dsimp only at hSw); have g4 := hSw.2.1.1 4 _ rfl; have g5 := hSw.2.1.1 5 _ rfl; have t0 := hSw.1.1 0 _ rfl; have t1 := hSw.1.1 1 _ rfl; go_simp; try with_reducible rfl)
          simp only [Act.put, List.setIfInBounds_toArray, List.set_cons_zero, List.set_cons_succ]
          refine wpAnyH_done (by kernel_rfl) ?_ _
          have HS1 : Hid (NSt w [.int .i64 ac, .int .i64 ar, .int .i64 sq, dv, .int .i64 kd, .int .i64 nc, .int .i64 nr, .int .i64 pc, .int .i64 pr, .int .i64 fc, .int .i64 fr, .string nm, .string vl] [.int .i64 nc, .int .i64 nr, .int .i64 pc, .int .i64 pr, .int .i64 fc, .int .i64 fr] (.slice ao D.length co) D _) := hHeld
          clear hHeld
          have y1 := HS1.out.2.1.1 4 _ rfl
          have y2 := HS1.out.2.1.1 5 _ rfl
          go_wp2_with fail
          refine (S.put_any (.slice ao D.length co) D fc fr _ HS1.out.2.2 (by omega)).mono ?_
          rintro e w2 ⟨v2, rfl, his2, hb2⟩
          have HS2 : Hid (NSt w [.int .i64 ac, .int .i64 ar, .int .i64 sq, dv, .int .i64 kd, .int .i64 nc, .int .i64 nr, .int .i64 pc, .int .i64 pr, .int .i64 fc, .int .i64 fr, .string nm, .string vl] [.int .i64 nc, .int .i64 nr, .int .i64 pc, .int .i64 pr, .int .i64 fc, .int .i64 fr] v2 (S.putL D (fc, fr)) w2) := ⟨HS1.out.1.step hb2, HS1.out.2.1.step hb2, his2⟩
          have hpl := S.putL_length D (fc, fr)
          clear his2 hb2
          go_wp2
          go_roundw
          case rel => exact ⟨3, S.putL D (fc, fr), by omega, by omega, by first | rfl | go_num, (sort_on (X := [(nc, nr), (pc, pr), (fc, fr)]) (k := 2) (by simp) HT0.out HP.out), HS2⟩
          case measure => simp [intOf]
    · have HE : Hid (D = S.sortL (namesL ⟨ac, ar, sq, ds, kd, nc, nr, pc, pr, fc, fr, nm, vl⟩)) := by show _ = _; rw [HN0.out]; exact HT.out
      have hi1 : ¬ (3 : Int) < 3 := by omega
      go_wp2
      go_ret
      exact ⟨_, rfl, HE.out ▸ HS.out.2.2, HS.out.1.2.2⟩

end Go.Proofs.YtngldpabfpcaiaaGreat
