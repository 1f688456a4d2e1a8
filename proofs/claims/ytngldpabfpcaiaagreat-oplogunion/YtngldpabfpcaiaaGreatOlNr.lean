/- The stamps that a change names: the document's Names, of any change; change.Less. -/
import Derived.Test.YtngldpabfpcaiaaGreatTk
import Derived.Test.YtngldpabfpcaiaaGreatOlN
import Derived.Test.YtngldpabfpcaiaaGreatWalksB
namespace Go.Proofs.YtngldpabfpcaiaaGreat
open Go.RowKit
set_option linter.unusedVariables false
set_option linter.unusedSimpArgs false

theorem sort_on {p : Int × Int → Bool} {X : List (Int × Int)} {k : Nat} {D : List (Int × Int)} (h : k < X.length) (hD : D = S.sortL ((X.take k).filter p)) (hp : p X[k] = true) : S.putL D X[k] = S.sortL ((X.take (k + 1)).filter p) := by
  rw [filter_next h, if_pos hp, hD]
  unfold S.sortL
  rw [List.foldl_append]
  rfl
theorem sort_past {p : Int × Int → Bool} {X : List (Int × Int)} {k : Nat} {D : List (Int × Int)} (h : k < X.length) (hD : D = S.sortL ((X.take k).filter p)) (hp : p X[k] = false) : D = S.sortL ((X.take (k + 1)).filter p) := by rw [filter_next h, if_neg (by simp [hp]), List.append_nil, hD]
theorem below_of_alloc {w w' : World} {c r : Int} (h : w' = w.alloc (.cells #[.int .i64 c, .int .i64 r] 36)) : Below w.heap.size w w' := by rw [h]; exact (Below.refl _ _).alloc (Nat.le_refl _) _
/-- The change's box, the row of its three stamps, what is found so far. -/
def NSt (w0 : World) (cs rs : List Value) (v : Value) (D : List (Int × Int)) (W : World) : Prop := KeptC w0 w0.heap.size cs W ∧ KeptC w0 (w0.heap.size + 1) rs W ∧ S.IsS W v D
theorem NSt.step {w0 : World} {cs rs : List Value} {v : Value} {D : List (Int × Int)} {W W' : World} (h : NSt w0 cs rs v D W) (hb : Below W.heap.size W W') : NSt w0 cs rs v D W' := ⟨h.1.step hb, h.2.1.step hb, h.2.2.below hb⟩
theorem NSt.drew {w0 : World} {cs rs : List Value} {v : Value} {D : List (Int × Int)} {W : World} (h : NSt w0 cs rs v D W) : NSt w0 cs rs v D W.drew := h.step (Below.refl _ _).drew

set_option maxRecDepth 100000 in
set_option maxHeartbeats 8000000 in
/-- The document's Names. -/
theorem refNames_any (ac ar sq : Int) (dv : Value) (kd nc nr pc pr fc fr : Int) (nm vl : ByteArray) (ds : List Int) (w : World) :
    Calls Tryz.prog 73 #[.agg #[.int .i64 ac, .int .i64 ar, .int .i64 sq, dv, .int .i64 kd, .int .i64 nc, .int .i64 nr, .int .i64 pc, .int .i64 pr, .int .i64 fc, .int .i64 fr, .string nm, .string vl]] w fun e w' => ∃ v', e = .returned v' ∧ S.IsS w' v' (S.sortL (namesL ⟨ac, ar, sq, ds, kd, nc, nr, pc, pr, fc, fr, nm, vl⟩)) ∧ Below w.heap.size w w' := by
  have K0 := KeptC.start w [.int .i64 ac, .int .i64 ar, .int .i64 sq, dv, .int .i64 kd, .int .i64 nc, .int .i64 nr, .int .i64 pc, .int .i64 pr, .int .i64 fc, .int .i64 fr, .string nm, .string vl] 38
  have R0 := KeptC.start (w.alloc (.cells #[.int .i64 ac, .int .i64 ar, .int .i64 sq, dv, .int .i64 kd, .int .i64 nc, .int .i64 nr, .int .i64 pc, .int .i64 pr, .int .i64 fc, .int .i64 fr, .string nm, .string vl] 38)) [.int .i64 nc, .int .i64 nr, .int .i64 pc, .int .i64 pr, .int .i64 fc, .int .i64 fr] 36
  rw [show (w.alloc (.cells #[.int .i64 ac, .int .i64 ar, .int .i64 sq, dv, .int .i64 kd, .int .i64 nc, .int .i64 nr, .int .i64 pc, .int .i64 pr, .int .i64 fc, .int .i64 fr, .string nm, .string vl] 38)).heap.size = w.heap.size + 1 by simp] at R0
  have HK0 : KeptC w w.heap.size [.int .i64 ac, .int .i64 ar, .int .i64 sq, dv, .int .i64 kd, .int .i64 nc, .int .i64 nr, .int .i64 pc, .int .i64 pr, .int .i64 fc, .int .i64 fr, .string nm, .string vl] ((w.alloc (.cells #[.int .i64 ac, .int .i64 ar, .int .i64 sq, dv, .int .i64 kd, .int .i64 nc, .int .i64 nr, .int .i64 pc, .int .i64 pr, .int .i64 fc, .int .i64 fr, .string nm, .string vl] 38)).alloc (.cells #[.int .i64 nc, .int .i64 nr, .int .i64 pc, .int .i64 pr, .int .i64 fc, .int .i64 fr] 36)) := K0.step R0.2.2
  have HR0 : KeptC w (w.heap.size + 1) [.int .i64 nc, .int .i64 nr, .int .i64 pc, .int .i64 pr, .int .i64 fc, .int .i64 fr] ((w.alloc (.cells #[.int .i64 ac, .int .i64 ar, .int .i64 sq, dv, .int .i64 kd, .int .i64 nc, .int .i64 nr, .int .i64 pc, .int .i64 pr, .int .i64 fc, .int .i64 fr, .string nm, .string vl] 38)).alloc (.cells #[.int .i64 nc, .int .i64 nr, .int .i64 pc, .int .i64 pr, .int .i64 fc, .int .i64 fr] 36)) := ⟨R0.1, R0.2.1, HK0.2.2⟩
  have A3 : Below ((w.alloc (.cells #[.int .i64 ac, .int .i64 ar, .int .i64 sq, dv, .int .i64 kd, .int .i64 nc, .int .i64 nr, .int .i64 pc, .int .i64 pr, .int .i64 fc, .int .i64 fr, .string nm, .string vl] 38)).alloc (.cells #[.int .i64 nc, .int .i64 nr, .int .i64 pc, .int .i64 pr, .int .i64 fc, .int .i64 fr] 36)).heap.size ((w.alloc (.cells #[.int .i64 ac, .int .i64 ar, .int .i64 sq, dv, .int .i64 kd, .int .i64 nc, .int .i64 nr, .int .i64 pc, .int .i64 pr, .int .i64 fc, .int .i64 fr, .string nm, .string vl] 38)).alloc (.cells #[.int .i64 nc, .int .i64 nr, .int .i64 pc, .int .i64 pr, .int .i64 fc, .int .i64 fr] 36)) (((w.alloc (.cells #[.int .i64 ac, .int .i64 ar, .int .i64 sq, dv, .int .i64 kd, .int .i64 nc, .int .i64 nr, .int .i64 pc, .int .i64 pr, .int .i64 fc, .int .i64 fr, .string nm, .string vl] 38)).alloc (.cells #[.int .i64 nc, .int .i64 nr, .int .i64 pc, .int .i64 pr, .int .i64 fc, .int .i64 fr] 36)).alloc (.cells #[] 36)) := (Below.refl _ _).alloc (Nat.le_refl _) _
  have HS0 : Hid (NSt w [.int .i64 ac, .int .i64 ar, .int .i64 sq, dv, .int .i64 kd, .int .i64 nc, .int .i64 nr, .int .i64 pc, .int .i64 pr, .int .i64 fc, .int .i64 fr, .string nm, .string vl] [.int .i64 nc, .int .i64 nr, .int .i64 pc, .int .i64 pr, .int .i64 fc, .int .i64 fr] (.slice (some ⟨w.heap.size + 2, 0, none⟩) 0 0) [] (((w.alloc (.cells #[.int .i64 ac, .int .i64 ar, .int .i64 sq, dv, .int .i64 kd, .int .i64 nc, .int .i64 nr, .int .i64 pc, .int .i64 pr, .int .i64 fc, .int .i64 fr, .string nm, .string vl] 38)).alloc (.cells #[.int .i64 nc, .int .i64 nr, .int .i64 pc, .int .i64 pr, .int .i64 fc, .int .i64 fr] 36)).alloc (.cells #[] 36))) := ⟨HK0.step A3, HR0.step A3, S.isS_empty _ _⟩
  have HN0 : Hid (namesL ⟨ac, ar, sq, ds, kd, nc, nr, pc, pr, fc, fr, nm, vl⟩ = ([(nc, nr), (pc, pr), (fc, fr)] : List (Int × Int)).filter (namB2 ac ar)) := rfl
  clear K0 R0 HK0 HR0 A3
  go_enter Tryz.func73, Tryz.ntmps73
  go_wp2
  go_loopw [4, 5] (fun ov iv wr => ∃ (k : Nat) (D : List (Int × Int)), k ≤ 3 ∧ D.length ≤ k ∧ iv = .int .i64 (k : Int) ∧ Hid (D = S.sortL ((([(nc, nr), (pc, pr), (fc, fr)] : List (Int × Int)).take k).filter (namB2 ac ar))) ∧ Hid (NSt w [.int .i64 ac, .int .i64 ar, .int .i64 sq, dv, .int .i64 kd, .int .i64 nc, .int .i64 nr, .int .i64 pc, .int .i64 pr, .int .i64 fc, .int .i64 fr, .string nm, .string vl] [.int .i64 nc, .int .i64 nr, .int .i64 pc, .int .i64 pr, .int .i64 fc, .int .i64 fr] ov D wr)) (fun _ iv _ => 3 - (intOf iv).toNat)
  case atStart => exact ⟨0, [], by omega, by simp, rfl, rfl, HS0⟩
  case round =>
    obtain ⟨k, D, hk, hDl, rfl, HT, HS⟩ := hrel
    obtain ⟨ao, co, e0⟩ := HS.out.2.2.form
    subst e0
    obtain rfl | rfl | rfl | rfl : k = 0 ∨ k = 1 ∨ k = 2 ∨ k = 3 := by omega
    · have HT0 : Hid (D = S.sortL ((([(nc, nr), (pc, pr), (fc, fr)] : List (Int × Int)).take 0).filter (namB2 ac ar))) := HT
      have hi0 : (0 : Int) ≤ 0 := by omega
      have hi1 : (0 : Int) < 3 := by omega
      have x1 := HS.out.2.1.1 0 _ rfl
      have x2 := HS.out.2.1.1 1 _ rfl
      cases hrt : rightB nc nr
      · go_wp2_with fail
        refine wp_region_held_drew (S := fun W' => NSt w [.int .i64 ac, .int .i64 ar, .int .i64 sq, dv, .int .i64 kd, .int .i64 nc, .int .i64 nr, .int .i64 pc, .int .i64 pr, .int .i64 fc, .int .i64 fr, .string nm, .string vl] [.int .i64 nc, .int .i64 nr, .int .i64 pc, .int .i64 pr, .int .i64 fc, .int .i64 fr] (.slice ao D.length co) D W') (by kernel_rfl) HS.out.drew (fun hHeld => ?_)
        refine tkW 0 (some 20) (v := ?_) ?_ hHeld ?_
        rotate_left
        · (intro w hSw; (try dsimp only at hSw); have g0 := hSw.2.1.1 0 _ rfl; have g1 := hSw.2.1.1 1 _ rfl; have t0 := hSw.1.1 0 _ rfl; have t1 := hSw.1.1 1 _ rfl; go_simp; try with_reducible rfl)
        refine tkW 1 (some 21) (v := ?_) ?_ hHeld ?_
        rotate_left
        · (intro w hSw; (try dsimp only at hSw); have g0 := hSw.2.1.1 0 _ rfl; have g1 := hSw.2.1.1 1 _ rfl; have t0 := hSw.1.1 0 _ rfl; have t1 := hSw.1.1 1 _ rfl; go_simp; try with_reducible rfl)
        refine tkW 2 (some 22) (v := ?_) ?_ hHeld ?_
        rotate_left
        · (intro w hSw; (try dsimp only at hSw); have g0 := hSw.2.1.1 0 _ rfl; have g1 := hSw.2.1.1 1 _ rfl; have t0 := hSw.1.1 0 _ rfl; have t1 := hSw.1.1 1 _ rfl; go_simp; try with_reducible rfl)
        refine tkW 3 (some 23) (v := ?_) ?_ hHeld ?_
        rotate_left
        · (intro w hSw; (try dsimp only at hSw); have g0 := hSw.2.1.1 0 _ rfl; have g1 := hSw.2.1.1 1 _ rfl; have t0 := hSw.1.1 0 _ rfl; have t1 := hSw.1.1 1 _ rfl; go_simp; try with_reducible rfl)
        refine wpAnyH_ready (rs := [4]) (by kernel_rfl) (by simp) ?_
        refine AllReadyH.cons (o := ⟨some 24, _, _, _, _, _⟩) rfl (fun K hK => ?_) AllReadyH.nil
        go_simp
        have x1 := hHeld.2.1.1 0 _ rfl
        have x2 := hHeld.2.1.1 1 _ rfl
        (try go_simp)
        refine (refRight_any nc nr _).mono ?_
        rintro e w1 ⟨rfl, hw⟩
        have hb := below_of_alloc hw
        clear hw
        rw [hrt]
        (try go_wp2_with fail)
        refine hK.out _ _ (hHeld.step hb) (fun hHeld2 => ?_)
        clear hK K hHeld
        have hHeld := hHeld2
        clear hHeld2
        (try simp only [Act.put, List.setIfInBounds_toArray, List.set_cons_zero, List.set_cons_succ])
        refine tkW 5 (some 25) (v := ?_) ?_ hHeld ?_
        rotate_left
        · (intro w hSw; (try dsimp only at hSw); have g0 := hSw.2.1.1 0 _ rfl; have g1 := hSw.2.1.1 1 _ rfl; have t0 := hSw.1.1 0 _ rfl; have t1 := hSw.1.1 1 _ rfl; go_simp; try with_reducible rfl)
        refine tkU 6 (some 26) hHeld ?_
        refine tkU 7 (some 27) hHeld ?_
        refine tkU 8 (some 28) hHeld ?_
        refine tkU 9 (some 29) hHeld ?_
        refine tkU 10 (some 30) hHeld ?_
        refine tkU 11 (some 31) hHeld ?_
        refine tkU 12 (some 32) hHeld ?_
        refine tkW 13 (some 33) (v := ?_) ?_ hHeld ?_
        rotate_left
        · (intro w hSw; (try dsimp only at hSw); have g0 := hSw.2.1.1 0 _ rfl; have g1 := hSw.2.1.1 1 _ rfl; have t0 := hSw.1.1 0 _ rfl; have t1 := hSw.1.1 1 _ rfl; go_simp; try with_reducible rfl)
        refine wpAnyH_done (by kernel_rfl) ?_ _
        have HS1 : Hid (NSt w [.int .i64 ac, .int .i64 ar, .int .i64 sq, dv, .int .i64 kd, .int .i64 nc, .int .i64 nr, .int .i64 pc, .int .i64 pr, .int .i64 fc, .int .i64 fr, .string nm, .string vl] [.int .i64 nc, .int .i64 nr, .int .i64 pc, .int .i64 pr, .int .i64 fc, .int .i64 fr] (.slice ao D.length co) D _) := hHeld
        clear hHeld
        go_wp2
        go_roundw
        case rel => exact ⟨1, D, by omega, by omega, by first | rfl | go_num, (sort_past (X := [(nc, nr), (pc, pr), (fc, fr)]) (k := 0) (by simp) HT0.out (namB2_not hrt)), HS1⟩
        case measure => simp [intOf]
      · by_cases ec : nc = ac
        · by_cases er : nr = ar
          · have qc : (nc == ac) = true := by simp [ec]
            have qr : (nr == ar) = true := by simp [er]
            have qc2 : (nc != ac) = false := by simp [ec]
            have qr2 : (nr != ar) = false := by simp [er]
            have HP : Hid (namB2 ac ar (nc, nr) = false) := by rw [ec, er]; exact namB2_own
            clear ec er
            go_wp2_with fail
            refine wp_region_held_drew (S := fun W' => NSt w [.int .i64 ac, .int .i64 ar, .int .i64 sq, dv, .int .i64 kd, .int .i64 nc, .int .i64 nr, .int .i64 pc, .int .i64 pr, .int .i64 fc, .int .i64 fr, .string nm, .string vl] [.int .i64 nc, .int .i64 nr, .int .i64 pc, .int .i64 pr, .int .i64 fc, .int .i64 fr] (.slice ao D.length co) D W') (by kernel_rfl) HS.out.drew (fun hHeld => ?_)
            refine tkW 0 (some 20) (v := ?_) ?_ hHeld ?_
            rotate_left
            · (intro w hSw; (try dsimp only at hSw); have g0 := hSw.2.1.1 0 _ rfl; have g1 := hSw.2.1.1 1 _ rfl; have t0 := hSw.1.1 0 _ rfl; have t1 := hSw.1.1 1 _ rfl; go_simp; try with_reducible rfl)
            refine tkW 1 (some 21) (v := ?_) ?_ hHeld ?_
            rotate_left
            · (intro w hSw; (try dsimp only at hSw); have g0 := hSw.2.1.1 0 _ rfl; have g1 := hSw.2.1.1 1 _ rfl; have t0 := hSw.1.1 0 _ rfl; have t1 := hSw.1.1 1 _ rfl; go_simp; try with_reducible rfl)
            refine tkW 2 (some 22) (v := ?_) ?_ hHeld ?_
            rotate_left
            · (intro w hSw; (try dsimp only at hSw); have g0 := hSw.2.1.1 0 _ rfl; have g1 := hSw.2.1.1 1 _ rfl; have t0 := hSw.1.1 0 _ rfl; have t1 := hSw.1.1 1 _ rfl; go_simp; try with_reducible rfl)
            refine tkW 3 (some 23) (v := ?_) ?_ hHeld ?_
            rotate_left
            · (intro w hSw; (try dsimp only at hSw); have g0 := hSw.2.1.1 0 _ rfl; have g1 := hSw.2.1.1 1 _ rfl; have t0 := hSw.1.1 0 _ rfl; have t1 := hSw.1.1 1 _ rfl; go_simp; try with_reducible rfl)
            refine wpAnyH_ready (rs := [4]) (by kernel_rfl) (by simp) ?_
            refine AllReadyH.cons (o := ⟨some 24, _, _, _, _, _⟩) rfl (fun K hK => ?_) AllReadyH.nil
            go_simp
            have x1 := hHeld.2.1.1 0 _ rfl
            have x2 := hHeld.2.1.1 1 _ rfl
            (try go_simp)
            refine (refRight_any nc nr _).mono ?_
            rintro e w1 ⟨rfl, hw⟩
            have hb := below_of_alloc hw
            clear hw
            rw [hrt]
            (try go_wp2_with fail)
            refine hK.out _ _ (hHeld.step hb) (fun hHeld2 => ?_)
            clear hK K hHeld
            have hHeld := hHeld2
            clear hHeld2
            (try simp only [Act.put, List.setIfInBounds_toArray, List.set_cons_zero, List.set_cons_succ])
            refine tkW 5 (some 25) (v := ?_) ?_ hHeld ?_
            rotate_left
            · (intro w hSw; (try dsimp only at hSw); have g0 := hSw.2.1.1 0 _ rfl; have g1 := hSw.2.1.1 1 _ rfl; have t0 := hSw.1.1 0 _ rfl; have t1 := hSw.1.1 1 _ rfl; go_simp; try with_reducible rfl)
            refine tkW 6 (some 26) (v := ?_) ?_ hHeld ?_
            rotate_left
            · (intro w hSw; (try dsimp only at hSw); have g0 := hSw.2.1.1 0 _ rfl; have g1 := hSw.2.1.1 1 _ rfl; have t0 := hSw.1.1 0 _ rfl; have t1 := hSw.1.1 1 _ rfl; go_simp; try with_reducible rfl)
            refine tkW 7 (some 27) (v := ?_) ?_ hHeld ?_
            rotate_left
            · (intro w hSw; (try dsimp only at hSw); have g0 := hSw.2.1.1 0 _ rfl; have g1 := hSw.2.1.1 1 _ rfl; have t0 := hSw.1.1 0 _ rfl; have t1 := hSw.1.1 1 _ rfl; go_simp; try with_reducible rfl)
            refine tkW 8 (some 28) (v := ?_) ?_ hHeld ?_
            rotate_left
            · (intro w hSw; (try dsimp only at hSw); have g0 := hSw.2.1.1 0 _ rfl; have g1 := hSw.2.1.1 1 _ rfl; have t0 := hSw.1.1 0 _ rfl; have t1 := hSw.1.1 1 _ rfl; go_simp; try with_reducible rfl)
            refine tkW 9 (some 29) (v := ?_) ?_ hHeld ?_
            rotate_left
            · (intro w hSw; (try dsimp only at hSw); have g0 := hSw.2.1.1 0 _ rfl; have g1 := hSw.2.1.1 1 _ rfl; have t0 := hSw.1.1 0 _ rfl; have t1 := hSw.1.1 1 _ rfl; go_simp; try with_reducible rfl)
            refine tkW 10 (some 30) (v := ?_) ?_ hHeld ?_
            rotate_left
            · (intro w hSw; (try dsimp only at hSw); have g0 := hSw.2.1.1 0 _ rfl; have g1 := hSw.2.1.1 1 _ rfl; have t0 := hSw.1.1 0 _ rfl; have t1 := hSw.1.1 1 _ rfl; go_simp; try with_reducible rfl)
            refine tkW 11 (some 31) (v := ?_) ?_ hHeld ?_
            rotate_left
            · (intro w hSw; (try dsimp only at hSw); have g0 := hSw.2.1.1 0 _ rfl; have g1 := hSw.2.1.1 1 _ rfl; have t0 := hSw.1.1 0 _ rfl; have t1 := hSw.1.1 1 _ rfl; go_simp; try with_reducible rfl)
            refine tkW 12 (some 32) (v := ?_) ?_ hHeld ?_
            rotate_left
            · (intro w hSw; (try dsimp only at hSw); have g0 := hSw.2.1.1 0 _ rfl; have g1 := hSw.2.1.1 1 _ rfl; have t0 := hSw.1.1 0 _ rfl; have t1 := hSw.1.1 1 _ rfl; go_simp; try with_reducible rfl)
            refine tkW 13 (some 33) (v := ?_) ?_ hHeld ?_
            rotate_left
            · (intro w hSw; (try dsimp only at hSw); have g0 := hSw.2.1.1 0 _ rfl; have g1 := hSw.2.1.1 1 _ rfl; have t0 := hSw.1.1 0 _ rfl; have t1 := hSw.1.1 1 _ rfl; go_simp; try with_reducible rfl)
            refine wpAnyH_done (by kernel_rfl) ?_ _
            have HS1 : Hid (NSt w [.int .i64 ac, .int .i64 ar, .int .i64 sq, dv, .int .i64 kd, .int .i64 nc, .int .i64 nr, .int .i64 pc, .int .i64 pr, .int .i64 fc, .int .i64 fr, .string nm, .string vl] [.int .i64 nc, .int .i64 nr, .int .i64 pc, .int .i64 pr, .int .i64 fc, .int .i64 fr] (.slice ao D.length co) D _) := hHeld
            clear hHeld
            go_wp2
            go_roundw
            case rel => exact ⟨1, D, by omega, by omega, by first | rfl | go_num, (sort_past (X := [(nc, nr), (pc, pr), (fc, fr)]) (k := 0) (by simp) HT0.out HP.out), HS1⟩
            case measure => simp [intOf]
          · have qc : (nc == ac) = true := by simp [ec]
            have qr : (nr == ar) = false := by simp [er]
            have qr2 : (nr != ar) = true := by simp [er]
            have HP : Hid (namB2 ac ar (nc, nr) = true) := namB2_r hrt er
            clear ec er
            go_wp2_with fail
            refine wp_region_held_drew (S := fun W' => NSt w [.int .i64 ac, .int .i64 ar, .int .i64 sq, dv, .int .i64 kd, .int .i64 nc, .int .i64 nr, .int .i64 pc, .int .i64 pr, .int .i64 fc, .int .i64 fr, .string nm, .string vl] [.int .i64 nc, .int .i64 nr, .int .i64 pc, .int .i64 pr, .int .i64 fc, .int .i64 fr] (.slice ao D.length co) D W') (by kernel_rfl) HS.out.drew (fun hHeld => ?_)
            refine tkW 0 (some 20) (v := ?_) ?_ hHeld ?_
            rotate_left
            · (intro w hSw; (try dsimp only at hSw); have g0 := hSw.2.1.1 0 _ rfl; have g1 := hSw.2.1.1 1 _ rfl; have t0 := hSw.1.1 0 _ rfl; have t1 := hSw.1.1 1 _ rfl; go_simp; try with_reducible rfl)
            refine tkW 1 (some 21) (v := ?_) ?_ hHeld ?_
            rotate_left
            · (intro w hSw; (try dsimp only at hSw); have g0 := hSw.2.1.1 0 _ rfl; have g1 := hSw.2.1.1 1 _ rfl; have t0 := hSw.1.1 0 _ rfl; have t1 := hSw.1.1 1 _ rfl; go_simp; try with_reducible rfl)
            refine tkW 2 (some 22) (v := ?_) ?_ hHeld ?_
            rotate_left
            · (intro w hSw; (try dsimp only at hSw); have g0 := hSw.2.1.1 0 _ rfl; have g1 := hSw.2.1.1 1 _ rfl; have t0 := hSw.1.1 0 _ rfl; have t1 := hSw.1.1 1 _ rfl; go_simp; try with_reducible rfl)
            refine tkW 3 (some 23) (v := ?_) ?_ hHeld ?_
            rotate_left
            · (intro w hSw; (try dsimp only at hSw); have g0 := hSw.2.1.1 0 _ rfl; have g1 := hSw.2.1.1 1 _ rfl; have t0 := hSw.1.1 0 _ rfl; have t1 := hSw.1.1 1 _ rfl; go_simp; try with_reducible rfl)
            refine wpAnyH_ready (rs := [4]) (by kernel_rfl) (by simp) ?_
            refine AllReadyH.cons (o := ⟨some 24, _, _, _, _, _⟩) rfl (fun K hK => ?_) AllReadyH.nil
            go_simp
            have x1 := hHeld.2.1.1 0 _ rfl
            have x2 := hHeld.2.1.1 1 _ rfl
            (try go_simp)
            refine (refRight_any nc nr _).mono ?_
            rintro e w1 ⟨rfl, hw⟩
            have hb := below_of_alloc hw
            clear hw
            rw [hrt]
            (try go_wp2_with fail)
            refine hK.out _ _ (hHeld.step hb) (fun hHeld2 => ?_)
            clear hK K hHeld
            have hHeld := hHeld2
            clear hHeld2
            (try simp only [Act.put, List.setIfInBounds_toArray, List.set_cons_zero, List.set_cons_succ])
            refine tkW 5 (some 25) (v := ?_) ?_ hHeld ?_
            rotate_left
            · (intro w hSw; (try dsimp only at hSw); have g0 := hSw.2.1.1 0 _ rfl; have g1 := hSw.2.1.1 1 _ rfl; have t0 := hSw.1.1 0 _ rfl; have t1 := hSw.1.1 1 _ rfl; go_simp; try with_reducible rfl)
            refine tkW 6 (some 26) (v := ?_) ?_ hHeld ?_
            rotate_left
            · (intro w hSw; (try dsimp only at hSw); have g0 := hSw.2.1.1 0 _ rfl; have g1 := hSw.2.1.1 1 _ rfl; have t0 := hSw.1.1 0 _ rfl; have t1 := hSw.1.1 1 _ rfl; go_simp; try with_reducible rfl)
            refine tkW 7 (some 27) (v := ?_) ?_ hHeld ?_
            rotate_left
            · (intro w hSw; (try dsimp only at hSw); have g0 := hSw.2.1.1 0 _ rfl; have g1 := hSw.2.1.1 1 _ rfl; have t0 := hSw.1.1 0 _ rfl; have t1 := hSw.1.1 1 _ rfl; go_simp; try with_reducible rfl)
            refine tkW 8 (some 28) (v := ?_) ?_ hHeld ?_
            rotate_left
            · (intro w hSw; (try dsimp only at hSw); have g0 := hSw.2.1.1 0 _ rfl; have g1 := hSw.2.1.1 1 _ rfl; have t0 := hSw.1.1 0 _ rfl; have t1 := hSw.1.1 1 _ rfl; go_simp; try with_reducible rfl)
            refine tkW 9 (some 29) (v := ?_) ?_ hHeld ?_
            rotate_left
            · (intro w hSw; (try dsimp only at hSw); have g0 := hSw.2.1.1 0 _ rfl; have g1 := hSw.2.1.1 1 _ rfl; have t0 := hSw.1.1 0 _ rfl; have t1 := hSw.1.1 1 _ rfl; go_simp; try with_reducible rfl)
            refine tkW 10 (some 30) (v := ?_) ?_ hHeld ?_
            rotate_left
            · (intro w hSw; (try dsimp only at hSw); have g0 := hSw.2.1.1 0 _ rfl; have g1 := hSw.2.1.1 1 _ rfl; have t0 := hSw.1.1 0 _ rfl; have t1 := hSw.1.1 1 _ rfl; go_simp; try with_reducible rfl)
            refine tkW 11 (some 31) (v := ?_) ?_ hHeld ?_
            rotate_left
            · (intro w hSw; (try dsimp only at hSw); have g0 := hSw.2.1.1 0 _ rfl; have g1 := hSw.2.1.1 1 _ rfl; have t0 := hSw.1.1 0 _ rfl; have t1 := hSw.1.1 1 _ rfl; go_simp; try with_reducible rfl)
            refine tkW 12 (some 32) (v := ?_) ?_ hHeld ?_
            rotate_left
            · (intro w hSw; (try dsimp only at hSw); have g0 := hSw.2.1.1 0 _ rfl; have g1 := hSw.2.1.1 1 _ rfl; have t0 := hSw.1.1 0 _ rfl; have t1 := hSw.1.1 1 _ rfl; go_simp; try with_reducible rfl)
            refine tkW 13 (some 33) (v := ?_) ?_ hHeld ?_
            rotate_left
            · (intro w hSw; (try dsimp only at hSw); have g0 := hSw.2.1.1 0 _ rfl; have g1 := hSw.2.1.1 1 _ rfl; have t0 := hSw.1.1 0 _ rfl; have t1 := hSw.1.1 1 _ rfl; go_simp; try with_reducible rfl)
            refine wpAnyH_done (by kernel_rfl) ?_ _
            have HS1 : Hid (NSt w [.int .i64 ac, .int .i64 ar, .int .i64 sq, dv, .int .i64 kd, .int .i64 nc, .int .i64 nr, .int .i64 pc, .int .i64 pr, .int .i64 fc, .int .i64 fr, .string nm, .string vl] [.int .i64 nc, .int .i64 nr, .int .i64 pc, .int .i64 pr, .int .i64 fc, .int .i64 fr] (.slice ao D.length co) D _) := hHeld
            clear hHeld
            have y1 := HS1.out.2.1.1 0 _ rfl
            have y2 := HS1.out.2.1.1 1 _ rfl
            go_wp2_with fail
            refine (S.put_any (.slice ao D.length co) D nc nr _ HS1.out.2.2 (by omega)).mono ?_
            rintro e w2 ⟨v2, rfl, his2, hb2⟩
            have HS2 : Hid (NSt w [.int .i64 ac, .int .i64 ar, .int .i64 sq, dv, .int .i64 kd, .int .i64 nc, .int .i64 nr, .int .i64 pc, .int .i64 pr, .int .i64 fc, .int .i64 fr, .string nm, .string vl] [.int .i64 nc, .int .i64 nr, .int .i64 pc, .int .i64 pr, .int .i64 fc, .int .i64 fr] v2 (S.putL D (nc, nr)) w2) := ⟨HS1.out.1.step hb2, HS1.out.2.1.step hb2, his2⟩
            have hpl := S.putL_length D (nc, nr)
            clear his2 hb2
            go_wp2
            go_roundw
            case rel => exact ⟨1, S.putL D (nc, nr), by omega, by omega, by first | rfl | go_num, (sort_on (X := [(nc, nr), (pc, pr), (fc, fr)]) (k := 0) (by simp) HT0.out HP.out), HS2⟩
            case measure => simp [intOf]
        · have qc : (nc == ac) = false := by simp [ec]
          have qc2 : (nc != ac) = true := by simp [ec]
          have HP : Hid (namB2 ac ar (nc, nr) = true) := namB2_c hrt ec
          clear ec
          go_wp2_with fail
          refine wp_region_held_drew (S := fun W' => NSt w [.int .i64 ac, .int .i64 ar, .int .i64 sq, dv, .int .i64 kd, .int .i64 nc, .int .i64 nr, .int .i64 pc, .int .i64 pr, .int .i64 fc, .int .i64 fr, .string nm, .string vl] [.int .i64 nc, .int .i64 nr, .int .i64 pc, .int .i64 pr, .int .i64 fc, .int .i64 fr] (.slice ao D.length co) D W') (by kernel_rfl) HS.out.drew (fun hHeld => ?_)
          refine tkW 0 (some 20) (v := ?_) ?_ hHeld ?_
          rotate_left
          · (intro w hSw; (try dsimp only at hSw); have g0 := hSw.2.1.1 0 _ rfl; have g1 := hSw.2.1.1 1 _ rfl; have t0 := hSw.1.1 0 _ rfl; have t1 := hSw.1.1 1 _ rfl; go_simp; try with_reducible rfl)
          refine tkW 1 (some 21) (v := ?_) ?_ hHeld ?_
          rotate_left
          · (intro w hSw; (try dsimp only at hSw); have g0 := hSw.2.1.1 0 _ rfl; have g1 := hSw.2.1.1 1 _ rfl; have t0 := hSw.1.1 0 _ rfl; have t1 := hSw.1.1 1 _ rfl; go_simp; try with_reducible rfl)
          refine tkW 2 (some 22) (v := ?_) ?_ hHeld ?_
          rotate_left
          · (intro w hSw; (try dsimp only at hSw); have g0 := hSw.2.1.1 0 _ rfl; have g1 := hSw.2.1.1 1 _ rfl; have t0 := hSw.1.1 0 _ rfl; have t1 := hSw.1.1 1 _ rfl; go_simp; try with_reducible rfl)
          refine tkW 3 (some 23) (v := ?_) ?_ hHeld ?_
          rotate_left
          · (intro w hSw; (try dsimp only at hSw); have g0 := hSw.2.1.1 0 _ rfl; have g1 := hSw.2.1.1 1 _ rfl; have t0 := hSw.1.1 0 _ rfl; have t1 := hSw.1.1 1 _ rfl; go_simp; try with_reducible rfl)
          refine wpAnyH_ready (rs := [4]) (by kernel_rfl) (by simp) ?_
          refine AllReadyH.cons (o := ⟨some 24, _, _, _, _, _⟩) rfl (fun K hK => ?_) AllReadyH.nil
          go_simp
          have x1 := hHeld.2.1.1 0 _ rfl
          have x2 := hHeld.2.1.1 1 _ rfl
          (try go_simp)
          refine (refRight_any nc nr _).mono ?_
          rintro e w1 ⟨rfl, hw⟩
          have hb := below_of_alloc hw
          clear hw
          rw [hrt]
          (try go_wp2_with fail)
          refine hK.out _ _ (hHeld.step hb) (fun hHeld2 => ?_)
          clear hK K hHeld
          have hHeld := hHeld2
          clear hHeld2
          (try simp only [Act.put, List.setIfInBounds_toArray, List.set_cons_zero, List.set_cons_succ])
          refine tkW 5 (some 25) (v := ?_) ?_ hHeld ?_
          rotate_left
          · (intro w hSw; (try dsimp only at hSw); have g0 := hSw.2.1.1 0 _ rfl; have g1 := hSw.2.1.1 1 _ rfl; have t0 := hSw.1.1 0 _ rfl; have t1 := hSw.1.1 1 _ rfl; go_simp; try with_reducible rfl)
          refine tkW 6 (some 26) (v := ?_) ?_ hHeld ?_
          rotate_left
          · (intro w hSw; (try dsimp only at hSw); have g0 := hSw.2.1.1 0 _ rfl; have g1 := hSw.2.1.1 1 _ rfl; have t0 := hSw.1.1 0 _ rfl; have t1 := hSw.1.1 1 _ rfl; go_simp; try with_reducible rfl)
          refine tkW 7 (some 27) (v := ?_) ?_ hHeld ?_
          rotate_left
          · (intro w hSw; (try dsimp only at hSw); have g0 := hSw.2.1.1 0 _ rfl; have g1 := hSw.2.1.1 1 _ rfl; have t0 := hSw.1.1 0 _ rfl; have t1 := hSw.1.1 1 _ rfl; go_simp; try with_reducible rfl)
          refine tkW 8 (some 28) (v := ?_) ?_ hHeld ?_
          rotate_left
          · (intro w hSw; (try dsimp only at hSw); have g0 := hSw.2.1.1 0 _ rfl; have g1 := hSw.2.1.1 1 _ rfl; have t0 := hSw.1.1 0 _ rfl; have t1 := hSw.1.1 1 _ rfl; go_simp; try with_reducible rfl)
          refine tkW 9 (some 29) (v := ?_) ?_ hHeld ?_
          rotate_left
          · (intro w hSw; (try dsimp only at hSw); have g0 := hSw.2.1.1 0 _ rfl; have g1 := hSw.2.1.1 1 _ rfl; have t0 := hSw.1.1 0 _ rfl; have t1 := hSw.1.1 1 _ rfl; go_simp; try with_reducible rfl)
          refine tkW 10 (some 30) (v := ?_) ?_ hHeld ?_
          rotate_left
          · (intro w hSw; (try dsimp only at hSw); have g0 := hSw.2.1.1 0 _ rfl; have g1 := hSw.2.1.1 1 _ rfl; have t0 := hSw.1.1 0 _ rfl; have t1 := hSw.1.1 1 _ rfl; go_simp; try with_reducible rfl)
          refine tkW 11 (some 31) (v := ?_) ?_ hHeld ?_
          rotate_left
          · (intro w hSw; (try dsimp only at hSw); have g0 := hSw.2.1.1 0 _ rfl; have g1 := hSw.2.1.1 1 _ rfl; have t0 := hSw.1.1 0 _ rfl; have t1 := hSw.1.1 1 _ rfl; go_simp; try with_reducible rfl)
          refine tkW 12 (some 32) (v := ?_) ?_ hHeld ?_
          rotate_left
          · (intro w hSw; (try dsimp only at hSw); have g0 := hSw.2.1.1 0 _ rfl; have g1 := hSw.2.1.1 1 _ rfl; have t0 := hSw.1.1 0 _ rfl; have t1 := hSw.1.1 1 _ rfl; go_simp; try with_reducible rfl)
          refine tkW 13 (some 33) (v := ?_) ?_ hHeld ?_
          rotate_left
          · (intro w hSw; (try dsimp only at hSw); have g0 := hSw.2.1.1 0 _ rfl; have g1 := hSw.2.1.1 1 _ rfl; have t0 := hSw.1.1 0 _ rfl; have t1 := hSw.1.1 1 _ rfl; go_simp; try with_reducible rfl)
          refine wpAnyH_done (by kernel_rfl) ?_ _
          have HS1 : Hid (NSt w [.int .i64 ac, .int .i64 ar, .int .i64 sq, dv, .int .i64 kd, .int .i64 nc, .int .i64 nr, .int .i64 pc, .int .i64 pr, .int .i64 fc, .int .i64 fr, .string nm, .string vl] [.int .i64 nc, .int .i64 nr, .int .i64 pc, .int .i64 pr, .int .i64 fc, .int .i64 fr] (.slice ao D.length co) D _) := hHeld
          clear hHeld
          have y1 := HS1.out.2.1.1 0 _ rfl
          have y2 := HS1.out.2.1.1 1 _ rfl
          go_wp2_with fail
          refine (S.put_any (.slice ao D.length co) D nc nr _ HS1.out.2.2 (by omega)).mono ?_
          rintro e w2 ⟨v2, rfl, his2, hb2⟩
          have HS2 : Hid (NSt w [.int .i64 ac, .int .i64 ar, .int .i64 sq, dv, .int .i64 kd, .int .i64 nc, .int .i64 nr, .int .i64 pc, .int .i64 pr, .int .i64 fc, .int .i64 fr, .string nm, .string vl] [.int .i64 nc, .int .i64 nr, .int .i64 pc, .int .i64 pr, .int .i64 fc, .int .i64 fr] v2 (S.putL D (nc, nr)) w2) := ⟨HS1.out.1.step hb2, HS1.out.2.1.step hb2, his2⟩
          have hpl := S.putL_length D (nc, nr)
          clear his2 hb2
          go_wp2
          go_roundw
          case rel => exact ⟨1, S.putL D (nc, nr), by omega, by omega, by first | rfl | go_num, (sort_on (X := [(nc, nr), (pc, pr), (fc, fr)]) (k := 0) (by simp) HT0.out HP.out), HS2⟩
          case measure => simp [intOf]
    · have HT0 : Hid (D = S.sortL ((([(nc, nr), (pc, pr), (fc, fr)] : List (Int × Int)).take 1).filter (namB2 ac ar))) := HT
      have hi0 : (0 : Int) ≤ 1 := by omega
      have hi1 : (1 : Int) < 3 := by omega
      have x1 := HS.out.2.1.1 2 _ rfl
      have x2 := HS.out.2.1.1 3 _ rfl
      cases hrt : rightB pc pr
      · go_wp2_with fail
        refine wp_region_held_drew (S := fun W' => NSt w [.int .i64 ac, .int .i64 ar, .int .i64 sq, dv, .int .i64 kd, .int .i64 nc, .int .i64 nr, .int .i64 pc, .int .i64 pr, .int .i64 fc, .int .i64 fr, .string nm, .string vl] [.int .i64 nc, .int .i64 nr, .int .i64 pc, .int .i64 pr, .int .i64 fc, .int .i64 fr] (.slice ao D.length co) D W') (by kernel_rfl) HS.out.drew (fun hHeld => ?_)
        refine tkW 0 (some 20) (v := ?_) ?_ hHeld ?_
        rotate_left
        · (intro w hSw; (try dsimp only at hSw); have g2 := hSw.2.1.1 2 _ rfl; have g3 := hSw.2.1.1 3 _ rfl; have t0 := hSw.1.1 0 _ rfl; have t1 := hSw.1.1 1 _ rfl; go_simp; try with_reducible rfl)
        refine tkW 1 (some 21) (v := ?_) ?_ hHeld ?_
        rotate_left
        · (intro w hSw; (try dsimp only at hSw); have g2 := hSw.2.1.1 2 _ rfl; have g3 := hSw.2.1.1 3 _ rfl; have t0 := hSw.1.1 0 _ rfl; have t1 := hSw.1.1 1 _ rfl; go_simp; try with_reducible rfl)
        refine tkW 2 (some 22) (v := ?_) ?_ hHeld ?_
        rotate_left
        · (intro w hSw; (try dsimp only at hSw); have g2 := hSw.2.1.1 2 _ rfl; have g3 := hSw.2.1.1 3 _ rfl; have t0 := hSw.1.1 0 _ rfl; have t1 := hSw.1.1 1 _ rfl; go_simp; try with_reducible rfl)
        refine tkW 3 (some 23) (v := ?_) ?_ hHeld ?_
        rotate_left
        · (intro w hSw; (try dsimp only at hSw); have g2 := hSw.2.1.1 2 _ rfl; have g3 := hSw.2.1.1 3 _ rfl; have t0 := hSw.1.1 0 _ rfl; have t1 := hSw.1.1 1 _ rfl; go_simp; try with_reducible rfl)
        refine wpAnyH_ready (rs := [4]) (by kernel_rfl) (by simp) ?_
        refine AllReadyH.cons (o := ⟨some 24, _, _, _, _, _⟩) rfl (fun K hK => ?_) AllReadyH.nil
        go_simp
        have x1 := hHeld.2.1.1 2 _ rfl
        have x2 := hHeld.2.1.1 3 _ rfl
        (try go_simp)
        refine (refRight_any pc pr _).mono ?_
        rintro e w1 ⟨rfl, hw⟩
        have hb := below_of_alloc hw
        clear hw
        rw [hrt]
        (try go_wp2_with fail)
        refine hK.out _ _ (hHeld.step hb) (fun hHeld2 => ?_)
        clear hK K hHeld
        have hHeld := hHeld2
        clear hHeld2
        (try simp only [Act.put, List.setIfInBounds_toArray, List.set_cons_zero, List.set_cons_succ])
        refine tkW 5 (some 25) (v := ?_) ?_ hHeld ?_
        rotate_left
        · (intro w hSw; (try dsimp only at hSw); have g2 := hSw.2.1.1 2 _ rfl; have g3 := hSw.2.1.1 3 _ rfl; have t0 := hSw.1.1 0 _ rfl; have t1 := hSw.1.1 1 _ rfl; go_simp; try with_reducible rfl)
        refine tkU 6 (some 26) hHeld ?_
        refine tkU 7 (some 27) hHeld ?_
        refine tkU 8 (some 28) hHeld ?_
        refine tkU 9 (some 29) hHeld ?_
        refine tkU 10 (some 30) hHeld ?_
        refine tkU 11 (some 31) hHeld ?_
        refine tkU 12 (some 32) hHeld ?_
        refine tkW 13 (some 33) (v := ?_) ?_ hHeld ?_
        rotate_left
        · (intro w hSw; (try dsimp only at hSw); have g2 := hSw.2.1.1 2 _ rfl; have g3 := hSw.2.1.1 3 _ rfl; have t0 := hSw.1.1 0 _ rfl; have t1 := hSw.1.1 1 _ rfl; go_simp; try with_reducible rfl)
        refine wpAnyH_done (by kernel_rfl) ?_ _
        have HS1 : Hid (NSt w [.int .i64 ac, .int .i64 ar, .int .i64 sq, dv, .int .i64 kd, .int .i64 nc, .int .i64 nr, .int .i64 pc, .int .i64 pr, .int .i64 fc, .int .i64 fr, .string nm, .string vl] [.int .i64 nc, .int .i64 nr, .int .i64 pc, .int .i64 pr, .int .i64 fc, .int .i64 fr] (.slice ao D.length co) D _) := hHeld
        clear hHeld
        go_wp2
        go_roundw
        case rel => exact ⟨2, D, by omega, by omega, by first | rfl | go_num, (sort_past (X := [(nc, nr), (pc, pr), (fc, fr)]) (k := 1) (by simp) HT0.out (namB2_not hrt)), HS1⟩
        case measure => simp [intOf]
      · by_cases ec : pc = ac
        · by_cases er : pr = ar
          · have qc : (pc == ac) = true := by simp [ec]
            have qr : (pr == ar) = true := by simp [er]
            have qc2 : (pc != ac) = false := by simp [ec]
            have qr2 : (pr != ar) = false := by simp [er]
            have HP : Hid (namB2 ac ar (pc, pr) = false) := by rw [ec, er]; exact namB2_own
            clear ec er
            go_wp2_with fail
            refine wp_region_held_drew (S := fun W' => NSt w [.int .i64 ac, .int .i64 ar, .int .i64 sq, dv, .int .i64 kd, .int .i64 nc, .int .i64 nr, .int .i64 pc, .int .i64 pr, .int .i64 fc, .int .i64 fr, .string nm, .string vl] [.int .i64 nc, .int .i64 nr, .int .i64 pc, .int .i64 pr, .int .i64 fc, .int .i64 fr] (.slice ao D.length co) D W') (by kernel_rfl) HS.out.drew (fun hHeld => ?_)
            refine tkW 0 (some 20) (v := ?_) ?_ hHeld ?_
            rotate_left
            · (intro w hSw; (try dsimp only at hSw); have g2 := hSw.2.1.1 2 _ rfl; have g3 := hSw.2.1.1 3 _ rfl; have t0 := hSw.1.1 0 _ rfl; have t1 := hSw.1.1 1 _ rfl; go_simp; try with_reducible rfl)
            refine tkW 1 (some 21) (v := ?_) ?_ hHeld ?_
            rotate_left
            · (intro w hSw; (try dsimp only at hSw); have g2 := hSw.2.1.1 2 _ rfl; have g3 := hSw.2.1.1 3 _ rfl; have t0 := hSw.1.1 0 _ rfl; have t1 := hSw.1.1 1 _ rfl; go_simp; try with_reducible rfl)
            refine tkW 2 (some 22) (v := ?_) ?_ hHeld ?_
            rotate_left
            · (intro w hSw; (try dsimp only at hSw); have g2 := hSw.2.1.1 2 _ rfl; have g3 := hSw.2.1.1 3 _ rfl; have t0 := hSw.1.1 0 _ rfl; have t1 := hSw.1.1 1 _ rfl; go_simp; try with_reducible rfl)
            refine tkW 3 (some 23) (v := ?_) ?_ hHeld ?_
            rotate_left
            · (intro w hSw; (try dsimp only at hSw); have g2 := hSw.2.1.1 2 _ rfl; have g3 := hSw.2.1.1 3 _ rfl; have t0 := hSw.1.1 0 _ rfl; have t1 := hSw.1.1 1 _ rfl; go_simp; try with_reducible rfl)
            refine wpAnyH_ready (rs := [4]) (by kernel_rfl) (by simp) ?_
            refine AllReadyH.cons (o := ⟨some 24, _, _, _, _, _⟩) rfl (fun K hK => ?_) AllReadyH.nil
            go_simp
            have x1 := hHeld.2.1.1 2 _ rfl
            have x2 := hHeld.2.1.1 3 _ rfl
            (try go_simp)
            refine (refRight_any pc pr _).mono ?_
            rintro e w1 ⟨rfl, hw⟩
            have hb := below_of_alloc hw
            clear hw
            rw [hrt]
            (try go_wp2_with fail)
            refine hK.out _ _ (hHeld.step hb) (fun hHeld2 => ?_)
            clear hK K hHeld
            have hHeld := hHeld2
            clear hHeld2
            (try simp only [Act.put, List.setIfInBounds_toArray, List.set_cons_zero, List.set_cons_succ])
            refine tkW 5 (some 25) (v := ?_) ?_ hHeld ?_
            rotate_left
            · (intro w hSw; (try dsimp only at hSw); have g2 := hSw.2.1.1 2 _ rfl; have g3 := hSw.2.1.1 3 _ rfl; have t0 := hSw.1.1 0 _ rfl; have t1 := hSw.1.1 1 _ rfl; go_simp; try with_reducible rfl)
            refine tkW 6 (some 26) (v := ?_) ?_ hHeld ?_
            rotate_left
            · (intro w hSw; (try dsimp only at hSw); have g2 := hSw.2.1.1 2 _ rfl; have g3 := hSw.2.1.1 3 _ rfl; have t0 := hSw.1.1 0 _ rfl; have t1 := hSw.1.1 1 _ rfl; go_simp; try with_reducible rfl)
            refine tkW 7 (some 27) (v := ?_) ?_ hHeld ?_
            rotate_left
            · (intro w hSw; (try dsimp only at hSw); have g2 := hSw.2.1.1 2 _ rfl; have g3 := hSw.2.1.1 3 _ rfl; have t0 := hSw.1.1 0 _ rfl; have t1 := hSw.1.1 1 _ rfl; go_simp; try with_reducible rfl)
            refine tkW 8 (some 28) (v := ?_) ?_ hHeld ?_
            rotate_left
            · (intro w hSw; (try dsimp only at hSw); have g2 := hSw.2.1.1 2 _ rfl; have g3 := hSw.2.1.1 3 _ rfl; have t0 := hSw.1.1 0 _ rfl; have t1 := hSw.1.1 1 _ rfl; go_simp; try with_reducible rfl)
            refine tkW 9 (some 29) (v := ?_) ?_ hHeld ?_
            rotate_left
            · (intro w hSw; (try dsimp only at hSw); have g2 := hSw.2.1.1 2 _ rfl; have g3 := hSw.2.1.1 3 _ rfl; have t0 := hSw.1.1 0 _ rfl; have t1 := hSw.1.1 1 _ rfl; go_simp; try with_reducible rfl)
            refine tkW 10 (some 30) (v := ?_) ?_ hHeld ?_
            rotate_left
            · (intro w hSw; (try dsimp only at hSw); have g2 := hSw.2.1.1 2 _ rfl; have g3 := hSw.2.1.1 3 _ rfl; have t0 := hSw.1.1 0 _ rfl; have t1 := hSw.1.1 1 _ rfl; go_simp; try with_reducible rfl)
            refine tkW 11 (some 31) (v := ?_) ?_ hHeld ?_
            rotate_left
            · (intro w hSw; (try dsimp only at hSw); have g2 := hSw.2.1.1 2 _ rfl; have g3 := hSw.2.1.1 3 _ rfl; have t0 := hSw.1.1 0 _ rfl; have t1 := hSw.1.1 1 _ rfl; go_simp; try with_reducible rfl)
            refine tkW 12 (some 32) (v := ?_) ?_ hHeld ?_
            rotate_left
            · (intro w hSw; (try dsimp only at hSw); have g2 := hSw.2.1.1 2 _ rfl; have g3 := hSw.2.1.1 3 _ rfl; have t0 := hSw.1.1 0 _ rfl; have t1 := hSw.1.1 1 _ rfl; go_simp; try with_reducible rfl)
            refine tkW 13 (some 33) (v := ?_) ?_ hHeld ?_
            rotate_left
            · (intro w hSw; (try dsimp only at hSw); have g2 := hSw.2.1.1 2 _ rfl; have g3 := hSw.2.1.1 3 _ rfl; have t0 := hSw.1.1 0 _ rfl; have t1 := hSw.1.1 1 _ rfl; go_simp; try with_reducible rfl)
            refine wpAnyH_done (by kernel_rfl) ?_ _
            have HS1 : Hid (NSt w [.int .i64 ac, .int .i64 ar, .int .i64 sq, dv, .int .i64 kd, .int .i64 nc, .int .i64 nr, .int .i64 pc, .int .i64 pr, .int .i64 fc, .int .i64 fr, .string nm, .string vl] [.int .i64 nc, .int .i64 nr, .int .i64 pc, .int .i64 pr, .int .i64 fc, .int .i64 fr] (.slice ao D.length co) D _) := hHeld
            clear hHeld
            go_wp2
            go_roundw
            case rel => exact ⟨2, D, by omega, by omega, by first | rfl | go_num, (sort_past (X := [(nc, nr), (pc, pr), (fc, fr)]) (k := 1) (by simp) HT0.out HP.out), HS1⟩
            case measure => simp [intOf]
          · have qc : (pc == ac) = true := by simp [ec]
            have qr : (pr == ar) = false := by simp [er]
            have qr2 : (pr != ar) = true := by simp [er]
            have HP : Hid (namB2 ac ar (pc, pr) = true) := namB2_r hrt er
            clear ec er
            go_wp2_with fail
            refine wp_region_held_drew (S := fun W' => NSt w [.int .i64 ac, .int .i64 ar, .int .i64 sq, dv, .int .i64 kd, .int .i64 nc, .int .i64 nr, .int .i64 pc, .int .i64 pr, .int .i64 fc, .int .i64 fr, .string nm, .string vl] [.int .i64 nc, .int .i64 nr, .int .i64 pc, .int .i64 pr, .int .i64 fc, .int .i64 fr] (.slice ao D.length co) D W') (by kernel_rfl) HS.out.drew (fun hHeld => ?_)
            refine tkW 0 (some 20) (v := ?_) ?_ hHeld ?_
            rotate_left
            · (intro w hSw; (try dsimp only at hSw); have g2 := hSw.2.1.1 2 _ rfl; have g3 := hSw.2.1.1 3 _ rfl; have t0 := hSw.1.1 0 _ rfl; have t1 := hSw.1.1 1 _ rfl; go_simp; try with_reducible rfl)
            refine tkW 1 (some 21) (v := ?_) ?_ hHeld ?_
            rotate_left
            · (intro w hSw; (try dsimp only at hSw); have g2 := hSw.2.1.1 2 _ rfl; have g3 := hSw.2.1.1 3 _ rfl; have t0 := hSw.1.1 0 _ rfl; have t1 := hSw.1.1 1 _ rfl; go_simp; try with_reducible rfl)
            refine tkW 2 (some 22) (v := ?_) ?_ hHeld ?_
            rotate_left
            · (intro w hSw; (try dsimp only at hSw); have g2 := hSw.2.1.1 2 _ rfl; have g3 := hSw.2.1.1 3 _ rfl; have t0 := hSw.1.1 0 _ rfl; have t1 := hSw.1.1 1 _ rfl; go_simp; try with_reducible rfl)
            refine tkW 3 (some 23) (v := ?_) ?_ hHeld ?_
            rotate_left
            · (intro w hSw; (try dsimp only at hSw); have g2 := hSw.2.1.1 2 _ rfl; have g3 := hSw.2.1.1 3 _ rfl; have t0 := hSw.1.1 0 _ rfl; have t1 := hSw.1.1 1 _ rfl; go_simp; try with_reducible rfl)
            refine wpAnyH_ready (rs := [4]) (by kernel_rfl) (by simp) ?_
            refine AllReadyH.cons (o := ⟨some 24, _, _, _, _, _⟩) rfl (fun K hK => ?_) AllReadyH.nil
            go_simp
            have x1 := hHeld.2.1.1 2 _ rfl
            have x2 := hHeld.2.1.1 3 _ rfl
            (try go_simp)
            refine (refRight_any pc pr _).mono ?_
            rintro e w1 ⟨rfl, hw⟩
            have hb := below_of_alloc hw
            clear hw
            rw [hrt]
            (try go_wp2_with fail)
            refine hK.out _ _ (hHeld.step hb) (fun hHeld2 => ?_)
            clear hK K hHeld
            have hHeld := hHeld2
            clear hHeld2
            (try simp only [Act.put, List.setIfInBounds_toArray, List.set_cons_zero, List.set_cons_succ])
            refine tkW 5 (some 25) (v := ?_) ?_ hHeld ?_
            rotate_left
            · (intro w hSw; (try dsimp only at hSw); have g2 := hSw.2.1.1 2 _ rfl; have g3 := hSw.2.1.1 3 _ rfl; have t0 := hSw.1.1 0 _ rfl; have t1 := hSw.1.1 1 _ rfl; go_simp; try with_reducible rfl)
            refine tkW 6 (some 26) (v := ?_) ?_ hHeld ?_
            rotate_left
            · (intro w hSw; (try dsimp only at hSw); have g2 := hSw.2.1.1 2 _ rfl; have g3 := hSw.2.1.1 3 _ rfl; have t0 := hSw.1.1 0 _ rfl; have t1 := hSw.1.1 1 _ rfl; go_simp; try with_reducible rfl)
            refine tkW 7 (some 27) (v := ?_) ?_ hHeld ?_
            rotate_left
            · (intro w hSw; (try dsimp only at hSw); have g2 := hSw.2.1.1 2 _ rfl; have g3 := hSw.2.1.1 3 _ rfl; have t0 := hSw.1.1 0 _ rfl; have t1 := hSw.1.1 1 _ rfl; go_simp; try with_reducible rfl)
            refine tkW 8 (some 28) (v := ?_) ?_ hHeld ?_
            rotate_left
            · (intro w hSw; (try dsimp only at hSw); have g2 := hSw.2.1.1 2 _ rfl; have g3 := hSw.2.1.1 3 _ rfl; have t0 := hSw.1.1 0 _ rfl; have t1 := hSw.1.1 1 _ rfl; go_simp; try with_reducible rfl)
            refine tkW 9 (some 29) (v := ?_) ?_ hHeld ?_
            rotate_left
            · (intro w hSw; (try dsimp only at hSw); have g2 := hSw.2.1.1 2 _ rfl; have g3 := hSw.2.1.1 3 _ rfl; have t0 := hSw.1.1 0 _ rfl; have t1 := hSw.1.1 1 _ rfl; go_simp; try with_reducible rfl)
            refine tkW 10 (some 30) (v := ?_) ?_ hHeld ?_
            rotate_left
            · (intro w hSw; (try dsimp only at hSw); have g2 := hSw.2.1.1 2 _ rfl; have g3 := hSw.2.1.1 3 _ rfl; have t0 := hSw.1.1 0 _ rfl; have t1 := hSw.1.1 1 _ rfl; go_simp; try with_reducible rfl)
            refine tkW 11 (some 31) (v := ?_) ?_ hHeld ?_
            rotate_left
            · (intro w hSw; (try dsimp only at hSw); have g2 := hSw.2.1.1 2 _ rfl; have g3 := hSw.2.1.1 3 _ rfl; have t0 := hSw.1.1 0 _ rfl; have t1 := hSw.1.1 1 _ rfl; go_simp; try with_reducible rfl)
            refine tkW 12 (some 32) (v := ?_) ?_ hHeld ?_
            rotate_left
            · (intro w hSw; (try dsimp only at hSw); have g2 := hSw.2.1.1 2 _ rfl; have g3 := hSw.2.1.1 3 _ rfl; have t0 := hSw.1.1 0 _ rfl; have t1 := hSw.1.1 1 _ rfl; go_simp; try with_reducible rfl)
            refine tkW 13 (some 33) (v := ?_) ?_ hHeld ?_
            rotate_left
            · (intro w hSw; (try dsimp only at hSw); have g2 := hSw.2.1.1 2 _ rfl; have g3 := hSw.2.1.1 3 _ rfl; have t0 := hSw.1.1 0 _ rfl; have t1 := hSw.1.1 1 _ rfl; go_simp; try with_reducible rfl)
            refine wpAnyH_done (by kernel_rfl) ?_ _
            have HS1 : Hid (NSt w [.int .i64 ac, .int .i64 ar, .int .i64 sq, dv, .int .i64 kd, .int .i64 nc, .int .i64 nr, .int .i64 pc, .int .i64 pr, .int .i64 fc, .int .i64 fr, .string nm, .string vl] [.int .i64 nc, .int .i64 nr, .int .i64 pc, .int .i64 pr, .int .i64 fc, .int .i64 fr] (.slice ao D.length co) D _) := hHeld
            clear hHeld
            have y1 := HS1.out.2.1.1 2 _ rfl
            have y2 := HS1.out.2.1.1 3 _ rfl
            go_wp2_with fail
            refine (S.put_any (.slice ao D.length co) D pc pr _ HS1.out.2.2 (by omega)).mono ?_
            rintro e w2 ⟨v2, rfl, his2, hb2⟩
            have HS2 : Hid (NSt w [.int .i64 ac, .int .i64 ar, .int .i64 sq, dv, .int .i64 kd, .int .i64 nc, .int .i64 nr, .int .i64 pc, .int .i64 pr, .int .i64 fc, .int .i64 fr, .string nm, .string vl] [.int .i64 nc, .int .i64 nr, .int .i64 pc, .int .i64 pr, .int .i64 fc, .int .i64 fr] v2 (S.putL D (pc, pr)) w2) := ⟨HS1.out.1.step hb2, HS1.out.2.1.step hb2, his2⟩
            have hpl := S.putL_length D (pc, pr)
            clear his2 hb2
            go_wp2
            go_roundw
            case rel => exact ⟨2, S.putL D (pc, pr), by omega, by omega, by first | rfl | go_num, (sort_on (X := [(nc, nr), (pc, pr), (fc, fr)]) (k := 1) (by simp) HT0.out HP.out), HS2⟩
            case measure => simp [intOf]
        · have qc : (pc == ac) = false := by simp [ec]
          have qc2 : (pc != ac) = true := by simp [ec]
          have HP : Hid (namB2 ac ar (pc, pr) = true) := namB2_c hrt ec
          clear ec
          go_wp2_with fail
          refine wp_region_held_drew (S := fun W' => NSt w [.int .i64 ac, .int .i64 ar, .int .i64 sq, dv, .int .i64 kd, .int .i64 nc, .int .i64 nr, .int .i64 pc, .int .i64 pr, .int .i64 fc, .int .i64 fr, .string nm, .string vl] [.int .i64 nc, .int .i64 nr, .int .i64 pc, .int .i64 pr, .int .i64 fc, .int .i64 fr] (.slice ao D.length co) D W') (by kernel_rfl) HS.out.drew (fun hHeld => ?_)
          refine tkW 0 (some 20) (v := ?_) ?_ hHeld ?_
          rotate_left
          · (intro w hSw; (try dsimp only at hSw); have g2 := hSw.2.1.1 2 _ rfl; have g3 := hSw.2.1.1 3 _ rfl; have t0 := hSw.1.1 0 _ rfl; have t1 := hSw.1.1 1 _ rfl; go_simp; try with_reducible rfl)
          refine tkW 1 (some 21) (v := ?_) ?_ hHeld ?_
          rotate_left
          · (intro w hSw; (try dsimp only at hSw); have g2 := hSw.2.1.1 2 _ rfl; have g3 := hSw.2.1.1 3 _ rfl; have t0 := hSw.1.1 0 _ rfl; have t1 := hSw.1.1 1 _ rfl; go_simp; try with_reducible rfl)
          refine tkW 2 (some 22) (v := ?_) ?_ hHeld ?_
          rotate_left
          · (intro w hSw; (try dsimp only at hSw); have g2 := hSw.2.1.1 2 _ rfl; have g3 := hSw.2.1.1 3 _ rfl; have t0 := hSw.1.1 0 _ rfl; have t1 := hSw.1.1 1 _ rfl; go_simp; try with_reducible rfl)
          refine tkW 3 (some 23) (v := ?_) ?_ hHeld ?_
          rotate_left
          · (intro w hSw; (try dsimp only at hSw); have g2 := hSw.2.1.1 2 _ rfl; have g3 := hSw.2.1.1 3 _ rfl; have t0 := hSw.1.1 0 _ rfl; have t1 := hSw.1.1 1 _ rfl; go_simp; try with_reducible rfl)
          refine wpAnyH_ready (rs := [4]) (by kernel_rfl) (by simp) ?_
          refine AllReadyH.cons (o := ⟨some 24, _, _, _, _, _⟩) rfl (fun K hK => ?_) AllReadyH.nil
          go_simp
          have x1 := hHeld.2.1.1 2 _ rfl
          have x2 := hHeld.2.1.1 3 _ rfl
          (try go_simp)
          refine (refRight_any pc pr _).mono ?_
          rintro e w1 ⟨rfl, hw⟩
          have hb := below_of_alloc hw
          clear hw
          rw [hrt]
          (try go_wp2_with fail)
          refine hK.out _ _ (hHeld.step hb) (fun hHeld2 => ?_)
          clear hK K hHeld
          have hHeld := hHeld2
          clear hHeld2
          (try simp only [Act.put, List.setIfInBounds_toArray, List.set_cons_zero, List.set_cons_succ])
          refine tkW 5 (some 25) (v := ?_) ?_ hHeld ?_
          rotate_left
          · (intro w hSw; (try dsimp only at hSw); have g2 := hSw.2.1.1 2 _ rfl; have g3 := hSw.2.1.1 3 _ rfl; have t0 := hSw.1.1 0 _ rfl; have t1 := hSw.1.1 1 _ rfl; go_simp; try with_reducible rfl)
          refine tkW 6 (some 26) (v := ?_) ?_ hHeld ?_
          rotate_left
          · (intro w hSw; (try dsimp only at hSw); have g2 := hSw.2.1.1 2 _ rfl; have g3 := hSw.2.1.1 3 _ rfl; have t0 := hSw.1.1 0 _ rfl; have t1 := hSw.1.1 1 _ rfl; go_simp; try with_reducible rfl)
          refine tkW 7 (some 27) (v := ?_) ?_ hHeld ?_
          rotate_left
          · (intro w hSw; (try dsimp only at hSw); have g2 := hSw.2.1.1 2 _ rfl; have g3 := hSw.2.1.1 3 _ rfl; have t0 := hSw.1.1 0 _ rfl; have t1 := hSw.1.1 1 _ rfl; go_simp; try with_reducible rfl)
          refine tkW 8 (some 28) (v := ?_) ?_ hHeld ?_
          rotate_left
          · (intro w hSw; (try dsimp only at hSw); have g2 := hSw.2.1.1 2 _ rfl; have g3 := hSw.2.1.1 3 _ rfl; have t0 := hSw.1.1 0 _ rfl; have t1 := hSw.1.1 1 _ rfl; go_simp; try with_reducible rfl)
          refine tkW 9 (some 29) (v := ?_) ?_ hHeld ?_
          rotate_left
          · (intro w hSw; (try dsimp only at hSw); have g2 := hSw.2.1.1 2 _ rfl; have g3 := hSw.2.1.1 3 _ rfl; have t0 := hSw.1.1 0 _ rfl; have t1 := hSw.1.1 1 _ rfl; go_simp; try with_reducible rfl)
          refine tkW 10 (some 30) (v := ?_) ?_ hHeld ?_
          rotate_left
          · (intro w hSw; (try dsimp only at hSw); have g2 := hSw.2.1.1 2 _ rfl; have g3 := hSw.2.1.1 3 _ rfl; have t0 := hSw.1.1 0 _ rfl; have t1 := hSw.1.1 1 _ rfl; go_simp; try with_reducible rfl)
          refine tkW 11 (some 31) (v := ?_) ?_ hHeld ?_
          rotate_left
          · (intro w hSw; (try dsimp only at hSw); have g2 := hSw.2.1.1 2 _ rfl; have g3 := hSw.2.1.1 3 _ rfl; have t0 := hSw.1.1 0 _ rfl; have t1 := hSw.1.1 1 _ rfl; go_simp; try with_reducible rfl)
          refine tkW 12 (some 32) (v := ?_) ?_ hHeld ?_
          rotate_left
          · (intro w hSw; (try dsimp only at hSw); have g2 := hSw.2.1.1 2 _ rfl; have g3 := hSw.2.1.1 3 _ rfl; have t0 := hSw.1.1 0 _ rfl; have t1 := hSw.1.1 1 _ rfl; go_simp; try with_reducible rfl)
          refine tkW 13 (some 33) (v := ?_) ?_ hHeld ?_
          rotate_left
          · (intro w hSw; (try dsimp only at hSw); have g2 := hSw.2.1.1 2 _ rfl; have g3 := hSw.2.1.1 3 _ rfl; have t0 := hSw.1.1 0 _ rfl; have t1 := hSw.1.1 1 _ rfl; go_simp; try with_reducible rfl)
          refine wpAnyH_done (by kernel_rfl) ?_ _
          have HS1 : Hid (NSt w [.int .i64 ac, .int .i64 ar, .int .i64 sq, dv, .int .i64 kd, .int .i64 nc, .int .i64 nr, .int .i64 pc, .int .i64 pr, .int .i64 fc, .int .i64 fr, .string nm, .string vl] [.int .i64 nc, .int .i64 nr, .int .i64 pc, .int .i64 pr, .int .i64 fc, .int .i64 fr] (.slice ao D.length co) D _) := hHeld
          clear hHeld
          have y1 := HS1.out.2.1.1 2 _ rfl
          have y2 := HS1.out.2.1.1 3 _ rfl
          go_wp2_with fail
          refine (S.put_any (.slice ao D.length co) D pc pr _ HS1.out.2.2 (by omega)).mono ?_
          rintro e w2 ⟨v2, rfl, his2, hb2⟩
          have HS2 : Hid (NSt w [.int .i64 ac, .int .i64 ar, .int .i64 sq, dv, .int .i64 kd, .int .i64 nc, .int .i64 nr, .int .i64 pc, .int .i64 pr, .int .i64 fc, .int .i64 fr, .string nm, .string vl] [.int .i64 nc, .int .i64 nr, .int .i64 pc, .int .i64 pr, .int .i64 fc, .int .i64 fr] v2 (S.putL D (pc, pr)) w2) := ⟨HS1.out.1.step hb2, HS1.out.2.1.step hb2, his2⟩
          have hpl := S.putL_length D (pc, pr)
          clear his2 hb2
          go_wp2
          go_roundw
          case rel => exact ⟨2, S.putL D (pc, pr), by omega, by omega, by first | rfl | go_num, (sort_on (X := [(nc, nr), (pc, pr), (fc, fr)]) (k := 1) (by simp) HT0.out HP.out), HS2⟩
          case measure => simp [intOf]
    · have HT0 : Hid (D = S.sortL ((([(nc, nr), (pc, pr), (fc, fr)] : List (Int × Int)).take 2).filter (namB2 ac ar))) := HT
      have hi0 : (0 : Int) ≤ 2 := by omega
      have hi1 : (2 : Int) < 3 := by omega
      have x1 := HS.out.2.1.1 4 _ rfl
      have x2 := HS.out.2.1.1 5 _ rfl
      cases hrt : rightB fc fr
      · go_wp2_with fail
        refine wp_region_held_drew (S := fun W' => NSt w [.int .i64 ac, .int .i64 ar, .int .i64 sq, dv, .int .i64 kd, .int .i64 nc, .int .i64 nr, .int .i64 pc, .int .i64 pr, .int .i64 fc, .int .i64 fr, .string nm, .string vl] [.int .i64 nc, .int .i64 nr, .int .i64 pc, .int .i64 pr, .int .i64 fc, .int .i64 fr] (.slice ao D.length co) D W') (by kernel_rfl) HS.out.drew (fun hHeld => ?_)
        refine tkW 0 (some 20) (v := ?_) ?_ hHeld ?_
        rotate_left
        · (intro w hSw; (try dsimp only at hSw); have g4 := hSw.2.1.1 4 _ rfl; have g5 := hSw.2.1.1 5 _ rfl; have t0 := hSw.1.1 0 _ rfl; have t1 := hSw.1.1 1 _ rfl; go_simp; try with_reducible rfl)
        refine tkW 1 (some 21) (v := ?_) ?_ hHeld ?_
        rotate_left
        · (intro w hSw; (try dsimp only at hSw); have g4 := hSw.2.1.1 4 _ rfl; have g5 := hSw.2.1.1 5 _ rfl; have t0 := hSw.1.1 0 _ rfl; have t1 := hSw.1.1 1 _ rfl; go_simp; try with_reducible rfl)
        refine tkW 2 (some 22) (v := ?_) ?_ hHeld ?_
        rotate_left
        · (intro w hSw; (try dsimp only at hSw); have g4 := hSw.2.1.1 4 _ rfl; have g5 := hSw.2.1.1 5 _ rfl; have t0 := hSw.1.1 0 _ rfl; have t1 := hSw.1.1 1 _ rfl; go_simp; try with_reducible rfl)
        refine tkW 3 (some 23) (v := ?_) ?_ hHeld ?_
        rotate_left
        · (intro w hSw; (try dsimp only at hSw); have g4 := hSw.2.1.1 4 _ rfl; have g5 := hSw.2.1.1 5 _ rfl; have t0 := hSw.1.1 0 _ rfl; have t1 := hSw.1.1 1 _ rfl; go_simp; try with_reducible rfl)
        refine wpAnyH_ready (rs := [4]) (by kernel_rfl) (by simp) ?_
        refine AllReadyH.cons (o := ⟨some 24, _, _, _, _, _⟩) rfl (fun K hK => ?_) AllReadyH.nil
        go_simp
        have x1 := hHeld.2.1.1 4 _ rfl
        have x2 := hHeld.2.1.1 5 _ rfl
        (try go_simp)
        refine (refRight_any fc fr _).mono ?_
        rintro e w1 ⟨rfl, hw⟩
        have hb := below_of_alloc hw
        clear hw
        rw [hrt]
        (try go_wp2_with fail)
        refine hK.out _ _ (hHeld.step hb) (fun hHeld2 => ?_)
        clear hK K hHeld
        have hHeld := hHeld2
        clear hHeld2
        (try simp only [Act.put, List.setIfInBounds_toArray, List.set_cons_zero, List.set_cons_succ])
        refine tkW 5 (some 25) (v := ?_) ?_ hHeld ?_
        rotate_left
        · (intro w hSw; (try dsimp only at hSw); have g4 := hSw.2.1.1 4 _ rfl; have g5 := hSw.2.1.1 5 _ rfl; have t0 := hSw.1.1 0 _ rfl; have t1 := hSw.1.1 1 _ rfl; go_simp; try with_reducible rfl)
        refine tkU 6 (some 26) hHeld ?_
        refine tkU 7 (some 27) hHeld ?_
        refine tkU 8 (some 28) hHeld ?_
        refine tkU 9 (some 29) hHeld ?_
        refine tkU 10 (some 30) hHeld ?_
        refine tkU 11 (some 31) hHeld ?_
        refine tkU 12 (some 32) hHeld ?_
        refine tkW 13 (some 33) (v := ?_) ?_ hHeld ?_
        rotate_left
        · (intro w hSw; (try dsimp only at hSw); have g4 := hSw.2.1.1 4 _ rfl; have g5 := hSw.2.1.1 5 _ rfl; have t0 := hSw.1.1 0 _ rfl; have t1 := hSw.1.1 1 _ rfl; go_simp; try with_reducible rfl)
        refine wpAnyH_done (by kernel_rfl) ?_ _
        have HS1 : Hid (NSt w [.int .i64 ac, .int .i64 ar, .int .i64 sq, dv, .int .i64 kd, .int .i64 nc, .int .i64 nr, .int .i64 pc, .int .i64 pr, .int .i64 fc, .int .i64 fr, .string nm, .string vl] [.int .i64 nc, .int .i64 nr, .int .i64 pc, .int .i64 pr, .int .i64 fc, .int .i64 fr] (.slice ao D.length co) D _) := hHeld
        clear hHeld
        go_wp2
        go_roundw
        case rel => exact ⟨3, D, by omega, by omega, by first | rfl | go_num, (sort_past (X := [(nc, nr), (pc, pr), (fc, fr)]) (k := 2) (by simp) HT0.out (namB2_not hrt)), HS1⟩
        case measure => simp [intOf]
      · by_cases ec : fc = ac
        · by_cases er : fr = ar
          · have qc : (fc == ac) = true := by simp [ec]
            have qr : (fr == ar) = true := by simp [er]
            have qc2 : (fc != ac) = false := by simp [ec]
            have qr2 : (fr != ar) = false := by simp [er]
            have HP : Hid (namB2 ac ar (fc, fr) = false) := by rw [ec, er]; exact namB2_own
            clear ec er
            go_wp2_with fail
            refine wp_region_held_drew (S := fun W' => NSt w [.int .i64 ac, .int .i64 ar, .int .i64 sq, dv, .int .i64 kd, .int .i64 nc, .int .i64 nr, .int .i64 pc, .int .i64 pr, .int .i64 fc, .int .i64 fr, .string nm, .string vl] [.int .i64 nc, .int .i64 nr, .int .i64 pc, .int .i64 pr, .int .i64 fc, .int .i64 fr] (.slice ao D.length co) D W') (by kernel_rfl) HS.out.drew (fun hHeld => ?_)
            refine tkW 0 (some 20) (v := ?_) ?_ hHeld ?_
            rotate_left
            · (intro w hSw; (try dsimp only at hSw); have g4 := hSw.2.1.1 4 _ rfl; have g5 := hSw.2.1.1 5 _ rfl; have t0 := hSw.1.1 0 _ rfl; have t1 := hSw.1.1 1 _ rfl; go_simp; try with_reducible rfl)
            refine tkW 1 (some 21) (v := ?_) ?_ hHeld ?_
            rotate_left
            · (intro w hSw; (try dsimp only at hSw); have g4 := hSw.2.1.1 4 _ rfl; have g5 := hSw.2.1.1 5 _ rfl; have t0 := hSw.1.1 0 _ rfl; have t1 := hSw.1.1 1 _ rfl; go_simp; try with_reducible rfl)
            refine tkW 2 (some 22) (v := ?_) ?_ hHeld ?_
            rotate_left
            · (intro w hSw; (try dsimp only at hSw); have g4 := hSw.2.1.1 4 _ rfl; have g5 := hSw.2.1.1 5 _ rfl; have t0 := hSw.1.1 0 _ rfl; have t1 := hSw.1.1 1 _ rfl; go_simp; try with_reducible rfl)
            refine tkW 3 (some 23) (v := ?_) ?_ hHeld ?_
            rotate_left
            · (intro w hSw; (try dsimp only at hSw); have g4 := hSw.2.1.1 4 _ rfl; have g5 := hSw.2.1.1 5 _ rfl; have t0 := hSw.1.1 0 _ rfl; have t1 := hSw.1.1 1 _ rfl; go_simp; try with_reducible rfl)
            refine wpAnyH_ready (rs := [4]) (by kernel_rfl) (by simp) ?_
            refine AllReadyH.cons (o := ⟨some 24, _, _, _, _, _⟩) rfl (fun K hK => ?_) AllReadyH.nil
            go_simp
            have x1 := hHeld.2.1.1 4 _ rfl
            have x2 := hHeld.2.1.1 5 _ rfl
            (try go_simp)
            refine (refRight_any fc fr _).mono ?_
            rintro e w1 ⟨rfl, hw⟩
            have hb := below_of_alloc hw
            clear hw
            rw [hrt]
            (try go_wp2_with fail)
            refine hK.out _ _ (hHeld.step hb) (fun hHeld2 => ?_)
            clear hK K hHeld
            have hHeld := hHeld2
            clear hHeld2
            (try simp only [Act.put, List.setIfInBounds_toArray, List.set_cons_zero, List.set_cons_succ])
            refine tkW 5 (some 25) (v := ?_) ?_ hHeld ?_
            rotate_left
            · (intro w hSw; (try dsimp only at hSw); have g4 := hSw.2.1.1 4 _ rfl; have g5 := hSw.2.1.1 5 _ rfl; have t0 := hSw.1.1 0 _ rfl; have t1 := hSw.1.1 1 _ rfl; go_simp; try with_reducible rfl)
            refine tkW 6 (some 26) (v := ?_) ?_ hHeld ?_
            rotate_left
            · (intro w hSw; (try dsimp only at hSw); have g4 := hSw.2.1.1 4 _ rfl; have g5 := hSw.2.1.1 5 _ rfl; have t0 := hSw.1.1 0 _ rfl; have t1 := hSw.1.1 1 _ rfl; go_simp; try with_reducible rfl)
            refine tkW 7 (some 27) (v := ?_) ?_ hHeld ?_
            rotate_left
            · (intro w hSw; (try dsimp only at hSw); have g4 := hSw.2.1.1 4 _ rfl; have g5 := hSw.2.1.1 5 _ rfl; have t0 := hSw.1.1 0 _ rfl; have t1 := hSw.1.1 1 _ rfl; go_simp; try with_reducible rfl)
            refine tkW 8 (some 28) (v := ?_) ?_ hHeld ?_
            rotate_left
            · (intro w hSw; (try dsimp only at hSw); have g4 := hSw.2.1.1 4 _ rfl; have g5 := hSw.2.1.1 5 _ rfl; have t0 := hSw.1.1 0 _ rfl; have t1 := hSw.1.1 1 _ rfl; go_simp; try with_reducible rfl)
            refine tkW 9 (some 29) (v := ?_) ?_ hHeld ?_
            rotate_left
            · (intro w hSw; (try dsimp only at hSw); have g4 := hSw.2.1.1 4 _ rfl; have g5 := hSw.2.1.1 5 _ rfl; have t0 := hSw.1.1 0 _ rfl; have t1 := hSw.1.1 1 _ rfl; go_simp; try with_reducible rfl)
            refine tkW 10 (some 30) (v := ?_) ?_ hHeld ?_
            rotate_left
            · (intro w hSw; (try dsimp only at hSw); have g4 := hSw.2.1.1 4 _ rfl; have g5 := hSw.2.1.1 5 _ rfl; have t0 := hSw.1.1 0 _ rfl; have t1 := hSw.1.1 1 _ rfl; go_simp; try with_reducible rfl)
            refine tkW 11 (some 31) (v := ?_) ?_ hHeld ?_
            rotate_left
            · (intro w hSw; (try dsimp only at hSw); have g4 := hSw.2.1.1 4 _ rfl; have g5 := hSw.2.1.1 5 _ rfl; have t0 := hSw.1.1 0 _ rfl; have t1 := hSw.1.1 1 _ rfl; go_simp; try with_reducible rfl)
            refine tkW 12 (some 32) (v := ?_) ?_ hHeld ?_
            rotate_left
            · (intro w hSw; (try dsimp only at hSw); have g4 := hSw.2.1.1 4 _ rfl; have g5 := hSw.2.1.1 5 _ rfl; have t0 := hSw.1.1 0 _ rfl; have t1 := hSw.1.1 1 _ rfl; go_simp; try with_reducible rfl)
            refine tkW 13 (some 33) (v := ?_) ?_ hHeld ?_
            rotate_left
            · (intro w hSw; (try dsimp only at hSw); have g4 := hSw.2.1.1 4 _ rfl; have g5 := hSw.2.1.1 5 _ rfl; have t0 := hSw.1.1 0 _ rfl; have t1 := hSw.1.1 1 _ rfl; go_simp; try with_reducible rfl)
            refine wpAnyH_done (by kernel_rfl) ?_ _
            have HS1 : Hid (NSt w [.int .i64 ac, .int .i64 ar, .int .i64 sq, dv, .int .i64 kd, .int .i64 nc, .int .i64 nr, .int .i64 pc, .int .i64 pr, .int .i64 fc, .int .i64 fr, .string nm, .string vl] [.int .i64 nc, .int .i64 nr, .int .i64 pc, .int .i64 pr, .int .i64 fc, .int .i64 fr] (.slice ao D.length co) D _) := hHeld
            clear hHeld
            go_wp2
            go_roundw
            case rel => exact ⟨3, D, by omega, by omega, by first | rfl | go_num, (sort_past (X := [(nc, nr), (pc, pr), (fc, fr)]) (k := 2) (by simp) HT0.out HP.out), HS1⟩
            case measure => simp [intOf]
          · have qc : (fc == ac) = true := by simp [ec]
            have qr : (fr == ar) = false := by simp [er]
            have qr2 : (fr != ar) = true := by simp [er]
            have HP : Hid (namB2 ac ar (fc, fr) = true) := namB2_r hrt er
            clear ec er
            go_wp2_with fail
            refine wp_region_held_drew (S := fun W' => NSt w [.int .i64 ac, .int .i64 ar, .int .i64 sq, dv, .int .i64 kd, .int .i64 nc, .int .i64 nr, .int .i64 pc, .int .i64 pr, .int .i64 fc, .int .i64 fr, .string nm, .string vl] [.int .i64 nc, .int .i64 nr, .int .i64 pc, .int .i64 pr, .int .i64 fc, .int .i64 fr] (.slice ao D.length co) D W') (by kernel_rfl) HS.out.drew (fun hHeld => ?_)
            refine tkW 0 (some 20) (v := ?_) ?_ hHeld ?_
            rotate_left
            · (intro w hSw; (try dsimp only at hSw); have g4 := hSw.2.1.1 4 _ rfl; have g5 := hSw.2.1.1 5 _ rfl; have t0 := hSw.1.1 0 _ rfl; have t1 := hSw.1.1 1 _ rfl; go_simp; try with_reducible rfl)
            refine tkW 1 (some 21) (v := ?_) ?_ hHeld ?_
            rotate_left
            · (intro w hSw; (try dsimp only at hSw); have g4 := hSw.2.1.1 4 _ rfl; have g5 := hSw.2.1.1 5 _ rfl; have t0 := hSw.1.1 0 _ rfl; have t1 := hSw.1.1 1 _ rfl; go_simp; try with_reducible rfl)
            refine tkW 2 (some 22) (v := ?_) ?_ hHeld ?_
            rotate_left
            · (intro w hSw; (try dsimp only at hSw); have g4 := hSw.2.1.1 4 _ rfl; have g5 := hSw.2.1.1 5 _ rfl; have t0 := hSw.1.1 0 _ rfl; have t1 := hSw.1.1 1 _ rfl; go_simp; try with_reducible rfl)
            refine tkW 3 (some 23) (v := ?_) ?_ hHeld ?_
            rotate_left
            · (intro w hSw; (try dsimp only at hSw); have g4 := hSw.2.1.1 4 _ rfl; have g5 := hSw.2.1.1 5 _ rfl; have t0 := hSw.1.1 0 _ rfl; have t1 := hSw.1.1 1 _ rfl; go_simp; try with_reducible rfl)
            refine wpAnyH_ready (rs := [4]) (by kernel_rfl) (by simp) ?_
            refine AllReadyH.cons (o := ⟨some 24, _, _, _, _, _⟩) rfl (fun K hK => ?_) AllReadyH.nil
            go_simp
            have x1 := hHeld.2.1.1 4 _ rfl
            have x2 := hHeld.2.1.1 5 _ rfl
            (try go_simp)
            refine (refRight_any fc fr _).mono ?_
            rintro e w1 ⟨rfl, hw⟩
            have hb := below_of_alloc hw
            clear hw
            rw [hrt]
            (try go_wp2_with fail)
            refine hK.out _ _ (hHeld.step hb) (fun hHeld2 => ?_)
            clear hK K hHeld
            have hHeld := hHeld2
            clear hHeld2
            (try simp only [Act.put, List.setIfInBounds_toArray, List.set_cons_zero, List.set_cons_succ])
            refine tkW 5 (some 25) (v := ?_) ?_ hHeld ?_
            rotate_left
            · (intro w hSw; (try dsimp only at hSw); have g4 := hSw.2.1.1 4 _ rfl; have g5 := hSw.2.1.1 5 _ rfl; have t0 := hSw.1.1 0 _ rfl; have t1 := hSw.1.1 1 _ rfl; go_simp; try with_reducible rfl)
            refine tkW 6 (some 26) (v := ?_) ?_ hHeld ?_
            rotate_left
            · (intro w hSw; (try dsimp only at hSw); have g4 := hSw.2.1.1 4 _ rfl; have g5 := hSw.2.1.1 5 _ rfl; have t0 := hSw.1.1 0 _ rfl; have t1 := hSw.1.1 1 _ rfl; go_simp; try with_reducible rfl)
            refine tkW 7 (some 27) (v := ?_) ?_ hHeld ?_
            rotate_left
            · (intro w hSw; (try dsimp only at hSw); have g4 := hSw.2.1.1 4 _ rfl; have g5 := hSw.2.1.1 5 _ rfl; have t0 := hSw.1.1 0 _ rfl; have t1 := hSw.1.1 1 _ rfl; go_simp; try with_reducible rfl)
            refine tkW 8 (some 28) (v := ?_) ?_ hHeld ?_
            rotate_left
            · (intro w hSw; (try dsimp only at hSw); have g4 := hSw.2.1.1 4 _ rfl; have g5 := hSw.2.1.1 5 _ rfl; have t0 := hSw.1.1 0 _ rfl; have t1 := hSw.1.1 1 _ rfl; go_simp; try with_reducible rfl)
            refine tkW 9 (some 29) (v := ?_) ?_ hHeld ?_
            rotate_left
            · (intro w hSw; (try dsimp only at hSw); have g4 := hSw.2.1.1 4 _ rfl; have g5 := hSw.2.1.1 5 _ rfl; have t0 := hSw.1.1 0 _ rfl; have t1 := hSw.1.1 1 _ rfl; go_simp; try with_reducible rfl)
            refine tkW 10 (some 30) (v := ?_) ?_ hHeld ?_
            rotate_left
            · (intro w hSw; (try dsimp only at hSw); have g4 := hSw.2.1.1 4 _ rfl; have g5 := hSw.2.1.1 5 _ rfl; have t0 := hSw.1.1 0 _ rfl; have t1 := hSw.1.1 1 _ rfl; go_simp; try with_reducible rfl)
            refine tkW 11 (some 31) (v := ?_) ?_ hHeld ?_
            rotate_left
            · (intro w hSw; (try dsimp only at hSw); have g4 := hSw.2.1.1 4 _ rfl; have g5 := hSw.2.1.1 5 _ rfl; have t0 := hSw.1.1 0 _ rfl; have t1 := hSw.1.1 1 _ rfl; go_simp; try with_reducible rfl)
            refine tkW 12 (some 32) (v := ?_) ?_ hHeld ?_
            rotate_left
            · (intro w hSw; (try dsimp only at hSw); have g4 := hSw.2.1.1 4 _ rfl; have g5 := hSw.2.1.1 5 _ rfl; have t0 := hSw.1.1 0 _ rfl; have t1 := hSw.1.1 1 _ rfl; go_simp; try with_reducible rfl)
            refine tkW 13 (some 33) (v := ?_) ?_ hHeld ?_
            rotate_left
            · (intro w hSw; (try dsimp only at hSw); have g4 := hSw.2.1.1 4 _ rfl; have g5 := hSw.2.1.1 5 _ rfl; have t0 := hSw.1.1 0 _ rfl; have t1 := hSw.1.1 1 _ rfl; go_simp; try with_reducible rfl)
            refine wpAnyH_done (by kernel_rfl) ?_ _
            have HS1 : Hid (NSt w [.int .i64 ac, .int .i64 ar, .int .i64 sq, dv, .int .i64 kd, .int .i64 nc, .int .i64 nr, .int .i64 pc, .int .i64 pr, .int .i64 fc, .int .i64 fr, .string nm, .string vl] [.int .i64 nc, .int .i64 nr, .int .i64 pc, .int .i64 pr, .int .i64 fc, .int .i64 fr] (.slice ao D.length co) D _) := hHeld
            clear hHeld
            have y1 := HS1.out.2.1.1 4 _ rfl
            have y2 := HS1.out.2.1.1 5 _ rfl
            go_wp2_with fail
            refine (S.put_any (.slice ao D.length co) D fc fr _ HS1.out.2.2 (by omega)).mono ?_
            rintro e w2 ⟨v2, rfl, his2, hb2⟩
            have HS2 : Hid (NSt w [.int .i64 ac, .int .i64 ar, .int .i64 sq, dv, .int .i64 kd, .int .i64 nc, .int .i64 nr, .int .i64 pc, .int .i64 pr, .int .i64 fc, .int .i64 fr, .string nm, .string vl] [.int .i64 nc, .int .i64 nr, .int .i64 pc, .int .i64 pr, .int .i64 fc, .int .i64 fr] v2 (S.putL D (fc, fr)) w2) := ⟨HS1.out.1.step hb2, HS1.out.2.1.step hb2, his2⟩
            have hpl := S.putL_length D (fc, fr)
            clear his2 hb2
            go_wp2
            go_roundw
            case rel => exact ⟨3, S.putL D (fc, fr), by omega, by omega, by first | rfl | go_num, (sort_on (X := [(nc, nr), (pc, pr), (fc, fr)]) (k := 2) (by simp) HT0.out HP.out), HS2⟩
            case measure => simp [intOf]
        · have qc : (fc == ac) = false := by simp [ec]
          have qc2 : (fc != ac) = true := by simp [ec]
          have HP : Hid (namB2 ac ar (fc, fr) = true) := namB2_c hrt ec
          clear ec
          go_wp2_with fail
          refine wp_region_held_drew (S := fun W' => NSt w [.int .i64 ac, .int .i64 ar, .int .i64 sq, dv, .int .i64 kd, .int .i64 nc, .int .i64 nr, .int .i64 pc, .int .i64 pr, .int .i64 fc, .int .i64 fr, .string nm, .string vl] [.int .i64 nc, .int .i64 nr, .int .i64 pc, .int .i64 pr, .int .i64 fc, .int .i64 fr] (.slice ao D.length co) D W') (by kernel_rfl) HS.out.drew (fun hHeld => ?_)
          refine tkW 0 (some 20) (v := ?_) ?_ hHeld ?_
          rotate_left
          · (intro w hSw; (try dsimp only at hSw); have g4 := hSw.2.1.1 4 _ rfl; have g5 := hSw.2.1.1 5 _ rfl; have t0 := hSw.1.1 0 _ rfl; have t1 := hSw.1.1 1 _ rfl; go_simp; try with_reducible rfl)
          refine tkW 1 (some 21) (v := ?_) ?_ hHeld ?_
          rotate_left
          · (intro w hSw; (try dsimp only at hSw); have g4 := hSw.2.1.1 4 _ rfl; have g5 := hSw.2.1.1 5 _ rfl; have t0 := hSw.1.1 0 _ rfl; have t1 := hSw.1.1 1 _ rfl; go_simp; try with_reducible rfl)
          refine tkW 2 (some 22) (v := ?_) ?_ hHeld ?_
          rotate_left
          · (intro w hSw; (try dsimp only at hSw); have g4 := hSw.2.1.1 4 _ rfl; have g5 := hSw.2.1.1 5 _ rfl; have t0 := hSw.1.1 0 _ rfl; have t1 := hSw.1.1 1 _ rfl; go_simp; try with_reducible rfl)
          refine tkW 3 (some 23) (v := ?_) ?_ hHeld ?_
          rotate_left
          · (intro w hSw; (try dsimp only at hSw); have g4 := hSw.2.1.1 4 _ rfl; have g5 := hSw.2.1.1 5 _ rfl; have t0 := hSw.1.1 0 _ rfl; have t1 := hSw.1.1 1 _ rfl; go_simp; try with_reducible rfl)
          refine wpAnyH_ready (rs := [4]) (by kernel_rfl) (by simp) ?_
          refine AllReadyH.cons (o := ⟨some 24, _, _, _, _, _⟩) rfl (fun K hK => ?_) AllReadyH.nil
          go_simp
          have x1 := hHeld.2.1.1 4 _ rfl
          have x2 := hHeld.2.1.1 5 _ rfl
          (try go_simp)
          refine (refRight_any fc fr _).mono ?_
          rintro e w1 ⟨rfl, hw⟩
          have hb := below_of_alloc hw
          clear hw
          rw [hrt]
          (try go_wp2_with fail)
          refine hK.out _ _ (hHeld.step hb) (fun hHeld2 => ?_)
          clear hK K hHeld
          have hHeld := hHeld2
          clear hHeld2
          (try simp only [Act.put, List.setIfInBounds_toArray, List.set_cons_zero, List.set_cons_succ])
          refine tkW 5 (some 25) (v := ?_) ?_ hHeld ?_
          rotate_left
          · (intro w hSw; (try dsimp only at hSw); have g4 := hSw.2.1.1 4 _ rfl; have g5 := hSw.2.1.1 5 _ rfl; have t0 := hSw.1.1 0 _ rfl; have t1 := hSw.1.1 1 _ rfl; go_simp; try with_reducible rfl)
          refine tkW 6 (some 26) (v := ?_) ?_ hHeld ?_
          rotate_left
          · (intro w hSw; (try dsimp only at hSw); have g4 := hSw.2.1.1 4 _ rfl; have g5 := hSw.2.1.1 5 _ rfl; have t0 := hSw.1.1 0 _ rfl; have t1 := hSw.1.1 1 _ rfl; go_simp; try with_reducible rfl)
          refine tkW 7 (some 27) (v := ?_) ?_ hHeld ?_
          rotate_left
          · (intro w hSw; (try dsimp only at hSw); have g4 := hSw.2.1.1 4 _ rfl; have g5 := hSw.2.1.1 5 _ rfl; have t0 := hSw.1.1 0 _ rfl; have t1 := hSw.1.1 1 _ rfl; go_simp; try with_reducible rfl)
          refine tkW 8 (some 28) (v := ?_) ?_ hHeld ?_
          rotate_left
          · (intro w hSw; (try dsimp only at hSw); have g4 := hSw.2.1.1 4 _ rfl; have g5 := hSw.2.1.1 5 _ rfl; have t0 := hSw.1.1 0 _ rfl; have t1 := hSw.1.1 1 _ rfl; go_simp; try with_reducible rfl)
          refine tkW 9 (some 29) (v := ?_) ?_ hHeld ?_
          rotate_left
          · (intro w hSw; (try dsimp only at hSw); have g4 := hSw.2.1.1 4 _ rfl; have g5 := hSw.2.1.1 5 _ rfl; have t0 := hSw.1.1 0 _ rfl; have t1 := hSw.1.1 1 _ rfl; go_simp; try with_reducible rfl)
          refine tkW 10 (some 30) (v := ?_) ?_ hHeld ?_
          rotate_left
          · (intro w hSw; (try dsimp only at hSw); have g4 := hSw.2.1.1 4 _ rfl; have g5 := hSw.2.1.1 5 _ rfl; have t0 := hSw.1.1 0 _ rfl; have t1 := hSw.1.1 1 _ rfl; go_simp; try with_reducible rfl)
          refine tkW 11 (some 31) (v := ?_) ?_ hHeld ?_
          rotate_left
          · (intro w hSw; (try dsimp only at hSw); have g4 := hSw.2.1.1 4 _ rfl; have g5 := hSw.2.1.1 5 _ rfl; have t0 := hSw.1.1 0 _ rfl; have t1 := hSw.1.1 1 _ rfl; go_simp; try with_reducible rfl)
          refine tkW 12 (some 32) (v := ?_) ?_ hHeld ?_
          rotate_left
          · (intro w hSw; (try dsimp only at hSw); have g4 := hSw.2.1.1 4 _ rfl; have g5 := hSw.2.1.1 5 _ rfl; have t0 := hSw.1.1 0 _ rfl; have t1 := hSw.1.1 1 _ rfl; go_simp; try with_reducible rfl)
          refine tkW 13 (some 33) (v := ?_) ?_ hHeld ?_
          rotate_left
          · (intro w hSw; (try dsimp only at hSw); have g4 := hSw.2.1.1 4 _ rfl; have g5 := hSw.2.1.1 5 _ rfl; have t0 := hSw.1.1 0 _ rfl; have t1 := hSw.1.1 1 _ rfl; go_simp; try with_reducible rfl)
          refine wpAnyH_done (by kernel_rfl) ?_ _
          have HS1 : Hid (NSt w [.int .i64 ac, .int .i64 ar, .int .i64 sq, dv, .int .i64 kd, .int .i64 nc, .int .i64 nr, .int .i64 pc, .int .i64 pr, .int .i64 fc, .int .i64 fr, .string nm, .string vl] [.int .i64 nc, .int .i64 nr, .int .i64 pc, .int .i64 pr, .int .i64 fc, .int .i64 fr] (.slice ao D.length co) D _) := hHeld
          clear hHeld
          have y1 := HS1.out.2.1.1 4 _ rfl
          have y2 := HS1.out.2.1.1 5 _ rfl
          go_wp2_with fail
          refine (S.put_any (.slice ao D.length co) D fc fr _ HS1.out.2.2 (by omega)).mono ?_
          rintro e w2 ⟨v2, rfl, his2, hb2⟩
          have HS2 : Hid (NSt w [.int .i64 ac, .int .i64 ar, .int .i64 sq, dv, .int .i64 kd, .int .i64 nc, .int .i64 nr, .int .i64 pc, .int .i64 pr, .int .i64 fc, .int .i64 fr, .string nm, .string vl] [.int .i64 nc, .int .i64 nr, .int .i64 pc, .int .i64 pr, .int .i64 fc, .int .i64 fr] v2 (S.putL D (fc, fr)) w2) := ⟨HS1.out.1.step hb2, HS1.out.2.1.step hb2, his2⟩
          have hpl := S.putL_length D (fc, fr)
          clear his2 hb2
          go_wp2
          go_roundw
          case rel => exact ⟨3, S.putL D (fc, fr), by omega, by omega, by first | rfl | go_num, (sort_on (X := [(nc, nr), (pc, pr), (fc, fr)]) (k := 2) (by simp) HT0.out HP.out), HS2⟩
          case measure => simp [intOf]
    · have HE : Hid (D = S.sortL (namesL ⟨ac, ar, sq, ds, kd, nc, nr, pc, pr, fc, fr, nm, vl⟩)) := by show _ = _; rw [HN0.out]; exact HT.out
      have hi1 : ¬ (3 : Int) < 3 := by omega
      go_wp2
      go_ret
      exact ⟨_, rfl, HE.out ▸ HS.out.2.2, HS.out.1.2.2⟩

end Go.Proofs.YtngldpabfpcaiaaGreat
