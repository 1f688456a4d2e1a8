/- The stamps that a change names: change.Names, of any change. -/
import Derived.Test.YthndgmnckpimmaaSrtA
import Derived.Test.YthndgmnckpimmaaWcA
import Derived.Test.YthndgmnckpimmaaPlainL
import Derived.Deep.AppendLies
import Derived.Test.YthndgmnckpimmaaTk
import Derived.Test.YthndgmnckpimmaaWalksB
import Derived.Test.YthndgmnckpimmaaZK1
import Derived.Test.YthndgmnckpimmaaIdE
import Derived.Test.YthndgmnckpimmaaWdC
import Derived.Test.YthndgmnckpimmaaOlS
import Derived.Test.YthndgmnckpimmaaOlCk
import Derived.Test.YthndgmnckpimmaaPlainN
namespace Go.Proofs.Ythndgmnckpimmaa
open Go.RowKit
set_option linter.unusedVariables false
set_option linter.unusedSimpArgs false

theorem filter_next {p : Int × Int → Bool} {X : List (Int × Int)} {k : Nat} (h : k < X.length) : (X.take (k + 1)).filter p = (X.take k).filter p ++ (if p X[k] = true then [X[k]] else []) := by
  rw [List.take_succ_eq_append_getElem h, List.filter_append, List.filter_cons, List.filter_nil]
theorem filter_on {p : Int × Int → Bool} {X : List (Int × Int)} {k : Nat} {D : List (Int × Int)} (h : k < X.length) (hD : D = (X.take k).filter p) (hp : p X[k] = true) : D ++ [X[k]] = (X.take (k + 1)).filter p := by rw [filter_next h, if_pos hp, hD]
theorem filter_past {p : Int × Int → Bool} {X : List (Int × Int)} {k : Nat} {D : List (Int × Int)} (h : k < X.length) (hD : D = (X.take k).filter p) (hp : p X[k] = false) : D = (X.take (k + 1)).filter p := by rw [filter_next h, if_neg (by simp [hp]), List.append_nil, hD]
theorem namB2_not {ac ar c r : Int} (h : rightB c r = false) : namB2 ac ar (c, r) = false := by simp [namB2, h]
theorem namB2_own {ac ar : Int} : namB2 ac ar (ac, ar) = false := by simp [namB2]
theorem namB2_c {ac ar c r : Int} (h : rightB c r = true) (h2 : ¬ c = ac) : namB2 ac ar (c, r) = true := by simp [namB2, h, h2]
theorem namB2_r {ac ar c r : Int} (h : rightB c r = true) (h2 : ¬ r = ar) : namB2 ac ar (c, r) = true := by simp [namB2, h, h2]
theorem KeptC.grown {w0 : World} {b : Nat} {cs : List Value} {W W' : World} {row : Option Nat} (h : KeptC w0 b cs W) (hg : W.grownBy W' row) (hne : ∀ j, row = some j → b < j ∧ w0.heap.size ≤ j) : KeptC w0 b cs W' :=
  ⟨fun i v e => (hg.cell_far ⟨b, i, none⟩ h.2.1 (fun e2 => by have := (hne b e2.symm).1; omega)).trans (h.1 i v e), Nat.lt_of_lt_of_le h.2.1 hg.size, h.2.2.grown hg h.2.2.size (fun j e => (hne j e).2)⟩

end Go.Proofs.Ythndgmnckpimmaa

namespace Go.Proofs.Ythndgmnckpimmaa
open Go.RowKit
set_option linter.unusedVariables false
set_option linter.unusedSimpArgs false

theorem sort_on {p : Int × Int → Bool} {X : List (Int × Int)} {k : Nat} {D : List (Int × Int)} (h : k < X.length) (hD : D = S.sortL ((X.take k).filter p)) (hp : p X[k] = true) : S.putL D X[k] = S.sortL ((X.take (k + 1)).filter p) := by
  rw [filter_next h, if_pos hp, hD]
  unfold S.sortL
  rw [List.foldl_append]
  rfl
theorem sort_past {p : Int × Int → Bool} {X : List (Int × Int)} {k : Nat} {D : List (Int × Int)} (h : k < X.length) (hD : D = S.sortL ((X.take k).filter p)) (hp : p X[k] = false) : D = S.sortL ((X.take (k + 1)).filter p) := by rw [filter_next h, if_neg (by simp [hp]), List.append_nil, hD]
theorem below_of_alloc {w w' : World} {c r : Int} (h : w' = w.alloc (.cells #[.int .i64 c, .int .i64 r] 33)) : Below w.heap.size w w' := by rw [h]; exact (Below.refl _ _).alloc (Nat.le_refl _) _
/-- The change's box, the row of its three stamps, what is found so far. -/
def NSt (w0 : World) (cs rs : List Value) (v : Value) (D : List (Int × Int)) (W : World) : Prop := KeptC w0 w0.heap.size cs W ∧ KeptC w0 (w0.heap.size + 1) rs W ∧ S.IsS W v D
theorem NSt.step {w0 : World} {cs rs : List Value} {v : Value} {D : List (Int × Int)} {W W' : World} (h : NSt w0 cs rs v D W) (hb : Below W.heap.size W W') : NSt w0 cs rs v D W' := ⟨h.1.step hb, h.2.1.step hb, h.2.2.below hb⟩
theorem NSt.drew {w0 : World} {cs rs : List Value} {v : Value} {D : List (Int × Int)} {W : World} (h : NSt w0 cs rs v D W) : NSt w0 cs rs v D W.drew := h.step (Below.refl _ _).drew

set_option maxRecDepth 100000 in
set_option maxHeartbeats 8000000 in
/-- The document's Names. -/
theorem refNames_any (ac ar sq : Int) (dv : Value) (kd nc nr pc pr fc fr : Int) (nm vl : ByteArray) (ds : List Int) (w : World) :
    Calls Try.prog 78 #[.agg #[.int .i64 ac, .int .i64 ar, .int .i64 sq, dv, .int .i64 kd, .int .i64 nc, .int .i64 nr, .int .i64 pc, .int .i64 pr, .int .i64 fc, .int .i64 fr, .string nm, .string vl]] w fun e w' => ∃ v', e = .returned v' ∧ S.IsS w' v' (S.sortL (namesL ⟨ac, ar, sq, ds, kd, nc, nr, pc, pr, fc, fr, nm, vl⟩)) ∧ Below w.heap.size w w' := by
  have K0 := KeptC.start w [.int .i64 ac, .int .i64 ar, .int .i64 sq, dv, .int .i64 kd, .int .i64 nc, .int .i64 nr, .int .i64 pc, .int .i64 pr, .int .i64 fc, .int .i64 fr, .string nm, .string vl] 35
  have R0 := KeptC.start (w.alloc (.cells #[.int .i64 ac, .int .i64 ar, .int .i64 sq, dv, .int .i64 kd, .int .i64 nc, .int .i64 nr, .int .i64 pc, .int .i64 pr, .int .i64 fc, .int .i64 fr, .string nm, .string vl] 35)) [.int .i64 nc, .int .i64 nr, .int .i64 pc, .int .i64 pr, .int .i64 fc, .int .i64 fr] 33
  rw [show (w.alloc (.cells #[.int .i64 ac, .int .i64 ar, .int .i64 sq, dv, .int .i64 kd, .int .i64 nc, .int .i64 nr, .int .i64 pc, .int .i64 pr, .int .i64 fc, .int .i64 fr, .string nm, .string vl] 35)).heap.size = w.heap.size + 1 by simp] at R0
  have HK0 : KeptC w w.heap.size [.int .i64 ac, .int .i64 ar, .int .i64 sq, dv, .int .i64 kd, .int .i64 nc, .int .i64 nr, .int .i64 pc, .int .i64 pr, .int .i64 fc, .int .i64 fr, .string nm, .string vl] ((w.alloc (.cells #[.int .i64 ac, .int .i64 ar, .int .i64 sq, dv, .int .i64 kd, .int .i64 nc, .int .i64 nr, .int .i64 pc, .int .i64 pr, .int .i64 fc, .int .i64 fr, .string nm, .string vl] 35)).alloc (.cells #[.int .i64 nc, .int .i64 nr, .int .i64 pc, .int .i64 pr, .int .i64 fc, .int .i64 fr] 33)) := K0.step R0.2.2
  have HR0 : KeptC w (w.heap.size + 1) [.int .i64 nc, .int .i64 nr, .int .i64 pc, .int .i64 pr, .int .i64 fc, .int .i64 fr] ((w.alloc (.cells #[.int .i64 ac, .int .i64 ar, .int .i64 sq, dv, .int .i64 kd, .int .i64 nc, .int .i64 nr, .int .i64 pc, .int .i64 pr, .int .i64 fc, .int .i64 fr, .string nm, .string vl] 35)).alloc (.cells #[.int .i64 nc, .int .i64 nr, .int .i64 pc, .int .i64 pr, .int .i64 fc, .int .i64 fr] 33)) := ⟨R0.1, R0.2.1, HK0.2.2⟩
  have A3 : Below ((w.alloc (.cells #[.int .i64 ac, .int .i64 ar, .int .i64 sq, dv, .int .i64 kd, .int .i64 nc, .int .i64 nr, .int .i64 pc, .int .i64 pr, .int .i64 fc, .int .i64 fr, .string nm, .string vl] 35)).alloc (.cells #[.int .i64 nc, .int .i64 nr, .int .i64 pc, .int .i64 pr, .int .i64 fc, .int .i64 fr] 33)).heap.size ((w.alloc (.cells #[.int .i64 ac, .int .i64 ar, .int .i64 sq, dv, .int .i64 kd, .int .i64 nc, .int .i64 nr, .int .i64 pc, .int .i64 pr, .int .i64 fc, .int .i64 fr, .string nm, .string vl] 35)).alloc (.cells #[.int .i64 nc, .int .i64 nr, .int .i64 pc, .int .i64 pr, .int .i64 fc, .int .i64 fr] 33)) (((w.alloc (.cells #[.int .i64 ac, .int .i64 ar, .int .i64 sq, dv, .int .i64 kd, .int .i64 nc, .int .i64 nr, .int .i64 pc, .int .i64 pr, .int .i64 fc, .int .i64 fr, .string nm, .string vl] 35)).alloc (.cells #[.int .i64 nc, .int .i64 nr, .int .i64 pc, .int .i64 pr, .int .i64 fc, .int .i64 fr] 33)).alloc (.cells #[] 33)) := (Below.refl _ _).alloc (Nat.le_refl _) _
  have HS0 : Hid (NSt w [.int .i64 ac, .int .i64 ar, .int .i64 sq, dv, .int .i64 kd, .int .i64 nc, .int .i64 nr, .int .i64 pc, .int .i64 pr, .int .i64 fc, .int .i64 fr, .string nm, .string vl] [.int .i64 nc, .int .i64 nr, .int .i64 pc, .int .i64 pr, .int .i64 fc, .int .i64 fr] (.slice (some ⟨w.heap.size + 2, 0, none⟩) 0 0) [] (((w.alloc (.cells #[.int .i64 ac, .int .i64 ar, .int .i64 sq, dv, .int .i64 kd, .int .i64 nc, .int .i64 nr, .int .i64 pc, .int .i64 pr, .int .i64 fc, .int .i64 fr, .string nm, .string vl] 35)).alloc (.cells #[.int .i64 nc, .int .i64 nr, .int .i64 pc, .int .i64 pr, .int .i64 fc, .int .i64 fr] 33)).alloc (.cells #[] 33))) := ⟨HK0.step A3, HR0.step A3, S.isS_empty _ _⟩
  have HN0 : Hid (namesL ⟨ac, ar, sq, ds, kd, nc, nr, pc, pr, fc, fr, nm, vl⟩ = ([(nc, nr), (pc, pr), (fc, fr)] : List (Int × Int)).filter (namB2 ac ar)) := rfl
  clear K0 R0 HK0 HR0 A3
  go_enter Try.func78, Try.ntmps78
  go_wp2
  go_loopw [4, 5] (fun ov iv wr => ∃ (k : Nat) (D : List (Int × Int)), k ≤ 3 ∧ D.length ≤ k ∧ iv = .int .i64 (k : Int) ∧ Hid (D = S.sortL ((([(nc, nr), (pc, pr), (fc, fr)] : List (Int × Int)).take k).filter (namB2 ac ar))) ∧ Hid (NSt w [.int .i64 ac, .int .i64 ar, .int .i64 sq, dv, .int .i64 kd, .int .i64 nc, .int .i64 nr, .int .i64 pc, .int .i64 pr, .int .i64 fc, .int .i64 fr, .string nm, .string vl] [.int .i64 nc, .int .i64 nr, .int .i64 pc, .int .i64 pr, .int .i64 fc, .int .i64 fr] ov D wr)) (fun _ iv _ => 3 - (intOf iv).toNat)
  case atStart => exact ⟨0, [], by omega, by simp, rfl, rfl, HS0⟩
  case round =>
    obtain ⟨k, D, hk, hDl, rfl, HT, HS⟩ := hrel
    obtain ⟨ao, co, e0⟩ := HS.out.2.2.form
    subst e0
    obtain rfl | rfl | rfl | rfl : k = 0 ∨ k = 1 ∨ k = 2 ∨ k = 3 := by omega
    · have HT0 : Hid (D = S.sortL ((([(nc, nr), (pc, pr), (fc, fr)] : List (Int × Int)).take 0).filter (namB2 ac ar))) := HT
      have hi0 : (0 : Int) ≤ 0 := by omega
      have hi1 : (0 : Int) < 3 := by omega
      have x1 := HS.out.2.1.1 0 _ rfl
      have x2 := HS.out.2.1.1 1 _ rfl
      cases hrt : rightB nc nr
      · go_wp2_with fail
        refine wp_region_held_drew (S := fun W' => NSt w [.int .i64 ac, .int .i64 ar, .int .i64 sq, dv, .int .i64 kd, .int .i64 nc, .int .i64 nr, .int .i64 pc, .int .i64 pr, .int .i64 fc, .int .i64 fr, .string nm, .string vl] [.int .i64 nc, .int .i64 nr, .int .i64 pc, .int .i64 pr, .int .i64 fc, .int .i64 fr] (.slice ao D.length co) D W') (by kernel_rfl) HS.out.drew (fun hHeld => ?_)
        refine tkW 0 (some 20) (v := ?_) ?_ hHeld ?_
        rotate_left
        · (intro w hSw; (try dsimp only at hSw); have g0 := hSw.2.1.1 0 _ rfl; have g1 := hSw.2.1.1 1 _ rfl; have t0 := hSw.1.1 0 _ rfl; have t1 := hSw.1.1 1 _ rfl; go_simp; try with_reducible rfl)
        refine tkW 1 (some 21) (v := ?_) ?_ hHeld ?_
        rotate_left
        · (intro w hSw; (try dsimp only at hSw); have g0 := hSw.2.1.1 0 _ rfl; have g1 := hSw.2.1.1 1 _ rfl; have t0 := hSw.1.1 0 _ rfl; have t1 := hSw.1.1 1 _ rfl; go_simp; try with_reducible rfl)
        refine tkW 2 (some 22) (v := ?_) ?_ hHeld ?_
        rotate_left
        · (intro w hSw; (try dsimp only at hSw); have g0 := hSw.2.1.1 0 _ rfl; have g1 := hSw.2.1.1 1 _ rfl; have t0 := hSw.1.1 0 _ rfl; have t1 := hSw.1.1 1 _ rfl; go_simp; try with_reducible rfl)
        refine tkW 3 (some 23) (v := ?_) ?_ hHeld ?_
        rotate_left
        · (intro w hSw; (try dsimp only at hSw); have g0 := hSw.2.1.1 0 _ rfl; have g1 := hSw.2.1.1 1 _ rfl; have t0 := hSw.1.1 0 _ rfl; have t1 := hSw.1.1 1 _ rfl; go_simp; try with_reducible rfl)
        refine wpAnyH_ready (rs := [4]) (by kernel_rfl) (by simp) ?_
        refine AllReadyH.cons (o := ⟨some 24, _, _, _, _, _⟩) rfl (fun K hK => ?_) AllReadyH.nil
        go_simp
        have x1 := hHeld.2.1.1 0 _ rfl
        have x2 := hHeld.2.1.1 1 _ rfl
        (try go_simp)
        refine (refRight_any nc nr _).mono ?_
        rintro e w1 ⟨rfl, hw⟩
        have hb := below_of_alloc hw
        clear hw
        rw [hrt]
        (try go_wp2_with fail)
        refine hK.out _ _ (hHeld.step hb) (fun hHeld2 => ?_)
        clear hK K hHeld
        have hHeld := hHeld2
        clear hHeld2
        (try simp only [Act.put, List.setIfInBounds_toArray, List.set_cons_zero, List.set_cons_succ])
        refine tkW 5 (some 25) (v := ?_) ?_ hHeld ?_
        rotate_left
        · (intro w hSw; (try dsimp only at hSw); have g0 := hSw.2.1.1 0 _ rfl; have g1 := hSw.2.1.1 1 _ rfl; have t0 := hSw.1.1 0 _ rfl; have t1 := hSw.1.1 1 _ rfl; go_simp; try with_reducible rfl)
        refine tkU 6 (some 26) hHeld ?_
        refine tkU 7 (some 27) hHeld ?_
        refine tkU 8 (some 28) hHeld ?_
        refine tkU 9 (some 29) hHeld ?_
        refine tkU 10 (some 30) hHeld ?_
        refine tkU 11 (some 31) hHeld ?_
        refine tkU 12 (some 32) hHeld ?_
        refine tkW 13 (some 33) (v := ?_) ?_ hHeld ?_
        rotate_left
        · (intro w hSw; (try dsimp only at hSw); have g0 := hSw.2.1.1 0 _ rfl; have g1 := hSw.2.1.1 1 _ rfl; have t0 := hSw.1.1 0 _ rfl; have t1 := hSw.1.1 1 _ rfl; go_simp; try with_reducible rfl)
        refine wpAnyH_done (by kernel_rfl) ?_ _
        have HS1 : Hid (NSt w [.int .i64 ac, .int .i64 ar, .int .i64 sq, dv, .int .i64 kd, .int .i64 nc, .int .i64 nr, .int .i64 pc, .int .i64 pr, .int .i64 fc, .int .i64 fr, .string nm, .string vl] [.int .i64 nc, .int .i64 nr, .int .i64 pc, .int .i64 pr, .int .i64 fc, .int .i64 fr] (.slice ao D.length co) D _) := hHeld
        clear hHeld
        go_wp2
        go_roundw
        case rel => exact ⟨1, D, by omega, by omega, by first | rfl | go_num, (sort_past (X := [(nc, nr), (pc, pr), (fc, fr)]) (k := 0) (by simp) HT0.out (namB2_not hrt)), HS1⟩
        case measure => simp [intOf]
      · by_cases ec : nc = ac
        · by_cases er : nr = ar
          · have qc : (nc == ac) = true := by simp [ec]
            have qr : (nr == ar) = true := by simp [er]
            have qc2 : (nc != ac) = false := by simp [ec]
            have qr2 : (nr != ar) = false := by simp [er]
            have HP : Hid (namB2 ac ar (nc, nr) = false) := by rw [ec, er]; exact namB2_own
            clear ec er
            go_wp2_with fail
            refine wp_region_held_drew (S := fun W' => NSt w [.int .i64 ac, .int .i64 ar, .int .i64 sq, dv, .int .i64 kd, .int .i64 nc, .int .i64 nr, .int .i64 pc, .int .i64 pr, .int .i64 fc, .int .i64 fr, .string nm, .string vl] [.int .i64 nc, .int .i64 nr, .int .i64 pc, .int .i64 pr, .int .i64 fc, .int .i64 fr] (.slice ao D.length co) D W') (by kernel_rfl) HS.out.drew (fun hHeld => ?_)
            refine tkW 0 (some 20) (v := ?_) ?_ hHeld ?_
            rotate_left
            · (intro w hSw; (try dsimp only at hSw); have g0 := hSw.2.1.1 0 _ rfl; have g1 := hSw.2.1.1 1 _ rfl; have t0 := hSw.1.1 0 _ rfl; have t1 := hSw.1.1 1 _ rfl; go_simp; try with_reducible rfl)
            refine tkW 1 (some 21) (v := ?_) ?_ hHeld ?_
            rotate_left
            · (intro w hSw; (try dsimp only at hSw); have g0 := hSw.2.1.1 0 _ rfl; have g1 := hSw.2.1.1 1 _ rfl; have t0 := hSw.1.1 0 _ rfl; have t1 := hSw.1.1 1 _ rfl; go_simp; try with_reducible rfl)
            refine tkW 2 (some 22) (v := ?_) ?_ hHeld ?_
            rotate_left
            · (intro w hSw; (try dsimp only at hSw); have g0 := hSw.2.1.1 0 _ rfl; have g1 := hSw.2.1.1 1 _ rfl; have t0 := hSw.1.1 0 _ rfl; have t1 := hSw.1.1 1 _ rfl; go_simp; try with_reducible rfl)
            refine tkW 3 (some 23) (v := ?_) ?_ hHeld ?_
            rotate_left
            · (intro w hSw; (try dsimp only at hSw); have g0 := hSw.2.1.1 0 _ rfl; have g1 := hSw.2.1.1 1 _ rfl; have t0 := hSw.1.1 0 _ rfl; have t1 := hSw.1.1 1 _ rfl; go_simp; try with_reducible rfl)
            refine wpAnyH_ready (rs := [4]) (by kernel_rfl) (by simp) ?_
            refine AllReadyH.cons (o := ⟨some 24, _, _, _, _, _⟩) rfl (fun K hK => ?_) AllReadyH.nil
            go_simp
            have x1 := hHeld.2.1.1 0 _ rfl
            have x2 := hHeld.2.1.1 1 _ rfl
            (try go_simp)
            refine (refRight_any nc nr _).mono ?_
            rintro e w1 ⟨rfl, hw⟩
            have hb := below_of_alloc hw
            clear hw
            rw [hrt]
            (try go_wp2_with fail)
            refine hK.out _ _ (hHeld.step hb) (fun hHeld2 => ?_)
            clear hK K hHeld
            have hHeld := hHeld2
            clear hHeld2
            (try simp only [Act.put, List.setIfInBounds_toArray, List.set_cons_zero, List.set_cons_succ])
            refine tkW 5 (some 25) (v := ?_) ?_ hHeld ?_
            rotate_left
            · (intro w hSw; (try dsimp only at hSw); have g0 := hSw.2.1.1 0 _ rfl; have g1 := hSw.2.1.1 1 _ rfl; have t0 := hSw.1.1 0 _ rfl; have t1 := hSw.1.1 1 _ rfl; go_simp; try with_reducible rfl)
            refine tkW 6 (some 26) (v := ?_) ?_ hHeld ?_
            rotate_left
            · (intro w hSw; (try dsimp only at hSw); have g0 := hSw.2.1.1 0 _ rfl; have g1 := hSw.2.1.1 1 _ rfl; have t0 := hSw.1.1 0 _ rfl; have t1 := hSw.1.1 1 _ rfl; go_simp; try with_reducible rfl)
            refine tkW 7 (some 27) (v := ?_) ?_ hHeld ?_
            rotate_left
            · (intro w hSw; (try dsimp only at hSw); have g0 := hSw.2.1.1 0 _ rfl; have g1 := hSw.2.1.1 1 _ rfl; have t0 := hSw.1.1 0 _ rfl; have t1 := hSw.1.1 1 _ rfl; go_simp; try with_reducible rfl)
            refine tkW 8 (some 28) (v := ?_) ?_ hHeld ?_
            rotate_left
            · (intro w hSw; (try dsimp only at hSw); have g0 := hSw.2.1.1 0 _ rfl; have g1 := hSw.2.1.1 1 _ rfl; have t0 := hSw.1.1 0 _ rfl; have t1 := hSw.1.1 1 _ rfl; go_simp; try with_reducible rfl)
            refine tkW 9 (some 29) (v := ?_) ?_ hHeld ?_
            rotate_left
            · (intro w hSw; (try dsimp only at hSw); have g0 := hSw.2.1.1 0 _ rfl; have g1 := hSw.2.1.1 1 _ rfl; have t0 := hSw.1.1 0 _ rfl; have t1 := hSw.1.1 1 _ rfl; go_simp; try with_reducible rfl)
            refine tkW 10 (some 30) (v := ?_) ?_ hHeld ?_
            rotate_left
            · (intro w hSw; (try dsimp only at hSw); have g0 := hSw.2.1.1 0 _ rfl; have g1 := hSw.2.1.1 1 _ rfl; have t0 := hSw.1.1 0 _ rfl; have t1 := hSw.1.1 1 _ rfl; go_simp; try with_reducible rfl)
            refine tkW 11 (some 31) (v := ?_) ?_ hHeld ?_
            rotate_left
            · (intro w hSw; (try dsimp only at hSw); have g0 := hSw.2.1.1 0 _ rfl; have g1 := hSw.2.1.1 1 _ rfl; have t0 := hSw.1.1 0 _ rfl; have t1 := hSw.1.1 1 _ rfl; go_simp; try with_reducible rfl)
            refine tkW 12 (some 32) (v := ?_) ?_ hHeld ?_
            rotate_left
            · (intro w hSw; (try dsimp only at hSw); have g0 := hSw.2.1.1 0 _ rfl; have g1 := hSw.2.1.1 1 _ rfl; have t0 := hSw.1.1 0 _ rfl; have t1 := hSw.1.1 1 _ rfl; go_simp; try with_reducible rfl)
            refine tkW 13 (some 33) (v := ?_) ?_ hHeld ?_
            rotate_left
            · (intro w hSw; (try dsimp only at hSw); have g0 := hSw.2.1.1 0 _ rfl; have g1 := hSw.2.1.1 1 _ rfl; have t0 := hSw.1.1 0 _ rfl; have t1 := hSw.1.1 1 _ rfl; go_simp; try with_reducible rfl)
            refine wpAnyH_done (by kernel_rfl) ?_ _
            have HS1 : Hid (NSt w [.int .i64 ac, .int .i64 ar, .int .i64 sq, dv, .int .i64 kd, .int .i64 nc, .int .i64 nr, .int .i64 pc, .int .i64 pr, .int .i64 fc, .int .i64 fr, .string nm, .string vl] [.int .i64 nc, .int .i64 nr, .int .i64 pc, .int .i64 pr, .int .i64 fc, .int .i64 fr] (.slice ao D.length co) D _) := hHeld
            clear hHeld
            go_wp2
            go_roundw
            case rel => exact ⟨1, D, by omega, by omega, by first | rfl | go_num, (sort_past (X := [(nc, nr), (pc, pr), (fc, fr)]) (k := 0) (by simp) HT0.out HP.out), HS1⟩
            case measure => simp [intOf]
          · have qc : (nc == ac) = true := by simp [ec]
            have qr : (nr == ar) = false := by simp [er]
            have qr2 : (nr != ar) = true := by simp [er]
            have HP : Hid (namB2 ac ar (nc, nr) = true) := namB2_r hrt er
            clear ec er
            go_wp2_with fail
            refine wp_region_held_drew (S := fun W' => NSt w [.int .i64 ac, .int .i64 ar, .int .i64 sq, dv, .int .i64 kd, .int .i64 nc, .int .i64 nr, .int .i64 pc, .int .i64 pr, .int .i64 fc, .int .i64 fr, .string nm, .string vl] [.int .i64 nc, .int .i64 nr, .int .i64 pc, .int .i64 pr, .int .i64 fc, .int .i64 fr] (.slice ao D.length co) D W') (by kernel_rfl) HS.out.drew (fun hHeld => ?_)
            refine tkW 0 (some 20) (v := ?_) ?_ hHeld ?_
            rotate_left
            · (intro w hSw; (try dsimp only at hSw); have g0 := hSw.2.1.1 0 _ rfl; have g1 := hSw.2.1.1 1 _ rfl; have t0 := hSw.1.1 0 _ rfl; have t1 := hSw.1.1 1 _ rfl; go_simp; try with_reducible rfl)
            refine tkW 1 (some 21) (v := ?_) ?_ hHeld ?_
            rotate_left
            · (intro w hSw; (try dsimp only at hSw); have g0 := hSw.2.1.1 0 _ rfl; have g1 := hSw.2.1.1 1 _ rfl; have t0 := hSw.1.1 0 _ rfl; have t1 := hSw.1.1 1 _ rfl; go_simp; try with_reducible rfl)
            refine tkW 2 (some 22) (v := ?_) ?_ hHeld ?_
            rotate_left
            · (intro w hSw; (try dsimp only at hSw); have g0 := hSw.2.1.1 0 _ rfl; have g1 := hSw.2.1.1 1 _ rfl; have t0 := hSw.1.1 0 _ rfl; have t1 := hSw.1.1 1 _ rfl; go_simp; try with_reducible rfl)
            refine tkW 3 (some 23) (v := ?_) ?_ hHeld ?_
            rotate_left
            · (intro w hSw; (try dsimp only at hSw); have g0 := hSw.2.1.1 0 _ rfl; have g1 := hSw.2.1.1 1 _ rfl; have t0 := hSw.1.1 0 _ rfl; have t1 := hSw.1.1 1 _ rfl; go_simp; try with_reducible rfl)
            refine wpAnyH_ready (rs := [4]) (by kernel_rfl) (by simp) ?_
            refine AllReadyH.cons (o := ⟨some 24, _, _, _, _, _⟩) rfl (fun K hK => ?_) AllReadyH.nil
            go_simp
            have x1 := hHeld.2.1.1 0 _ rfl
            have x2 := hHeld.2.1.1 1 _ rfl
            (try go_simp)
            refine (refRight_any nc nr _).mono ?_
            rintro e w1 ⟨rfl, hw⟩
            have hb := below_of_alloc hw
            clear hw
            rw [hrt]
            (try go_wp2_with fail)
            refine hK.out _ _ (hHeld.step hb) (fun hHeld2 => ?_)
            clear hK K hHeld
            have hHeld := hHeld2
            clear hHeld2
            (try simp only [Act.put, List.setIfInBounds_toArray, List.set_cons_zero, List.set_cons_succ])
            refine tkW 5 (some 25) (v := ?_) ?_ hHeld ?_
            rotate_left
            · (intro w hSw; (try dsimp only at hSw); have g0 := hSw.2.1.1 0 _ rfl; have g1 := hSw.2.1.1 1 _ rfl; have t0 := hSw.1.1 0 _ rfl; have t1 := hSw.1.1 1 _ rfl; go_simp; try with_reducible rfl)
            refine tkW 6 (some 26) (v := ?_) ?_ hHeld ?_
            rotate_left
            · (intro w hSw; (try dsimp only at hSw); have g0 := hSw.2.1.1 0 _ rfl; have g1 := hSw.2.1.1 1 _ rfl; have t0 := hSw.1.1 0 _ rfl; have t1 := hSw.1.1 1 _ rfl; go_simp; try with_reducible rfl)
            refine tkW 7 (some 27) (v := ?_) ?_ hHeld ?_
            rotate_left
            · (intro w hSw; (try dsimp only at hSw); have g0 := hSw.2.1.1 0 _ rfl; have g1 := hSw.2.1.1 1 _ rfl; have t0 := hSw.1.1 0 _ rfl; have t1 := hSw.1.1 1 _ rfl; go_simp; try with_reducible rfl)
            refine tkW 8 (some 28) (v := ?_) ?_ hHeld ?_
            rotate_left
            · (intro w hSw; (try dsimp only at hSw); have g0 := hSw.2.1.1 0 _ rfl; have g1 := hSw.2.1.1 1 _ rfl; have t0 := hSw.1.1 0 _ rfl; have t1 := hSw.1.1 1 _ rfl; go_simp; try with_reducible rfl)
            refine tkW 9 (some 29) (v := ?_) ?_ hHeld ?_
            rotate_left
            · (intro w hSw; (try dsimp only at hSw); have g0 := hSw.2.1.1 0 _ rfl; have g1 := hSw.2.1.1 1 _ rfl; have t0 := hSw.1.1 0 _ rfl; have t1 := hSw.1.1 1 _ rfl; go_simp; try with_reducible rfl)
            refine tkW 10 (some 30) (v := ?_) ?_ hHeld ?_
            rotate_left
            · (intro w hSw; (try dsimp only at hSw); have g0 := hSw.2.1.1 0 _ rfl; have g1 := hSw.2.1.1 1 _ rfl; have t0 := hSw.1.1 0 _ rfl; have t1 := hSw.1.1 1 _ rfl; go_simp; try with_reducible rfl)
            refine tkW 11 (some 31) (v := ?_) ?_ hHeld ?_
            rotate_left
            · (intro w hSw; (try dsimp only at hSw); have g0 := hSw.2.1.1 0 _ rfl; have g1 := hSw.2.1.1 1 _ rfl; have t0 := hSw.1.1 0 _ rfl; have t1 := hSw.1.1 1 _ rfl; go_simp; try with_reducible rfl)
            refine tkW 12 (some 32) (v := ?_) ?_ hHeld ?_
            rotate_left
            · (intro w hSw; (try dsimp only at hSw); have g0 := hSw.2.1.1 0 _ rfl; have g1 := hSw.2.1.1 1 _ rfl; have t0 := hSw.1.1 0 _ rfl; have t1 := hSw.1.1 1 _ rfl; go_simp; try with_reducible rfl)
            refine tkW 13 (some 33) (v := ?_) ?_ hHeld ?_
            rotate_left
            · (intro w hSw; (try dsimp only at hSw); have g0 := hSw.2.1.1 0 _ rfl; have g1 := hSw.2.1.1 1 _ rfl; have t0 := hSw.1.1 0 _ rfl; have t1 := hSw.1.1 1 _ rfl; go_simp; try with_reducible rfl)
            refine wpAnyH_done (by kernel_rfl) ?_ _
            have HS1 : Hid (NSt w [.int .i64 ac, .int .i64 ar, .int .i64 sq, dv, .int .i64 kd, .int .i64 nc, .int .i64 nr, .int .i64 pc, .int .i64 pr, .int .i64 fc, .int .i64 fr, .string nm, .string vl] [.int .i64 nc, .int .i64 nr, .int .i64 pc, .int .i64 pr, .int .i64 fc, .int .i64 fr] (.slice ao D.length co) D _) := hHeld
            clear hHeld
            have y1 := HS1.out.2.1.1 0 _ rfl
            have y2 := HS1.out.2.1.1 1 _ rfl
            go_wp2_with fail
            refine (S.put_any (.slice ao D.length co) D nc nr _ HS1.out.2.2 (by omega)).mono ?_
            rintro e w2 ⟨v2, rfl, his2, hb2⟩
            have HS2 : Hid (NSt w [.int .i64 ac, .int .i64 ar, .int .i64 sq, dv, .int .i64 kd, .int .i64 nc, .int .i64 nr, .int .i64 pc, .int .i64 pr, .int .i64 fc, .int .i64 fr, .string nm, .string vl] [.int .i64 nc, .int .i64 nr, .int .i64 pc, .int .i64 pr, .int .i64 fc, .int .i64 fr] v2 (S.putL D (nc, nr)) w2) := ⟨HS1.out.1.step hb2, HS1.out.2.1.step hb2, his2⟩
            have hpl := S.putL_length D (nc, nr)
            clear his2 hb2
            go_wp2
            go_roundw
            case rel => exact ⟨1, S.putL D (nc, nr), by omega, by omega, by first | rfl | go_num, (sort_on (X := [(nc, nr), (pc, pr), (fc, fr)]) (k := 0) (by simp) HT0.out HP.out), HS2⟩
            case measure => simp [intOf]
        · have qc : (nc == ac) = false := by simp [ec]
          have qc2 : (nc != ac) = true := by simp [ec]
          have HP : Hid (namB2 ac ar (nc, nr) = true) := namB2_c hrt ec
          clear ec
          go_wp2_with fail
          refine wp_region_held_drew (S := fun W' => NSt w [.int .i64 ac, .int .i64 ar, .int .i64 sq, dv, .int .i64 kd, .int .i64 nc, .int .i64 nr, .int .i64 pc, .int .i64 pr, .int .i64 fc, .int .i64 fr, .string nm, .string vl] [.int .i64 nc, .int .i64 nr, .int .i64 pc, .int .i64 pr, .int .i64 fc, .int .i64 fr] (.slice ao D.length co) D W') (by kernel_rfl) HS.out.drew (fun hHeld => ?_)
          refine tkW 0 (some 20) (v := ?_) ?_ hHeld ?_
          rotate_left
          · (intro w hSw; (try dsimp only at hSw); have g0 := hSw.2.1.1 0 _ rfl; have g1 := hSw.2.1.1 1 _ rfl; have t0 := hSw.1.1 0 _ rfl; have t1 := hSw.1.1 1 _ rfl; go_simp; try with_reducible rfl)
          refine tkW 1 (some 21) (v := ?_) ?_ hHeld ?_
          rotate_left
          · (intro w hSw; (try dsimp only at hSw); have g0 := hSw.2.1.1 0 _ rfl; have g1 := hSw.2.1.1 1 _ rfl; have t0 := hSw.1.1 0 _ rfl; have t1 := hSw.1.1 1 _ rfl; go_simp; try with_reducible rfl)
          refine tkW 2 (some 22) (v := ?_) ?_ hHeld ?_
          rotate_left
          · (intro w hSw; (try dsimp only at hSw); have g0 := hSw.2.1.1 0 _ rfl; have g1 := hSw.2.1.1 1 _ rfl; have t0 := hSw.1.1 0 _ rfl; have t1 := hSw.1.1 1 _ rfl; go_simp; try with_reducible rfl)
          refine tkW 3 (some 23) (v := ?_) ?_ hHeld ?_
          rotate_left
          · (intro w hSw; (try dsimp only at hSw); have g0 := hSw.2.1.1 0 _ rfl; have g1 := hSw.2.1.1 1 _ rfl; have t0 := hSw.1.1 0 _ rfl; have t1 := hSw.1.1 1 _ rfl; go_simp; try with_reducible rfl)
          refine wpAnyH_ready (rs := [4]) (by kernel_rfl) (by simp) ?_
          refine AllReadyH.cons (o := ⟨some 24, _, _, _, _, _⟩) rfl (fun K hK => ?_) AllReadyH.nil
          go_simp
          have x1 := hHeld.2.1.1 0 _ rfl
          have x2 := hHeld.2.1.1 1 _ rfl
          (try go_simp)
          refine (refRight_any nc nr _).mono ?_
          rintro e w1 ⟨rfl, hw⟩
          have hb := below_of_alloc hw
          clear hw
          rw [hrt]
          (try go_wp2_with fail)
          refine hK.out _ _ (hHeld.step hb) (fun hHeld2 => ?_)
          clear hK K hHeld
          have hHeld := hHeld2
          clear hHeld2
          (try simp only [Act.put, List.setIfInBounds_toArray, List.set_cons_zero, List.set_cons_succ])
          refine tkW 5 (some 25) (v := ?_) ?_ hHeld ?_
          rotate_left
          · (intro w hSw; (try dsimp only at hSw); have g0 := hSw.2.1.1 0 _ rfl; have g1 := hSw.2.1.1 1 _ rfl; have t0 := hSw.1.1 0 _ rfl; have t1 := hSw.1.1 1 _ rfl; go_simp; try with_reducible rfl)
          refine tkW 6 (some 26) (v := ?_) ?_ hHeld ?_
          rotate_left
          · (intro w hSw; (try dsimp only at hSw); have g0 := hSw.2.1.1 0 _ rfl; have g1 := hSw.2.1.1 1 _ rfl; have t0 := hSw.1.1 0 _ rfl; have t1 := hSw.1.1 1 _ rfl; go_simp; try with_reducible rfl)
          refine tkW 7 (some 27) (v := ?_) ?_ hHeld ?_
          rotate_left
          · (intro w hSw; (try dsimp only at hSw); have g0 := hSw.2.1.1 0 _ rfl; have g1 := hSw.2.1.1 1 _ rfl; have t0 := hSw.1.1 0 _ rfl; have t1 := hSw.1.1 1 _ rfl; go_simp; try with_reducible rfl)
          refine tkW 8 (some 28) (v := ?_) ?_ hHeld ?_
          rotate_left
          · (intro w hSw; (try dsimp only at hSw); have g0 := hSw.2.1.1 0 _ rfl; have g1 := hSw.2.1.1 1 _ rfl; have t0 := hSw.1.1 0 _ rfl; have t1 := hSw.1.1 1 _ rfl; go_simp; try with_reducible rfl)
          refine tkW 9 (some 29) (v := ?_) ?_ hHeld ?_
          rotate_left
          · (intro w hSw; (try dsimp only at hSw); have g0 := hSw.2.1.1 0 _ rfl; have g1 := hSw.2.1.1 1 _ rfl; have t0 := hSw.1.1 0 _ rfl; have t1 := hSw.1.1 1 _ rfl; go_simp; try with_reducible rfl)
          refine tkW 10 (some 30) (v := ?_) ?_ hHeld ?_
          rotate_left
          · (intro w hSw; (try dsimp only at hSw); have g0 := hSw.2.1.1 0 _ rfl; have g1 := hSw.2.1.1 1 _ rfl; have t0 := hSw.1.1 0 _ rfl; have t1 := hSw.1.1 1 _ rfl; go_simp; try with_reducible rfl)
          refine tkW 11 (some 31) (v := ?_) ?_ hHeld ?_
          rotate_left
          · (intro w hSw; (try dsimp only at hSw); have g0 := hSw.2.1.1 0 _ rfl; have g1 := hSw.2.1.1 1 _ rfl; have t0 := hSw.1.1 0 _ rfl; have t1 := hSw.1.1 1 _ rfl; go_simp; try with_reducible rfl)
          refine tkW 12 (some 32) (v := ?_) ?_ hHeld ?_
          rotate_left
          · (intro w hSw; (try dsimp only at hSw); have g0 := hSw.2.1.1 0 _ rfl; have g1 := hSw.2.1.1 1 _ rfl; have t0 := hSw.1.1 0 _ rfl; have t1 := hSw.1.1 1 _ rfl; go_simp; try with_reducible rfl)
          refine tkW 13 (some 33) (v := ?_) ?_ hHeld ?_
          rotate_left
          · (intro w hSw; (try dsimp only at hSw); have g0 := hSw.2.1.1 0 _ rfl; have g1 := hSw.2.1.1 1 _ rfl; have t0 := hSw.1.1 0 _ rfl; have t1 := hSw.1.1 1 _ rfl; go_simp; try with_reducible rfl)
          refine wpAnyH_done (by kernel_rfl) ?_ _
          have HS1 : Hid (NSt w [.int .i64 ac, .int .i64 ar, .int .i64 sq, dv, .int .i64 kd, .int .i64 nc, .int .i64 nr, .int .i64 pc, .int .i64 pr, .int .i64 fc, .int .i64 fr, .string nm, .string vl] [.int .i64 nc, .int .i64 nr, .int .i64 pc, .int .i64 pr, .int .i64 fc, .int .i64 fr] (.slice ao D.length co) D _) := hHeld
          clear hHeld
          have y1 := HS1.out.2.1.1 0 _ rfl
          have y2 := HS1.out.2.1.1 1 _ rfl
          go_wp2_with fail
          refine (S.put_any (.slice ao D.length co) D nc nr _ HS1.out.2.2 (by omega)).mono ?_
          rintro e w2 ⟨v2, rfl, his2, hb2⟩
          have HS2 : Hid (NSt w [.int .i64 ac, .int .i64 ar, .int .i64 sq, dv, .int .i64 kd, .int .i64 nc, .int .i64 nr, .int .i64 pc, .int .i64 pr, .int .i64 fc, .int .i64 fr, .string nm, .string vl] [.int .i64 nc, .int .i64 nr, .int .i64 pc, .int .i64 pr, .int .i64 fc, .int .i64 fr] v2 (S.putL D (nc, nr)) w2) := ⟨HS1.out.1.step hb2, HS1.out.2.1.step hb2, his2⟩
          have hpl := S.putL_length D (nc, nr)
          clear his2 hb2
          go_wp2
          go_roundw
          case rel => exact ⟨1, S.putL D (nc, nr), by omega, by omega, by first | rfl | go_num, (sort_on (X := [(nc, nr), (pc, pr), (fc, fr)]) (k := 0) (by simp) HT0.out HP.out), HS2⟩
          case measure => simp [intOf]
    · have HT0 : Hid (D = S.sortL ((([(nc, nr), (pc, pr), (fc, fr)] : List (Int × Int)).take 1).filter (namB2 ac ar))) := HT
      have hi0 : (0 : Int) ≤ 1 := by omega
      have hi1 : (1 : Int) < 3 := by omega
      have x1 := HS.out.2.1.1 2 _ rfl
      have x2 := HS.out.2.1.1 3 _ rfl
      cases hrt : rightB pc pr
      · go_wp2_with fail
        refine wp_region_held_drew (S := fun W' => NSt w [.int .i64 ac, .int .i64 ar, .int .i64 sq, dv, .int .i64 kd, .int .i64 nc, .int .i64 nr, .int .i64 pc, .int .i64 pr, .int .i64 fc, .int .i64 fr, .string nm, .string vl] [.int .i64 nc, .int .i64 nr, .int .i64 pc, .int .i64 pr, .int .i64 fc, .int .i64 fr] (.slice ao D.length co) D W') (by kernel_rfl) HS.out.drew (fun hHeld => ?_)
        refine tkW 0 (some 20) (v := ?_) ?_ hHeld ?_
        rotate_left
        · (intro w hSw; (try dsimp only at hSw); have g2 := hSw.2.1.1 2 _ rfl; have g3 := hSw.2.1.1 3 _ rfl; have t0 := hSw.1.1 0 _ rfl; have t1 := hSw.1.1 1 _ rfl; go_simp; try with_reducible rfl)
        refine tkW 1 (some 21) (v := ?_) ?_ hHeld ?_
        rotate_left
        · (intro w hSw; (try dsimp only at hSw); have g2 := hSw.2.1.1 2 _ rfl; have g3 := hSw.2.1.1 3 _ rfl; have t0 := hSw.1.1 0 _ rfl; have t1 := hSw.1.1 1 _ rfl; go_simp; try with_reducible rfl)
        refine tkW 2 (some 22) (v := ?_) ?_ hHeld ?_
        rotate_left
        · (intro w hSw; (try dsimp only at hSw); have g2 := hSw.2.1.1 2 _ rfl; have g3 := hSw.2.1.1 3 _ rfl; have t0 := hSw.1.1 0 _ rfl; have t1 := hSw.1.1 1 _ rfl; go_simp; try with_reducible rfl)
        refine tkW 3 (some 23) (v := ?_) ?_ hHeld ?_
        rotate_left
        · (intro w hSw; (try dsimp only at hSw); have g2 := hSw.2.1.1 2 _ rfl; have g3 := hSw.2.1.1 3 _ rfl; have t0 := hSw.1.1 0 _ rfl; have t1 := hSw.1.1 1 _ rfl; go_simp; try with_reducible rfl)
        refine wpAnyH_ready (rs := [4]) (by kernel_rfl) (by simp) ?_
        refine AllReadyH.cons (o := ⟨some 24, _, _, _, _, _⟩) rfl (fun K hK => ?_) AllReadyH.nil
        go_simp
        have x1 := hHeld.2.1.1 2 _ rfl
        have x2 := hHeld.2.1.1 3 _ rfl
        (try go_simp)
        refine (refRight_any pc pr _).mono ?_
        rintro e w1 ⟨rfl, hw⟩
        have hb := below_of_alloc hw
        clear hw
        rw [hrt]
        (try go_wp2_with fail)
        refine hK.out _ _ (hHeld.step hb) (fun hHeld2 => ?_)
        clear hK K hHeld
        have hHeld := hHeld2
        clear hHeld2
        (try simp only [Act.put, List.setIfInBounds_toArray, List.set_cons_zero, List.set_cons_succ])
        refine tkW 5 (some 25) (v := ?_) ?_ hHeld ?_
        rotate_left
        · (intro w hSw; (try dsimp only at hSw); have g2 := hSw.2.1.1 2 _ rfl; have g3 := hSw.2.1.1 3 _ rfl; have t0 := hSw.1.1 0 _ rfl; have t1 := hSw.1.1 1 _ rfl; go_simp; try with_reducible rfl)
        refine tkU 6 (some 26) hHeld ?_
        refine tkU 7 (some 27) hHeld ?_
        refine tkU 8 (some 28) hHeld ?_
        refine tkU 9 (some 29) hHeld ?_
        refine tkU 10 (some 30) hHeld ?_
        refine tkU 11 (some 31) hHeld ?_
        refine tkU 12 (some 32) hHeld ?_
        refine tkW 13 (some 33) (v := ?_) ?_ hHeld ?_
        rotate_left
        · (intro w hSw; (try dsimp only at hSw); have g2 := hSw.2.1.1 2 _ rfl; have g3 := hSw.2.1.1 3 _ rfl; have t0 := hSw.1.1 0 _ rfl; have t1 := hSw.1.1 1 _ rfl; go_simp; try with_reducible rfl)
        refine wpAnyH_done (by kernel_rfl) ?_ _
        have HS1 : Hid (NSt w [.int .i64 ac, .int .i64 ar, .int .i64 sq, dv, .int .i64 kd, .int .i64 nc, .int .i64 nr, .int .i64 pc, .int .i64 pr, .int .i64 fc, .int .i64 fr, .string nm, .string vl] [.int .i64 nc, .int .i64 nr, .int .i64 pc, .int .i64 pr, .int .i64 fc, .int .i64 fr] (.slice ao D.length co) D _) := hHeld
        clear hHeld
        go_wp2
        go_roundw
        case rel => exact ⟨2, D, by omega, by omega, by first | rfl | go_num, (sort_past (X := [(nc, nr), (pc, pr), (fc, fr)]) (k := 1) (by simp) HT0.out (namB2_not hrt)), HS1⟩
        case measure => simp [intOf]
      · by_cases ec : pc = ac
        · by_cases er : pr = ar
          · have qc : (pc == ac) = true := by simp [ec]
            have qr : (pr == ar) = true := by simp [er]
            have qc2 : (pc != ac) = false := by simp [ec]
            have qr2 : (pr != ar) = false := by simp [er]
            have HP : Hid (namB2 ac ar (pc, pr) = false) := by rw [ec, er]; exact namB2_own
            clear ec er
            go_wp2_with fail
            refine wp_region_held_drew (S := fun W' => NSt w [.int .i64 ac, .int .i64 ar, .int .i64 sq, dv, .int .i64 kd, .int .i64 nc, .int .i64 nr, .int .i64 pc, .int .i64 pr, .int .i64 fc, .int .i64 fr, .string nm, .string vl] [.int .i64 nc, .int .i64 nr, .int .i64 pc, .int .i64 pr, .int .i64 fc, .int .i64 fr] (.slice ao D.length co) D W') (by kernel_rfl) HS.out.drew (fun hHeld => ?_)
            refine tkW 0 (some 20) (v := ?_) ?_ hHeld ?_
            rotate_left
            · (intro w hSw; (try dsimp only at hSw); have g2 := hSw.2.1.1 2 _ rfl; have g3 := hSw.2.1.1 3 _ rfl; have t0 := hSw.1.1 0 _ rfl; have t1 := hSw.1.1 1 _ rfl; go_simp; try with_reducible rfl)
            refine tkW 1 (some 21) (v := ?_) ?_ hHeld ?_
            rotate_left
            · (intro w hSw; (try dsimp only at hSw); have g2 := hSw.2.1.1 2 _ rfl; have g3 := hSw.2.1.1 3 _ rfl; have t0 := hSw.1.1 0 _ rfl; have t1 := hSw.1.1 1 _ rfl; go_simp; try with_reducible rfl)
            refine tkW 2 (some 22) (v := ?_) ?_ hHeld ?_
            rotate_left
            · (intro w hSw; (try dsimp only at hSw); have g2 := hSw.2.1.1 2 _ rfl; have g3 := hSw.2.1.1 3 _ rfl; have t0 := hSw.1.1 0 _ rfl; have t1 := hSw.1.1 1 _ rfl; go_simp; try with_reducible rfl)
            refine tkW 3 (some 23) (v := ?_) ?_ hHeld ?_
            rotate_left
            · (intro w hSw; (try dsimp only at hSw); have g2 := hSw.2.1.1 2 _ rfl; have g3 := hSw.2.1.1 3 _ rfl; have t0 := hSw.1.1 0 _ rfl; have t1 := hSw.1.1 1 _ rfl; go_simp; try with_reducible rfl)
            refine wpAnyH_ready (rs := [4]) (by kernel_rfl) (by simp) ?_
            refine AllReadyH.cons (o := ⟨some 24, _, _, _, _, _⟩) rfl (fun K hK => ?_) AllReadyH.nil
            go_simp
            have x1 := hHeld.2.1.1 2 _ rfl
            have x2 := hHeld.2.1.1 3 _ rfl
            (try go_simp)
            refine (refRight_any pc pr _).mono ?_
            rintro e w1 ⟨rfl, hw⟩
            have hb := below_of_alloc hw
            clear hw
            rw [hrt]
            (try go_wp2_with fail)
            refine hK.out _ _ (hHeld.step hb) (fun hHeld2 => ?_)
            clear hK K hHeld
            have hHeld := hHeld2
            clear hHeld2
            (try simp only [Act.put, List.setIfInBounds_toArray, List.set_cons_zero, List.set_cons_succ])
            refine tkW 5 (some 25) (v := ?_) ?_ hHeld ?_
            rotate_left
            · (intro w hSw; (try dsimp only at hSw); have g2 := hSw.2.1.1 2 _ rfl; have g3 := hSw.2.1.1 3 _ rfl; have t0 := hSw.1.1 0 _ rfl; have t1 := hSw.1.1 1 _ rfl; go_simp; try with_reducible rfl)
            refine tkW 6 (some 26) (v := ?_) ?_ hHeld ?_
            rotate_left
            · (intro w hSw; (try dsimp only at hSw); have g2 := hSw.2.1.1 2 _ rfl; have g3 := hSw.2.1.1 3 _ rfl; have t0 := hSw.1.1 0 _ rfl; have t1 := hSw.1.1 1 _ rfl; go_simp; try with_reducible rfl)
            refine tkW 7 (some 27) (v := ?_) ?_ hHeld ?_
            rotate_left
            · (intro w hSw; (try dsimp only at hSw); have g2 := hSw.2.1.1 2 _ rfl; have g3 := hSw.2.1.1 3 _ rfl; have t0 := hSw.1.1 0 _ rfl; have t1 := hSw.1.1 1 _ rfl; go_simp; try with_reducible rfl)
            refine tkW 8 (some 28) (v := ?_) ?_ hHeld ?_
            rotate_left
            · (intro w hSw; (try dsimp only at hSw); have g2 := hSw.2.1.1 2 _ rfl; have g3 := hSw.2.1.1 3 _ rfl; have t0 := hSw.1.1 0 _ rfl; have t1 := hSw.1.1 1 _ rfl; go_simp; try with_reducible rfl)
            refine tkW 9 (some 29) (v := ?_) ?_ hHeld ?_
            rotate_left
            · (intro w hSw; (try dsimp only at hSw); have g2 := hSw.2.1.1 2 _ rfl; have g3 := hSw.2.1.1 3 _ rfl; have t0 := hSw.1.1 0 _ rfl; have t1 := hSw.1.1 1 _ rfl; go_simp; try with_reducible rfl)
            refine tkW 10 (some 30) (v := ?_) ?_ hHeld ?_
            rotate_left
            · (intro w hSw; (try dsimp only at hSw); have g2 := hSw.2.1.1 2 _ rfl; have g3 := hSw.2.1.1 3 _ rfl; have t0 := hSw.1.1 0 _ rfl; have t1 := hSw.1.1 1 _ rfl; go_simp; try with_reducible rfl)
            refine tkW 11 (some 31) (v := ?_) ?_ hHeld ?_
            rotate_left
            · (intro w hSw; (try dsimp only at hSw); have g2 := hSw.2.1.1 2 _ rfl; have g3 := hSw.2.1.1 3 _ rfl; have t0 := hSw.1.1 0 _ rfl; have t1 := hSw.1.1 1 _ rfl; go_simp; try with_reducible rfl)
            refine tkW 12 (some 32) (v := ?_) ?_ hHeld ?_
            rotate_left
            · (intro w hSw; (try dsimp only at hSw); have g2 := hSw.2.1.1 2 _ rfl; have g3 := hSw.2.1.1 3 _ rfl; have t0 := hSw.1.1 0 _ rfl; have t1 := hSw.1.1 1 _ rfl; go_simp; try with_reducible rfl)
            refine tkW 13 (some 33) (v := ?_) ?_ hHeld ?_
            rotate_left
            · (intro w hSw; (try dsimp only at hSw); have g2 := hSw.2.1.1 2 _ rfl; have g3 := hSw.2.1.1 3 _ rfl; have t0 := hSw.1.1 0 _ rfl; have t1 := hSw.1.1 1 _ rfl; go_simp; try with_reducible rfl)
            refine wpAnyH_done (by kernel_rfl) ?_ _
            have HS1 : Hid (NSt w [.int .i64 ac, .int .i64 ar, .int .i64 sq, dv, .int .i64 kd, .int .i64 nc, .int .i64 nr, .int .i64 pc, .int .i64 pr, .int .i64 fc, .int .i64 fr, .string nm, .string vl] [.int .i64 nc, .int .i64 nr, .int .i64 pc, .int .i64 pr, .int .i64 fc, .int .i64 fr] (.slice ao D.length co) D _) := hHeld
            clear hHeld
            go_wp2
            go_roundw
            case rel => exact ⟨2, D, by omega, by omega, by first | rfl | go_num, (sort_past (X := [(nc, nr), (pc, pr), (fc, fr)]) (k := 1) (by simp) HT0.out HP.out), HS1⟩
            case measure => simp [intOf]
          · have qc : (pc == ac) = true := by simp [ec]
            have qr : (pr == ar) = false := by simp [er]
            have qr2 : (pr != ar) = true := by simp [er]
            have HP : Hid (namB2 ac ar (pc, pr) = true) := namB2_r hrt er
            clear ec er
            go_wp2_with fail
            refine wp_region_held_drew (S := fun W' => NSt w [.int .i64 ac, .int .i64 ar, .int .i64 sq, dv, .int .i64 kd, .int .i64 nc, .int .i64 nr, .int .i64 pc, .int .i64 pr, .int .i64 fc, .int .i64 fr, .string nm, .string vl] [.int .i64 nc, .int .i64 nr, .int .i64 pc, .int .i64 pr, .int .i64 fc, .int .i64 fr] (.slice ao D.length co) D W') (by kernel_rfl) HS.out.drew (fun hHeld => ?_)
            refine tkW 0 (some 20) (v := ?_) ?_ hHeld ?_
            rotate_left
            · (intro w hSw; (try dsimp only at hSw); have g2 := hSw.2.1.1 2 _ rfl; have g3 := hSw.2.1.1 3 _ rfl; have t0 := hSw.1.1 0 _ rfl; have t1 := hSw.1.1 1 _ rfl; go_simp; try with_reducible rfl)
            refine tkW 1 (some 21) (v := ?_) ?_ hHeld ?_
            rotate_left
            · (intro w hSw; (try dsimp only at hSw); have g2 := hSw.2.1.1 2 _ rfl; have g3 := hSw.2.1.1 3 _ rfl; have t0 := hSw.1.1 0 _ rfl; have t1 := hSw.1.1 1 _ rfl; go_simp; try with_reducible rfl)
            refine tkW 2 (some 22) (v := ?_) ?_ hHeld ?_
            rotate_left
            · (intro w hSw; (try dsimp only at hSw); have g2 := hSw.2.1.1 2 _ rfl; have g3 := hSw.2.1.1 3 _ rfl; have t0 := hSw.1.1 0 _ rfl; have t1 := hSw.1.1 1 _ rfl; go_simp; try with_reducible rfl)
            refine tkW 3 (some 23) (v := ?_) ?_ hHeld ?_
            rotate_left
            · (intro w hSw; (try dsimp only at hSw); have g2 := hSw.2.1.1 2 _ rfl; have g3 := hSw.2.1.1 3 _ rfl; have t0 := hSw.1.1 0 _ rfl; have t1 := hSw.1.1 1 _ rfl; go_simp; try with_reducible rfl)
            refine wpAnyH_ready (rs := [4]) (by kernel_rfl) (by simp) ?_
            refine AllReadyH.cons (o := ⟨some 24, _, _, _, _, _⟩) rfl (fun K hK => ?_) AllReadyH.nil
            go_simp
            have x1 := hHeld.2.1.1 2 _ rfl
            have x2 := hHeld.2.1.1 3 _ rfl
            (try go_simp)
            refine (refRight_any pc pr _).mono ?_
            rintro e w1 ⟨rfl, hw⟩
            have hb := below_of_alloc hw
            clear hw
            rw [hrt]
            (try go_wp2_with fail)
            refine hK.out _ _ (hHeld.step hb) (fun hHeld2 => ?_)
            clear hK K hHeld
            have hHeld := hHeld2
            clear hHeld2
            (try simp only [Act.put, List.setIfInBounds_toArray, List.set_cons_zero, List.set_cons_succ])
            refine tkW 5 (some 25) (v := ?_) ?_ hHeld ?_
            rotate_left
            · (intro w hSw; (try dsimp only at hSw); have g2 := hSw.2.1.1 2 _ rfl; have g3 := hSw.2.1.1 3 _ rfl; have t0 := hSw.1.1 0 _ rfl; have t1 := hSw.1.1 1 _ rfl; go_simp; try with_reducible rfl)
            refine tkW 6 (some 26) (v := ?_) ?_ hHeld ?_
            rotate_left
            · (intro w hSw; (try dsimp only at hSw); have g2 := hSw.2.1.1 2 _ rfl; have g3 := hSw.2.1.1 3 _ rfl; have t0 := hSw.1.1 0 _ rfl; have t1 := hSw.1.1 1 _ rfl; go_simp; try with_reducible rfl)
            refine tkW 7 (some 27) (v := ?_) ?_ hHeld ?_
            rotate_left
            · (intro w hSw; (try dsimp only at hSw); have g2 := hSw.2.1.1 2 _ rfl; have g3 := hSw.2.1.1 3 _ rfl; have t0 := hSw.1.1 0 _ rfl; have t1 := hSw.1.1 1 _ rfl; go_simp; try with_reducible rfl)
            refine tkW 8 (some 28) (v := ?_) ?_ hHeld ?_
            rotate_left
            · (intro w hSw; (try dsimp only at hSw); have g2 := hSw.2.1.1 2 _ rfl; have g3 := hSw.2.1.1 3 _ rfl; have t0 := hSw.1.1 0 _ rfl; have t1 := hSw.1.1 1 _ rfl; go_simp; try with_reducible rfl)
            refine tkW 9 (some 29) (v := ?_) ?_ hHeld ?_
            rotate_left
            · (intro w hSw; (try dsimp only at hSw); have g2 := hSw.2.1.1 2 _ rfl; have g3 := hSw.2.1.1 3 _ rfl; have t0 := hSw.1.1 0 _ rfl; have t1 := hSw.1.1 1 _ rfl; go_simp; try with_reducible rfl)
            refine tkW 10 (some 30) (v := ?_) ?_ hHeld ?_
            rotate_left
            · (intro w hSw; (try dsimp only at hSw); have g2 := hSw.2.1.1 2 _ rfl; have g3 := hSw.2.1.1 3 _ rfl; have t0 := hSw.1.1 0 _ rfl; have t1 := hSw.1.1 1 _ rfl; go_simp; try with_reducible rfl)
            refine tkW 11 (some 31) (v := ?_) ?_ hHeld ?_
            rotate_left
            · (intro w hSw; (try dsimp only at hSw); have g2 := hSw.2.1.1 2 _ rfl; have g3 := hSw.2.1.1 3 _ rfl; have t0 := hSw.1.1 0 _ rfl; have t1 := hSw.1.1 1 _ rfl; go_simp; try with_reducible rfl)
            refine tkW 12 (some 32) (v := ?_) ?_ hHeld ?_
            rotate_left
            · (intro w hSw; (try dsimp only at hSw); have g2 := hSw.2.1.1 2 _ rfl; have g3 := hSw.2.1.1 3 _ rfl; have t0 := hSw.1.1 0 _ rfl; have t1 := hSw.1.1 1 _ rfl; go_simp; try with_reducible rfl)
            refine tkW 13 (some 33) (v := ?_) ?_ hHeld ?_
            rotate_left
            · (intro w hSw; (try dsimp only at hSw); have g2 := hSw.2.1.1 2 _ rfl; have g3 := hSw.2.1.1 3 _ rfl; have t0 := hSw.1.1 0 _ rfl; have t1 := hSw.1.1 1 _ rfl; go_simp; try with_reducible rfl)
            refine wpAnyH_done (by kernel_rfl) ?_ _
            have HS1 : Hid (NSt w [.int .i64 ac, .int .i64 ar, .int .i64 sq, dv, .int .i64 kd, .int .i64 nc, .int .i64 nr, .int .i64 pc, .int .i64 pr, .int .i64 fc, .int .i64 fr, .string nm, .string vl] [.int .i64 nc, .int .i64 nr, .int .i64 pc, .int .i64 pr, .int .i64 fc, .int .i64 fr] (.slice ao D.length co) D _) := hHeld
            clear hHeld
            have y1 := HS1.out.2.1.1 2 _ rfl
            have y2 := HS1.out.2.1.1 3 _ rfl
            go_wp2_with fail
            refine (S.put_any (.slice ao D.length co) D pc pr _ HS1.out.2.2 (by omega)).mono ?_
            rintro e w2 ⟨v2, rfl, his2, hb2⟩
            have HS2 : Hid (NSt w [.int .i64 ac, .int .i64 ar, .int .i64 sq, dv, .int .i64 kd, .int .i64 nc, .int .i64 nr, .int .i64 pc, .int .i64 pr, .int .i64 fc, .int .i64 fr, .string nm, .string vl] [.int .i64 nc, .int .i64 nr, .int .i64 pc, .int .i64 pr, .int .i64 fc, .int .i64 fr] v2 (S.putL D (pc, pr)) w2) := ⟨HS1.out.1.step hb2, HS1.out.2.1.step hb2, his2⟩
            have hpl := S.putL_length D (pc, pr)
            clear his2 hb2
            go_wp2
            go_roundw
            case rel => exact ⟨2, S.putL D (pc, pr), by omega, by omega, by first | rfl | go_num, (sort_on (X := [(nc, nr), (pc, pr), (fc, fr)]) (k := 1) (by simp) HT0.out HP.out), HS2⟩
            case measure => simp [intOf]
        · have qc : (pc == ac) = false := by simp [ec]
          have qc2 : (pc != ac) = true := by simp [ec]
          have HP : Hid (namB2 ac ar (pc, pr) = true) := namB2_c hrt ec
          clear ec
          go_wp2_with fail
          refine wp_region_held_drew (S := fun W' => NSt w [.int .i64 ac, .int .i64 ar, .int .i64 sq, dv, .int .i64 kd, .int .i64 nc, .int .i64 nr, .int .i64 pc, .int .i64 pr, .int .i64 fc, .int .i64 fr, .string nm, .string vl] [.int .i64 nc, .int .i64 nr, .int .i64 pc, .int .i64 pr, .int .i64 fc, .int .i64 fr] (.slice ao D.length co) D W') (by kernel_rfl) HS.out.drew (fun hHeld => ?_)
          refine tkW 0 (some 20) (v := ?_) ?_ hHeld ?_
          rotate_left
          · (intro w hSw; (try dsimp only at hSw); have g2 := hSw.2.1.1 2 _ rfl; have g3 := hSw.2.1.1 3 _ rfl; have t0 := hSw.1.1 0 _ rfl; have t1 := hSw.1.1 1 _ rfl; go_simp; try with_reducible rfl)
          refine tkW 1 (some 21) (v := ?_) ?_ hHeld ?_
          rotate_left
          · (intro w hSw; (try dsimp only at hSw); have g2 := hSw.2.1.1 2 _ rfl; have g3 := hSw.2.1.1 3 _ rfl; have t0 := hSw.1.1 0 _ rfl; have t1 := hSw.1.1 1 _ rfl; go_simp; try with_reducible rfl)
          refine tkW 2 (some 22) (v := ?_) ?_ hHeld ?_
          rotate_left
          · (intro w hSw; (try dsimp only at hSw); have g2 := hSw.2.1.1 2 _ rfl; have g3 := hSw.2.1.1 3 _ rfl; have t0 := hSw.1.1 0 _ rfl; have t1 := hSw.1.1 1 _ rfl; go_simp; try with_reducible rfl)
          refine tkW 3 (some 23) (v := ?_) ?_ hHeld ?_
          rotate_left
          · (intro w hSw; (try dsimp only at hSw); have g2 := hSw.2.1.1 2 _ rfl; have g3 := hSw.2.1.1 3 _ rfl; have t0 := hSw.1.1 0 _ rfl; have t1 := hSw.1.1 1 _ rfl; go_simp; try with_reducible rfl)
          refine wpAnyH_ready (rs := [4]) (by kernel_rfl) (by simp) ?_
          refine AllReadyH.cons (o := ⟨some 24, _, _, _, _, _⟩) rfl (fun K hK => ?_) AllReadyH.nil
          go_simp
          have x1 := hHeld.2.1.1 2 _ rfl
          have x2 := hHeld.2.1.1 3 _ rfl
          (try go_simp)
          refine (refRight_any pc pr _).mono ?_
          rintro e w1 ⟨rfl, hw⟩
          have hb := below_of_alloc hw
          clear hw
          rw [hrt]
          (try go_wp2_with fail)
          refine hK.out _ _ (hHeld.step hb) (fun hHeld2 => ?_)
          clear hK K hHeld
          have hHeld := hHeld2
          clear hHeld2
          (try simp only [Act.put, List.setIfInBounds_toArray, List.set_cons_zero, List.set_cons_succ])
          refine tkW 5 (some 25) (v := ?_) ?_ hHeld ?_
          rotate_left
          · (intro w hSw; (try dsimp only at hSw); have g2 := hSw.2.1.1 2 _ rfl; have g3 := hSw.2.1.1 3 _ rfl; have t0 := hSw.1.1 0 _ rfl; have t1 := hSw.1.1 1 _ rfl; go_simp; try with_reducible rfl)
          refine tkW 6 (some 26) (v := ?_) ?_ hHeld ?_
          rotate_left
          · (intro w hSw; (try dsimp only at hSw); have g2 := hSw.2.1.1 2 _ rfl; have g3 := hSw.2.1.1 3 _ rfl; have t0 := hSw.1.1 0 _ rfl; have t1 := hSw.1.1 1 _ rfl; go_simp; try with_reducible rfl)
          refine tkW 7 (some 27) (v := ?_) ?_ hHeld ?_
          rotate_left
          · (intro w hSw; (try dsimp only at hSw); have g2 := hSw.2.1.1 2 _ rfl; have g3 := hSw.2.1.1 3 _ rfl; have t0 := hSw.1.1 0 _ rfl; have t1 := hSw.1.1 1 _ rfl; go_simp; try with_reducible rfl)
          refine tkW 8 (some 28) (v := ?_) ?_ hHeld ?_
          rotate_left
          · (intro w hSw; (try dsimp only at hSw); have g2 := hSw.2.1.1 2 _ rfl; have g3 := hSw.2.1.1 3 _ rfl; have t0 := hSw.1.1 0 _ rfl; have t1 := hSw.1.1 1 _ rfl; go_simp; try with_reducible rfl)
          refine tkW 9 (some 29) (v := ?_) ?_ hHeld ?_
          rotate_left
          · (intro w hSw; (try dsimp only at hSw); have g2 := hSw.2.1.1 2 _ rfl; have g3 := hSw.2.1.1 3 _ rfl; have t0 := hSw.1.1 0 _ rfl; have t1 := hSw.1.1 1 _ rfl; go_simp; try with_reducible rfl)
          refine tkW 10 (some 30) (v := ?_) ?_ hHeld ?_
          rotate_left
          · (intro w hSw; (try dsimp only at hSw); have g2 := hSw.2.1.1 2 _ rfl; have g3 := hSw.2.1.1 3 _ rfl; have t0 := hSw.1.1 0 _ rfl; have t1 := hSw.1.1 1 _ rfl; go_simp; try with_reducible rfl)
          refine tkW 11 (some 31) (v := ?_) ?_ hHeld ?_
          rotate_left
          · (intro w hSw; (try dsimp only at hSw); have g2 := hSw.2.1.1 2 _ rfl; have g3 := hSw.2.1.1 3 _ rfl; have t0 := hSw.1.1 0 _ rfl; have t1 := hSw.1.1 1 _ rfl; go_simp; try with_reducible rfl)
          refine tkW 12 (some 32) (v := ?_) ?_ hHeld ?_
          rotate_left
          · (intro w hSw; (try dsimp only at hSw); have g2 := hSw.2.1.1 2 _ rfl; have g3 := hSw.2.1.1 3 _ rfl; have t0 := hSw.1.1 0 _ rfl; have t1 := hSw.1.1 1 _ rfl; go_simp; try with_reducible rfl)
          refine tkW 13 (some 33) (v := ?_) ?_ hHeld ?_
          rotate_left
          · (intro w hSw; (try dsimp only at hSw); have g2 := hSw.2.1.1 2 _ rfl; have g3 := hSw.2.1.1 3 _ rfl; have t0 := hSw.1.1 0 _ rfl; have t1 := hSw.1.1 1 _ rfl; go_simp; try with_reducible rfl)
          refine wpAnyH_done (by kernel_rfl) ?_ _
          have HS1 : Hid (NSt w [.int .i64 ac, .int .i64 ar, .int .i64 sq, dv, .int .i64 kd, .int .i64 nc, .int .i64 nr, .int .i64 pc, .int .i64 pr, .int .i64 fc, .int .i64 fr, .string nm, .string vl] [.int .i64 nc, .int .i64 nr, .int .i64 pc, .int .i64 pr, .int .i64 fc, .int .i64 fr] (.slice ao D.length co) D _) := hHeld
          clear hHeld
          have y1 := HS1.out.2.1.1 2 _ rfl
          have y2 := HS1.out.2.1.1 3 _ rfl
          go_wp2_with fail
          refine (S.put_any (.slice ao D.length co) D pc pr _ HS1.out.2.2 (by omega)).mono ?_
          rintro e w2 ⟨v2, rfl, his2, hb2⟩
          have HS2 : Hid (NSt w [.int .i64 ac, .int .i64 ar, .int .i64 sq, dv, .int .i64 kd, .int .i64 nc, .int .i64 nr, .int .i64 pc, .int .i64 pr, .int .i64 fc, .int .i64 fr, .string nm, .string vl] [.int .i64 nc, .int .i64 nr, .int .i64 pc, .int .i64 pr, .int .i64 fc, .int .i64 fr] v2 (S.putL D (pc, pr)) w2) := ⟨HS1.out.1.step hb2, HS1.out.2.1.step hb2, his2⟩
          have hpl := S.putL_length D (pc, pr)
          clear his2 hb2
          go_wp2
          go_roundw
          case rel => exact ⟨2, S.putL D (pc, pr), by omega, by omega, by first | rfl | go_num, (sort_on (X := [(nc, nr), (pc, pr), (fc, fr)]) (k := 1) (by simp) HT0.out HP.out), HS2⟩
          case measure => simp [intOf]
    · have HT0 : Hid (D = S.sortL ((([(nc, nr), (pc, pr), (fc, fr)] : List (Int × Int)).take 2).filter (namB2 ac ar))) := HT
      have hi0 : (0 : Int) ≤ 2 := by omega
      have hi1 : (2 : Int) < 3 := by omega
      have x1 := HS.out.2.1.1 4 _ rfl
      have x2 := HS.out.2.1.1 5 _ rfl
      cases hrt : rightB fc fr
      · go_wp2_with fail
        refine wp_region_held_drew (S := fun W' => NSt w [.int .i64 ac, .int .i64 ar, .int .i64 sq, dv, .int .i64 kd, .int .i64 nc, .int .i64 nr, .int .i64 pc, .int .i64 pr, .int .i64 fc, .int .i64 fr, .string nm, .string vl] [.int .i64 nc, .int .i64 nr, .int .i64 pc, .int .i64 pr, .int .i64 fc, .int .i64 fr] (.slice ao D.length co) D W') (by kernel_rfl) HS.out.drew (fun hHeld => ?_)
        refine tkW 0 (some 20) (v := ?_) ?_ hHeld ?_
        rotate_left
        · (intro w hSw; (try dsimp only at hSw); have g4 := hSw.2.1.1 4 _ rfl; have g5 := hSw.2.1.1 5 _ rfl; have t0 := hSw.1.1 0 _ rfl; have t1 := hSw.1.1 1 _ rfl; go_simp; try with_reducible rfl)
        refine tkW 1 (some 21) (v := ?_) ?_ hHeld ?_
        rotate_left
        · (intro w hSw; (try dsimp only at hSw); have g4 := hSw.2.1.1 4 _ rfl; have g5 := hSw.2.1.1 5 _ rfl; have t0 := hSw.1.1 0 _ rfl; have t1 := hSw.1.1 1 _ rfl; go_simp; try with_reducible rfl)
        refine tkW 2 (some 22) (v := ?_) ?_ hHeld ?_
        rotate_left
        · (intro w hSw; (try dsimp only at hSw); have g4 := hSw.2.1.1 4 _ rfl; have g5 := hSw.2.1.1 5 _ rfl; have t0 := hSw.1.1 0 _ rfl; have t1 := hSw.1.1 1 _ rfl; go_simp; try with_reducible rfl)
        refine tkW 3 (some 23) (v := ?_) ?_ hHeld ?_
        rotate_left
        · (intro w hSw; (try dsimp only at hSw); have g4 := hSw.2.1.1 4 _ rfl; have g5 := hSw.2.1.1 5 _ rfl; have t0 := hSw.1.1 0 _ rfl; have t1 := hSw.1.1 1 _ rfl; go_simp; try with_reducible rfl)
        refine wpAnyH_ready (rs := [4]) (by kernel_rfl) (by simp) ?_
        refine AllReadyH.cons (o := ⟨some 24, _, _, _, _, _⟩) rfl (fun K hK => ?_) AllReadyH.nil
        go_simp
        have x1 := hHeld.2.1.1 4 _ rfl
        have x2 := hHeld.2.1.1 5 _ rfl
        (try go_simp)
        refine (refRight_any fc fr _).mono ?_
        rintro e w1 ⟨rfl, hw⟩
        have hb := below_of_alloc hw
        clear hw
        rw [hrt]
        (try go_wp2_with fail)
        refine hK.out _ _ (hHeld.step hb) (fun hHeld2 => ?_)
        clear hK K hHeld
        have hHeld := hHeld2
        clear hHeld2
        (try simp only [Act.put, List.setIfInBounds_toArray, List.set_cons_zero, List.set_cons_succ])
        refine tkW 5 (some 25) (v := ?_) ?_ hHeld ?_
        rotate_left
        · (intro w hSw; (try dsimp only at hSw); have g4 := hSw.2.1.1 4 _ rfl; have g5 := hSw.2.1.1 5 _ rfl; have t0 := hSw.1.1 0 _ rfl; have t1 := hSw.1.1 1 _ rfl; go_simp; try with_reducible rfl)
        refine tkU 6 (some 26) hHeld ?_
        refine tkU 7 (some 27) hHeld ?_
        refine tkU 8 (some 28) hHeld ?_
        refine tkU 9 (some 29) hHeld ?_
        refine tkU 10 (some 30) hHeld ?_
        refine tkU 11 (some 31) hHeld ?_
        refine tkU 12 (some 32) hHeld ?_
        refine tkW 13 (some 33) (v := ?_) ?_ hHeld ?_
        rotate_left
        · (intro w hSw; (try dsimp only at hSw); have g4 := hSw.2.1.1 4 _ rfl; have g5 := hSw.2.1.1 5 _ rfl; have t0 := hSw.1.1 0 _ rfl; have t1 := hSw.1.1 1 _ rfl; go_simp; try with_reducible rfl)
        refine wpAnyH_done (by kernel_rfl) ?_ _
        have HS1 : Hid (NSt w [.int .i64 ac, .int .i64 ar, .int .i64 sq, dv, .int .i64 kd, .int .i64 nc, .int .i64 nr, .int .i64 pc, .int .i64 pr, .int .i64 fc, .int .i64 fr, .string nm, .string vl] [.int .i64 nc, .int .i64 nr, .int .i64 pc, .int .i64 pr, .int .i64 fc, .int .i64 fr] (.slice ao D.length co) D _) := hHeld
        clear hHeld
        go_wp2
        go_roundw
        case rel => exact ⟨3, D, by omega, by omega, by first | rfl | go_num, (sort_past (X := [(nc, nr), (pc, pr), (fc, fr)]) (k := 2) (by simp) HT0.out (namB2_not hrt)), HS1⟩
        case measure => simp [intOf]
      · by_cases ec : fc = ac
        · by_cases er : fr = ar
          · have qc : (fc == ac) = true := by simp [ec]
            have qr : (fr == ar) = true := by simp [er]
            have qc2 : (fc != ac) = false := by simp [ec]
            have qr2 : (fr != ar) = false := by simp [er]
            have HP : Hid (namB2 ac ar (fc, fr) = false) := by rw [ec, er]; exact namB2_own
            clear ec er
            go_wp2_with fail
            refine wp_region_held_drew (S := fun W' => NSt w [.int .i64 ac, .int .i64 ar, .int .i64 sq, dv, .int .i64 kd, .int .i64 nc, .int .i64 nr, .int .i64 pc, .int .i64 pr, .int .i64 fc, .int .i64 fr, .string nm, .string vl] [.int .i64 nc, .int .i64 nr, .int .i64 pc, .int .i64 pr, .int .i64 fc, .int .i64 fr] (.slice ao D.length co) D W') (by kernel_rfl) HS.out.drew (fun hHeld => ?_)
            refine tkW 0 (some 20) (v := ?_) ?_ hHeld ?_
            rotate_left
            · (intro w hSw; (try dsimp only at hSw); have g4 := hSw.2.1.1 4 _ rfl; have g5 := hSw.2.1.1 5 _ rfl; have t0 := hSw.1.1 0 _ rfl; have t1 := hSw.1.1 1 _ rfl; go_simp; try with_reducible rfl)
            refine tkW 1 (some 21) (v := ?_) ?_ hHeld ?_
            rotate_left
            · (intro w hSw; (try dsimp only at hSw); have g4 := hSw.2.1.1 4 _ rfl; have g5 := hSw.2.1.1 5 _ rfl; have t0 := hSw.1.1 0 _ rfl; have t1 := hSw.1.1 1 _ rfl; go_simp; try with_reducible rfl)
            refine tkW 2 (some 22) (v := ?_) ?_ hHeld ?_
            rotate_left
            · (intro w hSw; (try dsimp only at hSw); have g4 := hSw.2.1.1 4 _ rfl; have g5 := hSw.2.1.1 5 _ rfl; have t0 := hSw.1.1 0 _ rfl; have t1 := hSw.1.1 1 _ rfl; go_simp; try with_reducible rfl)
            refine tkW 3 (some 23) (v := ?_) ?_ hHeld ?_
            rotate_left
            · (intro w hSw; (try dsimp only at hSw); have g4 := hSw.2.1.1 4 _ rfl; have g5 := hSw.2.1.1 5 _ rfl; have t0 := hSw.1.1 0 _ rfl; have t1 := hSw.1.1 1 _ rfl; go_simp; try with_reducible rfl)
            refine wpAnyH_ready (rs := [4]) (by kernel_rfl) (by simp) ?_
            refine AllReadyH.cons (o := ⟨some 24, _, _, _, _, _⟩) rfl (fun K hK => ?_) AllReadyH.nil
            go_simp
            have x1 := hHeld.2.1.1 4 _ rfl
            have x2 := hHeld.2.1.1 5 _ rfl
            (try go_simp)
            refine (refRight_any fc fr _).mono ?_
            rintro e w1 ⟨rfl, hw⟩
            have hb := below_of_alloc hw
            clear hw
            rw [hrt]
            (try go_wp2_with fail)
            refine hK.out _ _ (hHeld.step hb) (fun hHeld2 => ?_)
            clear hK K hHeld
            have hHeld := hHeld2
            clear hHeld2
            (try simp only [Act.put, List.setIfInBounds_toArray, List.set_cons_zero, List.set_cons_succ])
            refine tkW 5 (some 25) (v := ?_) ?_ hHeld ?_
            rotate_left
            · (intro w hSw; (try dsimp only at hSw); have g4 := hSw.2.1.1 4 _ rfl; have g5 := hSw.2.1.1 5 _ rfl; have t0 := hSw.1.1 0 _ rfl; have t1 := hSw.1.1 1 _ rfl; go_simp; try with_reducible rfl)
            refine tkW 6 (some 26) (v := ?_) ?_ hHeld ?_
            rotate_left
            · (intro w hSw; (try dsimp only at hSw); have g4 := hSw.2.1.1 4 _ rfl; have g5 := hSw.2.1.1 5 _ rfl; have t0 := hSw.1.1 0 _ rfl; have t1 := hSw.1.1 1 _ rfl; go_simp; try with_reducible rfl)
            refine tkW 7 (some 27) (v := ?_) ?_ hHeld ?_
            rotate_left
            · (intro w hSw; (try dsimp only at hSw); have g4 := hSw.2.1.1 4 _ rfl; have g5 := hSw.2.1.1 5 _ rfl; have t0 := hSw.1.1 0 _ rfl; have t1 := hSw.1.1 1 _ rfl; go_simp; try with_reducible rfl)
            refine tkW 8 (some 28) (v := ?_) ?_ hHeld ?_
            rotate_left
            · (intro w hSw; (try dsimp only at hSw); have g4 := hSw.2.1.1 4 _ rfl; have g5 := hSw.2.1.1 5 _ rfl; have t0 := hSw.1.1 0 _ rfl; have t1 := hSw.1.1 1 _ rfl; go_simp; try with_reducible rfl)
            refine tkW 9 (some 29) (v := ?_) ?_ hHeld ?_
            rotate_left
            · (intro w hSw; (try dsimp only at hSw); have g4 := hSw.2.1.1 4 _ rfl; have g5 := hSw.2.1.1 5 _ rfl; have t0 := hSw.1.1 0 _ rfl; have t1 := hSw.1.1 1 _ rfl; go_simp; try with_reducible rfl)
            refine tkW 10 (some 30) (v := ?_) ?_ hHeld ?_
            rotate_left
            · (intro w hSw; (try dsimp only at hSw); have g4 := hSw.2.1.1 4 _ rfl; have g5 := hSw.2.1.1 5 _ rfl; have t0 := hSw.1.1 0 _ rfl; have t1 := hSw.1.1 1 _ rfl; go_simp; try with_reducible rfl)
            refine tkW 11 (some 31) (v := ?_) ?_ hHeld ?_
            rotate_left
            · (intro w hSw; (try dsimp only at hSw); have g4 := hSw.2.1.1 4 _ rfl; have g5 := hSw.2.1.1 5 _ rfl; have t0 := hSw.1.1 0 _ rfl; have t1 := hSw.1.1 1 _ rfl; go_simp; try with_reducible rfl)
            refine tkW 12 (some 32) (v := ?_) ?_ hHeld ?_
            rotate_left
            · (intro w hSw; (try dsimp only at hSw); have g4 := hSw.2.1.1 4 _ rfl; have g5 := hSw.2.1.1 5 _ rfl; have t0 := hSw.1.1 0 _ rfl; have t1 := hSw.1.1 1 _ rfl; go_simp; try with_reducible rfl)
            refine tkW 13 (some 33) (v := ?_) ?_ hHeld ?_
            rotate_left
            · (intro w hSw; (try dsimp only at hSw); have g4 := hSw.2.1.1 4 _ rfl; have g5 := hSw.2.1.1 5 _ rfl; have t0 := hSw.1.1 0 _ rfl; have t1 := hSw.1.1 1 _ rfl; go_simp; try with_reducible rfl)
            refine wpAnyH_done (by kernel_rfl) ?_ _
            have HS1 : Hid (NSt w [.int .i64 ac, .int .i64 ar, .int .i64 sq, dv, .int .i64 kd, .int .i64 nc, .int .i64 nr, .int .i64 pc, .int .i64 pr, .int .i64 fc, .int .i64 fr, .string nm, .string vl] [.int .i64 nc, .int .i64 nr, .int .i64 pc, .int .i64 pr, .int .i64 fc, .int .i64 fr] (.slice ao D.length co) D _) := hHeld
            clear hHeld
            go_wp2
            go_roundw
            case rel => exact ⟨3, D, by omega, by omega, by first | rfl | go_num, (sort_past (X := [(nc, nr), (pc, pr), (fc, fr)]) (k := 2) (by simp) HT0.out HP.out), HS1⟩
            case measure => simp [intOf]
          · have qc : (fc == ac) = true := by simp [ec]
            have qr : (fr == ar) = false := by simp [er]
            have qr2 : (fr != ar) = true := by simp [er]
            have HP : Hid (namB2 ac ar (fc, fr) = true) := namB2_r hrt er
            clear ec er
            go_wp2_with fail
            refine wp_region_held_drew (S := fun W' => NSt w [.int .i64 ac, .int .i64 ar, .int .i64 sq, dv, .int .i64 kd, .int .i64 nc, .int .i64 nr, .int .i64 pc, .int .i64 pr, .int .i64 fc, .int .i64 fr, .string nm, .string vl] [.int .i64 nc, .int .i64 nr, .int .i64 pc, .int .i64 pr, .int .i64 fc, .int .i64 fr] (.slice ao D.length co) D W') (by kernel_rfl) HS.out.drew (fun hHeld => ?_)
            refine tkW 0 (some 20) (v := ?_) ?_ hHeld ?_
            rotate_left
            · (intro w hSw; (try dsimp only at hSw); have g4 := hSw.2.1.1 4 _ rfl; have g5 := hSw.2.1.1 5 _ rfl; have t0 := hSw.1.1 0 _ rfl; have t1 := hSw.1.1 1 _ rfl; go_simp; try with_reducible rfl)
            refine tkW 1 (some 21) (v := ?_) ?_ hHeld ?_
            rotate_left
            · (intro w hSw; (try dsimp only at hSw); have g4 := hSw.2.1.1 4 _ rfl; have g5 := hSw.2.1.1 5 _ rfl; have t0 := hSw.1.1 0 _ rfl; have t1 := hSw.1.1 1 _ rfl; go_simp; try with_reducible rfl)
            refine tkW 2 (some 22) (v := ?_) ?_ hHeld ?_
            rotate_left
            · (intro w hSw; (try dsimp only at hSw); have g4 := hSw.2.1.1 4 _ rfl; have g5 := hSw.2.1.1 5 _ rfl; have t0 := hSw.1.1 0 _ rfl; have t1 := hSw.1.1 1 _ rfl; go_simp; try with_reducible rfl)
            refine tkW 3 (some 23) (v := ?_) ?_ hHeld ?_
            rotate_left
            · (intro w hSw; (try dsimp only at hSw); have g4 := hSw.2.1.1 4 _ rfl; have g5 := hSw.2.1.1 5 _ rfl; have t0 := hSw.1.1 0 _ rfl; have t1 := hSw.1.1 1 _ rfl; go_simp; try with_reducible rfl)
            refine wpAnyH_ready (rs := [4]) (by kernel_rfl) (by simp) ?_
            refine AllReadyH.cons (o := ⟨some 24, _, _, _, _, _⟩) rfl (fun K hK => ?_) AllReadyH.nil
            go_simp
            have x1 := hHeld.2.1.1 4 _ rfl
            have x2 := hHeld.2.1.1 5 _ rfl
            (try go_simp)
            refine (refRight_any fc fr _).mono ?_
            rintro e w1 ⟨rfl, hw⟩
            have hb := below_of_alloc hw
            clear hw
            rw [hrt]
            (try go_wp2_with fail)
            refine hK.out _ _ (hHeld.step hb) (fun hHeld2 => ?_)
            clear hK K hHeld
            have hHeld := hHeld2
            clear hHeld2
            (try simp only [Act.put, List.setIfInBounds_toArray, List.set_cons_zero, List.set_cons_succ])
            refine tkW 5 (some 25) (v := ?_) ?_ hHeld ?_
            rotate_left
            · (intro w hSw; (try dsimp only at hSw); have g4 := hSw.2.1.1 4 _ rfl; have g5 := hSw.2.1.1 5 _ rfl; have t0 := hSw.1.1 0 _ rfl; have t1 := hSw.1.1 1 _ rfl; go_simp; try with_reducible rfl)
            refine tkW 6 (some 26) (v := ?_) ?_ hHeld ?_
            rotate_left
            · (intro w hSw; (try dsimp only at hSw); have g4 := hSw.2.1.1 4 _ rfl; have g5 := hSw.2.1.1 5 _ rfl; have t0 := hSw.1.1 0 _ rfl; have t1 := hSw.1.1 1 _ rfl; go_simp; try with_reducible rfl)
            refine tkW 7 (some 27) (v := ?_) ?_ hHeld ?_
            rotate_left
            · (intro w hSw; (try dsimp only at hSw); have g4 := hSw.2.1.1 4 _ rfl; have g5 := hSw.2.1.1 5 _ rfl; have t0 := hSw.1.1 0 _ rfl; have t1 := hSw.1.1 1 _ rfl; go_simp; try with_reducible rfl)
            refine tkW 8 (some 28) (v := ?_) ?_ hHeld ?_
            rotate_left
            · (intro w hSw; (try dsimp only at hSw); have g4 := hSw.2.1.1 4 _ rfl; have g5 := hSw.2.1.1 5 _ rfl; have t0 := hSw.1.1 0 _ rfl; have t1 := hSw.1.1 1 _ rfl; go_simp; try with_reducible rfl)
            refine tkW 9 (some 29) (v := ?_) ?_ hHeld ?_
            rotate_left
            · (intro w hSw; (try dsimp only at hSw); have g4 := hSw.2.1.1 4 _ rfl; have g5 := hSw.2.1.1 5 _ rfl; have t0 := hSw.1.1 0 _ rfl; have t1 := hSw.1.1 1 _ rfl; go_simp; try with_reducible rfl)
            refine tkW 10 (some 30) (v := ?_) ?_ hHeld ?_
            rotate_left
            · (intro w hSw; (try dsimp only at hSw); have g4 := hSw.2.1.1 4 _ rfl; have g5 := hSw.2.1.1 5 _ rfl; have t0 := hSw.1.1 0 _ rfl; have t1 := hSw.1.1 1 _ rfl; go_simp; try with_reducible rfl)
            refine tkW 11 (some 31) (v := ?_) ?_ hHeld ?_
            rotate_left
            · (intro w hSw; (try dsimp only at hSw); have g4 := hSw.2.1.1 4 _ rfl; have g5 := hSw.2.1.1 5 _ rfl; have t0 := hSw.1.1 0 _ rfl; have t1 := hSw.1.1 1 _ rfl; go_simp; try with_reducible rfl)
            refine tkW 12 (some 32) (v := ?_) ?_ hHeld ?_
            rotate_left
            · (intro w hSw; (try dsimp only at hSw); have g4 := hSw.2.1.1 4 _ rfl; have g5 := hSw.2.1.1 5 _ rfl; have t0 := hSw.1.1 0 _ rfl; have t1 := hSw.1.1 1 _ rfl; go_simp; try with_reducible rfl)
            refine tkW 13 (some 33) (v := ?_) ?_ hHeld ?_
            rotate_left
            · (intro w hSw; (try dsimp only at hSw); have g4 := hSw.2.1.1 4 _ rfl; have g5 := hSw.2.1.1 5 _ rfl; have t0 := hSw.1.1 0 _ rfl; have t1 := hSw.1.1 1 _ rfl; go_simp; try with_reducible rfl)
            refine wpAnyH_done (by kernel_rfl) ?_ _
            have HS1 : Hid (NSt w [.int .i64 ac, .int .i64 ar, .int .i64 sq, dv, .int .i64 kd, .int .i64 nc, .int .i64 nr, .int .i64 pc, .int .i64 pr, .int .i64 fc, .int .i64 fr, .string nm, .string vl] [.int .i64 nc, .int .i64 nr, .int .i64 pc, .int .i64 pr, .int .i64 fc, .int .i64 fr] (.slice ao D.length co) D _) := hHeld
            clear hHeld
            have y1 := HS1.out.2.1.1 4 _ rfl
            have y2 := HS1.out.2.1.1 5 _ rfl
            go_wp2_with fail
            refine (S.put_any (.slice ao D.length co) D fc fr _ HS1.out.2.2 (by omega)).mono ?_
            rintro e w2 ⟨v2, rfl, his2, hb2⟩
            have HS2 : Hid (NSt w [.int .i64 ac, .int .i64 ar, .int .i64 sq, dv, .int .i64 kd, .int .i64 nc, .int .i64 nr, .int .i64 pc, .int .i64 pr, .int .i64 fc, .int .i64 fr, .string nm, .string vl] [.int .i64 nc, .int .i64 nr, .int .i64 pc, .int .i64 pr, .int .i64 fc, .int .i64 fr] v2 (S.putL D (fc, fr)) w2) := ⟨HS1.out.1.step hb2, HS1.out.2.1.step hb2, his2⟩
            have hpl := S.putL_length D (fc, fr)
            clear his2 hb2
            go_wp2
            go_roundw
            case rel => exact ⟨3, S.putL D (fc, fr), by omega, by omega, by first | rfl | go_num, (sort_on (X := [(nc, nr), (pc, pr), (fc, fr)]) (k := 2) (by simp) HT0.out HP.out), HS2⟩
            case measure => simp [intOf]
        · have qc : (fc == ac) = false := by simp [ec]
          have qc2 : (fc != ac) = true := by simp [ec]
          have HP : Hid (namB2 ac ar (fc, fr) = true) := namB2_c hrt ec
          clear ec
          go_wp2_with fail
          refine wp_region_held_drew (S := fun W' => NSt w [.int .i64 ac, .int .i64 ar, .int .i64 sq, dv, .int .i64 kd, .int .i64 nc, .int .i64 nr, .int .i64 pc, .int .i64 pr, .int .i64 fc, .int .i64 fr, .string nm, .string vl] [.int .i64 nc, .int .i64 nr, .int .i64 pc, .int .i64 pr, .int .i64 fc, .int .i64 fr] (.slice ao D.length co) D W') (by kernel_rfl) HS.out.drew (fun hHeld => ?_)
          refine tkW 0 (some 20) (v := ?_) ?_ hHeld ?_
          rotate_left
          · (intro w hSw; (try dsimp only at hSw); have g4 := hSw.2.1.1 4 _ rfl; have g5 := hSw.2.1.1 5 _ rfl; have t0 := hSw.1.1 0 _ rfl; have t1 := hSw.1.1 1 _ rfl; go_simp; try with_reducible rfl)
          refine tkW 1 (some 21) (v := ?_) ?_ hHeld ?_
          rotate_left
          · (intro w hSw; (try dsimp only at hSw); have g4 := hSw.2.1.1 4 _ rfl; have g5 := hSw.2.1.1 5 _ rfl; have t0 := hSw.1.1 0 _ rfl; have t1 := hSw.1.1 1 _ rfl; go_simp; try with_reducible rfl)
          refine tkW 2 (some 22) (v := ?_) ?_ hHeld ?_
          rotate_left
          · (intro w hSw; (try dsimp only at hSw); have g4 := hSw.2.1.1 4 _ rfl; have g5 := hSw.2.1.1 5 _ rfl; have t0 := hSw.1.1 0 _ rfl; have t1 := hSw.1.1 1 _ rfl; go_simp; try with_reducible rfl)
          refine tkW 3 (some 23) (v := ?_) ?_ hHeld ?_
          rotate_left
          · (intro w hSw; (try dsimp only at hSw); have g4 := hSw.2.1.1 4 _ rfl; have g5 := hSw.2.1.1 5 _ rfl; have t0 := hSw.1.1 0 _ rfl; have t1 := hSw.1.1 1 _ rfl; go_simp; try with_reducible rfl)
          refine wpAnyH_ready (rs := [4]) (by kernel_rfl) (by simp) ?_
          refine AllReadyH.cons (o := ⟨some 24, _, _, _, _, _⟩) rfl (fun K hK => ?_) AllReadyH.nil
          go_simp
          have x1 := hHeld.2.1.1 4 _ rfl
          have x2 := hHeld.2.1.1 5 _ rfl
          (try go_simp)
          refine (refRight_any fc fr _).mono ?_
          rintro e w1 ⟨rfl, hw⟩
          have hb := below_of_alloc hw
          clear hw
          rw [hrt]
          (try go_wp2_with fail)
          refine hK.out _ _ (hHeld.step hb) (fun hHeld2 => ?_)
          clear hK K hHeld
          have hHeld := hHeld2
          clear hHeld2
          (try simp only [Act.put, List.setIfInBounds_toArray, List.set_cons_zero, List.set_cons_succ])
          refine tkW 5 (some 25) (v := ?_) ?_ hHeld ?_
          rotate_left
          · (intro w hSw; (try dsimp only at hSw); have g4 := hSw.2.1.1 4 _ rfl; have g5 := hSw.2.1.1 5 _ rfl; have t0 := hSw.1.1 0 _ rfl; have t1 := hSw.1.1 1 _ rfl; go_simp; try with_reducible rfl)
          refine tkW 6 (some 26) (v := ?_) ?_ hHeld ?_
          rotate_left
          · (intro w hSw; (try dsimp only at hSw); have g4 := hSw.2.1.1 4 _ rfl; have g5 := hSw.2.1.1 5 _ rfl; have t0 := hSw.1.1 0 _ rfl; have t1 := hSw.1.1 1 _ rfl; go_simp; try with_reducible rfl)
          refine tkW 7 (some 27) (v := ?_) ?_ hHeld ?_
          rotate_left
          · (intro w hSw; (try dsimp only at hSw); have g4 := hSw.2.1.1 4 _ rfl; have g5 := hSw.2.1.1 5 _ rfl; have t0 := hSw.1.1 0 _ rfl; have t1 := hSw.1.1 1 _ rfl; go_simp; try with_reducible rfl)
          refine tkW 8 (some 28) (v := ?_) ?_ hHeld ?_
          rotate_left
          · (intro w hSw; (try dsimp only at hSw); have g4 := hSw.2.1.1 4 _ rfl; have g5 := hSw.2.1.1 5 _ rfl; have t0 := hSw.1.1 0 _ rfl; have t1 := hSw.1.1 1 _ rfl; go_simp; try with_reducible rfl)
          refine tkW 9 (some 29) (v := ?_) ?_ hHeld ?_
          rotate_left
          · (intro w hSw; (try dsimp only at hSw); have g4 := hSw.2.1.1 4 _ rfl; have g5 := hSw.2.1.1 5 _ rfl; have t0 := hSw.1.1 0 _ rfl; have t1 := hSw.1.1 1 _ rfl; go_simp; try with_reducible rfl)
          refine tkW 10 (some 30) (v := ?_) ?_ hHeld ?_
          rotate_left
          · (intro w hSw; (try dsimp only at hSw); have g4 := hSw.2.1.1 4 _ rfl; have g5 := hSw.2.1.1 5 _ rfl; have t0 := hSw.1.1 0 _ rfl; have t1 := hSw.1.1 1 _ rfl; go_simp; try with_reducible rfl)
          refine tkW 11 (some 31) (v := ?_) ?_ hHeld ?_
          rotate_left
          · (intro w hSw; (try dsimp only at hSw); have g4 := hSw.2.1.1 4 _ rfl; have g5 := hSw.2.1.1 5 _ rfl; have t0 := hSw.1.1 0 _ rfl; have t1 := hSw.1.1 1 _ rfl; go_simp; try with_reducible rfl)
          refine tkW 12 (some 32) (v := ?_) ?_ hHeld ?_
          rotate_left
          · (intro w hSw; (try dsimp only at hSw); have g4 := hSw.2.1.1 4 _ rfl; have g5 := hSw.2.1.1 5 _ rfl; have t0 := hSw.1.1 0 _ rfl; have t1 := hSw.1.1 1 _ rfl; go_simp; try with_reducible rfl)
          refine tkW 13 (some 33) (v := ?_) ?_ hHeld ?_
          rotate_left
          · (intro w hSw; (try dsimp only at hSw); have g4 := hSw.2.1.1 4 _ rfl; have g5 := hSw.2.1.1 5 _ rfl; have t0 := hSw.1.1 0 _ rfl; have t1 := hSw.1.1 1 _ rfl; go_simp; try with_reducible rfl)
          refine wpAnyH_done (by kernel_rfl) ?_ _
          have HS1 : Hid (NSt w [.int .i64 ac, .int .i64 ar, .int .i64 sq, dv, .int .i64 kd, .int .i64 nc, .int .i64 nr, .int .i64 pc, .int .i64 pr, .int .i64 fc, .int .i64 fr, .string nm, .string vl] [.int .i64 nc, .int .i64 nr, .int .i64 pc, .int .i64 pr, .int .i64 fc, .int .i64 fr] (.slice ao D.length co) D _) := hHeld
          clear hHeld
          have y1 := HS1.out.2.1.1 4 _ rfl
          have y2 := HS1.out.2.1.1 5 _ rfl
          go_wp2_with fail
          refine (S.put_any (.slice ao D.length co) D fc fr _ HS1.out.2.2 (by omega)).mono ?_
          rintro e w2 ⟨v2, rfl, his2, hb2⟩
          have HS2 : Hid (NSt w [.int .i64 ac, .int .i64 ar, .int .i64 sq, dv, .int .i64 kd, .int .i64 nc, .int .i64 nr, .int .i64 pc, .int .i64 pr, .int .i64 fc, .int .i64 fr, .string nm, .string vl] [.int .i64 nc, .int .i64 nr, .int .i64 pc, .int .i64 pr, .int .i64 fc, .int .i64 fr] v2 (S.putL D (fc, fr)) w2) := ⟨HS1.out.1.step hb2, HS1.out.2.1.step hb2, his2⟩
          have hpl := S.putL_length D (fc, fr)
          clear his2 hb2
          go_wp2
          go_roundw
          case rel => exact ⟨3, S.putL D (fc, fr), by omega, by omega, by first | rfl | go_num, (sort_on (X := [(nc, nr), (pc, pr), (fc, fr)]) (k := 2) (by simp) HT0.out HP.out), HS2⟩
          case measure => simp [intOf]
    · have HE : Hid (D = S.sortL (namesL ⟨ac, ar, sq, ds, kd, nc, nr, pc, pr, fc, fr, nm, vl⟩)) := by show _ = _; rw [HN0.out]; exact HT.out
      have hi1 : ¬ (3 : Int) < 3 := by omega
      go_wp2
      go_ret
      exact ⟨_, rfl, HE.out ▸ HS.out.2.2, HS.out.1.2.2⟩

end Go.Proofs.Ythndgmnckpimmaa

namespace Go.Proofs.Ythndgmnckpimmaa.S
open Go.RowKit
set_option linter.unusedVariables false
set_option linter.unusedSimpArgs false

def ltP (x y : Int × Int) : Prop := x.1 < y.1 ∨ x.1 = y.1 ∧ x.2 < y.2
theorem lessS_ltP (x y : Int × Int) : lessS x.1 x.2 y.1 y.2 = true ↔ ltP x y := by simp [lessS, ltP]
theorem lessS_nltP (x y : Int × Int) : lessS x.1 x.2 y.1 y.2 = false ↔ ¬ ltP x y := by simp [lessS, ltP]
def Ups (d : List (Int × Int)) : Prop := d.Pairwise ltP
theorem ltP_tr {x y z : Int × Int} (h1 : ltP x y) (h2 : ltP y z) : ltP x z := by unfold ltP at *; omega
theorem ltP_tot {x y : Int × Int} (h1 : ¬ ltP x y) (h2 : x ≠ y) : ltP y x := by
  unfold ltP at *
  have : ¬ (x.1 = y.1 ∧ x.2 = y.2) := fun h => h2 (Prod.ext h.1 h.2)
  omega
theorem putTo_char (s : Int × Int) (d : List (Int × Int)) (hd : Ups d) (hs : s ∉ d) : ∀ k, k ≤ d.length →
    ((putTo s (d.take k)).2 = false ∧ (putTo s (d.take k)).1 = d.take k ∧ ∀ x ∈ d.take k, ltP x s) ∨
    ((putTo s (d.take k)).2 = true ∧ Ups (putTo s (d.take k)).1 ∧ (∀ x, x ∈ (putTo s (d.take k)).1 ↔ x ∈ d.take k ∨ x = s) ∧ ∃ y ∈ d.take k, ltP s y) := by
  intro k
  induction k with
  | zero => intro _; left; simp [putTo]
  | succ k ih =>
    intro h
    have hm : d[k] ∈ d := List.getElem_mem _
    have hsk : s ≠ d[k] := fun e => hs (by rw [e]; exact hm)
    have hup : ∀ x, x ∈ d.take k → ltP x d[k] := by
      intro x hx
      obtain ⟨i, hi, rfl⟩ := List.mem_take_iff_getElem.1 hx
      exact List.pairwise_iff_getElem.1 hd i k (by omega) (by omega) (by omega)
    have hups : Ups (d.take k) := List.Pairwise.sublist (List.take_sublist _ _) hd
    rw [putTo_next s d k (by omega), List.take_succ_eq_append_getElem (by omega : k < d.length)]
    rcases ih (by omega) with ⟨e1, e2, e3⟩ | ⟨e1, e2, e3, y0, hy0, hy1⟩
    · by_cases hl : lessS s.1 s.2 d[k].1 d[k].2 = true
      · right
        have hlt := (lessS_ltP s d[k]).1 hl
        unfold putStep
        rw [if_pos ⟨e1, hl⟩, e2]
        refine ⟨rfl, ?_, fun x => by simp only [List.mem_append, List.mem_singleton]; exact or_right_comm, d[k], List.mem_append_right _ (List.mem_singleton.2 rfl), hlt⟩
        unfold Ups at hups ⊢
        simp only [List.append_assoc]
        rw [List.pairwise_append]
        refine ⟨hups, by simp [hlt], fun x hx y hy => ?_⟩
        simp at hy
        rcases hy with rfl | rfl
        · exact e3 x hx
        · exact hup x hx
      · left
        unfold putStep
        rw [if_neg (fun hc => hl hc.2)]
        refine ⟨e1, by rw [e2], fun x hx => ?_⟩
        rw [List.mem_append] at hx
        rcases hx with hx | hx
        · exact e3 x hx
        · simp at hx
          subst hx
          exact ltP_tot (fun hc => hl ((lessS_ltP s _).2 hc)) hsk
    · right
      unfold putStep
      rw [if_neg (fun hc => by rw [e1] at hc; cases hc.1)]
      refine ⟨e1, ?_, fun x => by rw [List.mem_append, List.mem_append, e3]; exact or_right_comm, y0, List.mem_append_left _ hy0, hy1⟩
      unfold Ups at e2 ⊢
      rw [List.pairwise_append]
      refine ⟨e2, by simp, fun x hx y hy => ?_⟩
      simp at hy
      subst hy
      rcases (e3 x).1 hx with hx | hx
      · exact hup x hx
      · rw [hx]
        exact ltP_tr hy1 (hup y0 hy0)
theorem putL_ups (s : Int × Int) (d : List (Int × Int)) (hd : Ups d) : Ups (putL d s) ∧ ∀ x, x ∈ putL d s ↔ x ∈ d ∨ x = s := by
  unfold putL
  split
  · rename_i hs
    refine ⟨hd, fun x => ⟨.inl, ?_⟩⟩
    rintro (h | rfl)
    · exact h
    · exact hs
  · rename_i hs
    have h := putTo_char s d hd hs d.length (Nat.le_refl _)
    rw [List.take_length] at h
    rcases h with ⟨e1, e2, e3⟩ | ⟨e1, e2, e3, _⟩
    · rw [if_neg (by rw [e1]; simp), e2]
      refine ⟨?_, fun x => by simp⟩
      unfold Ups at hd ⊢
      rw [List.pairwise_append]
      refine ⟨hd, by simp, fun x hx y hy => ?_⟩
      simp at hy
      subst hy
      exact e3 x hx
    · rw [if_pos e1]
      exact ⟨e2, e3⟩
theorem sortL_ups (l : List (Int × Int)) : ∀ k, k ≤ l.length → Ups (sortL (l.take k)) ∧ ∀ x, x ∈ sortL (l.take k) ↔ x ∈ l.take k := by
  intro k
  induction k with
  | zero => intro _; simp [sortL, Ups]
  | succ k ih =>
    intro h
    obtain ⟨h1, h2⟩ := ih (by omega)
    rw [sortL_next l k (by omega), List.take_succ_eq_append_getElem (by omega : k < l.length)]
    have h3 := putL_ups l[k] _ h1
    refine ⟨h3.1, fun x => ?_⟩
    rw [h3.2, h2, List.mem_append]
    simp

end Go.Proofs.Ythndgmnckpimmaa.S

namespace Go.Proofs.Ythndgmnckpimmaa
open Go.RowKit
set_option linter.unusedVariables false
set_option linter.unusedSimpArgs false

def BelowH (w W : World) : Prop := Below w.heap.size w W
theorem BelowH.below {w W W' : World} (h : BelowH w W) (hb : Below W.heap.size W W') : BelowH w W' := Below.trans h (hb.mono (Below.size h))
theorem all_take {α : Type} {p : α → Bool} {l : List α} {k : Nat} (hk : k < l.length) (h : (l.take k).all p = true) (h2 : p l[k] = true) : (l.take (k + 1)).all p = true := by
  rw [List.take_succ_eq_append_getElem hk, List.all_append, h]; simp [h2]
theorem all_nat {α : Type} {p : α → Bool} {l : List α} {k : Nat} (hk : k < l.length) (h2 : p l[k] = false) : l.all p = false := by
  rw [Bool.eq_false_iff]
  intro h
  have := List.all_eq_true.1 h l[k] (List.getElem_mem hk)
  rw [h2] at this; cases this
theorem sort_mem (l : List (Int × Int)) (x : Int × Int) : x ∈ S.sortL l ↔ x ∈ l := by
  have := (S.sortL_ups l _ (Nat.le_refl _)).2 x
  rwa [List.take_length] at this
theorem all_sort (l : List (Int × Int)) (p : Int × Int → Bool) : (S.sortL l).all p = l.all p := by
  rw [Bool.eq_iff_iff]
  simp only [List.all_eq_true]
  exact ⟨fun h x hx => h x ((sort_mem l x).2 hx), fun h x hx => h x ((sort_mem l x).1 hx)⟩
theorem names_len (c : Ch) : (S.sortL (namesL c)).length ≤ 3 := by
  have h := S.sortL_length (namesL c) (namesL c).length (Nat.le_refl _)
  rw [List.take_length] at h
  have h1 : (namesL c).length ≤ 3 := by
    have := List.length_filter_le (namB2 c.ac c.ar) [(c.nc, c.nr), (c.pc, c.pr), (c.fc, c.fr)]
    exact this
  omega

end Go.Proofs.Ythndgmnckpimmaa

namespace Go.Proofs.Ythndgmnckpimmaa
open Go.RowKit
set_option linter.unusedVariables false
set_option linter.unusedSimpArgs false

set_option maxRecDepth 100000 in
set_option maxHeartbeats 8000000 in
theorem refBehind_any (v : Value) (L : List Ch) (ac ar sq : Int) (dv : Value) (kd nc nr pc pr fc fr : Int) (nm vl : ByteArray) (ds : List Int) (w : World) (h1 : IsH w v L) (hd : IsI w dv ds) :
    Calls Try.prog 61 #[v, .agg #[.int .i64 ac, .int .i64 ar, .int .i64 sq, dv, .int .i64 kd, .int .i64 nc, .int .i64 nr, .int .i64 pc, .int .i64 pr, .int .i64 fc, .int .i64 fr, .string nm, .string vl]] w fun e w' => e = .returned (.bool (behindR L (⟨ac, ar, sq, ds, kd, nc, nr, pc, pr, fc, fr, nm, vl⟩ : Ch))) ∧ Below w.heap.size w w' := by
  have HH : Hid (IsH w v L) := h1
  obtain ⟨a1, c1, rfl, hc1, hl1, r1⟩ := h1
  have HR : Hid (L = [] ∨ ∃ b o, a1 = some ⟨b, o, none⟩ ∧ ChsAt w b o L) := r1
  have HIc : Hid (IsI w dv ds) := hd
  obtain ⟨a0, c0, rfl, hc0, hl0, g0⟩ := hd
  have HG : Hid (ds = [] ∨ ∃ b o, a0 = some ⟨b, o, none⟩ ∧ IntsAt w b o ds) := g0
  have K0 := KeptC.start w [.int .i64 ac, .int .i64 ar, .int .i64 sq, .slice a0 ds.length c0, .int .i64 kd, .int .i64 nc, .int .i64 nr, .int .i64 pc, .int .i64 pr, .int .i64 fc, .int .i64 fr, .string nm, .string vl] 35
  obtain ⟨W0, eW⟩ : ∃ X, X = w.alloc (.cells #[.int .i64 ac, .int .i64 ar, .int .i64 sq, .slice a0 ds.length c0, .int .i64 kd, .int .i64 nc, .int .i64 nr, .int .i64 pc, .int .i64 pr, .int .i64 fc, .int .i64 fr, .string nm, .string vl] 35) := ⟨_, rfl⟩
  have HK : Hid (KeptC w w.heap.size [.int .i64 ac, .int .i64 ar, .int .i64 sq, .slice a0 ds.length c0, .int .i64 kd, .int .i64 nc, .int .i64 nr, .int .i64 pc, .int .i64 pr, .int .i64 fc, .int .i64 fr, .string nm, .string vl] W0) := by rw [eW]; exact K0
  have HE : Hid (behindR L (⟨ac, ar, sq, ds, kd, nc, nr, pc, pr, fc, fr, nm, vl⟩ : Ch) = ((List.range ds.length).all (depsR L (⟨ac, ar, sq, ds, kd, nc, nr, pc, pr, fc, fr, nm, vl⟩ : Ch)) && (namesL (⟨ac, ar, sq, ds, kd, nc, nr, pc, pr, fc, fr, nm, vl⟩ : Ch)).all (namsR L (⟨ac, ar, sq, ds, kd, nc, nr, pc, pr, fc, fr, nm, vl⟩ : Ch)))) := rfl
  clear K0 r1 g0
  go_enter Try.func61, Try.ntmps61
  go_wp2
  rw [← eW]
  clear eW
  go_loopw [5] (fun iv wr => ∃ k : Nat, k ≤ ds.length ∧ iv = .int .i64 (k : Int) ∧ Hid ((List.range k).all (depsR L (⟨ac, ar, sq, ds, kd, nc, nr, pc, pr, fc, fr, nm, vl⟩ : Ch)) = true) ∧ Hid (KeptC w w.heap.size [.int .i64 ac, .int .i64 ar, .int .i64 sq, .slice a0 ds.length c0, .int .i64 kd, .int .i64 nc, .int .i64 nr, .int .i64 pc, .int .i64 pr, .int .i64 fc, .int .i64 fr, .string nm, .string vl] wr)) (fun iv _ => ds.length - (intOf iv).toNat)
  case atStart => exact ⟨0, Nat.zero_le _, rfl, rfl, HK⟩
  case round =>
    obtain ⟨k, hk, rfl, HT, HK2⟩ := hrel
    obtain ⟨k_0, k_1, k_2, k_3, k_4, k_5, k_6, k_7, k_8, k_9, k_10, k_11, k_12⟩ := HK2.out.all
    by_cases hlt : k < ds.length
    · obtain ⟨b, o, rfl, g⟩ := HG.out.resolve_left (by intro e; subst e; simp at hlt)
      have x1 := (g.below HK2.out.2.2) k hlt
      rw [← getD_at hlt] at x1
      clear g
      have HN1 : Hid (depsR L (⟨ac, ar, sq, ds, kd, nc, nr, pc, pr, fc, fr, nm, vl⟩ : Ch) k = true → (List.range (k + 1)).all (depsR L (⟨ac, ar, sq, ds, kd, nc, nr, pc, pr, fc, fr, nm, vl⟩ : Ch)) = true) := fun hx => all_succ HT.out hx
      have HN2 : Hid (depsR L (⟨ac, ar, sq, ds, kd, nc, nr, pc, pr, fc, fr, nm, vl⟩ : Ch) k = false → behindR L (⟨ac, ar, sq, ds, kd, nc, nr, pc, pr, fc, fr, nm, vl⟩ : Ch) = false) := fun hx => by rw [HE.out, all_not hlt hx]; rfl
      have HP0 : Hid (depsR L (⟨ac, ar, sq, ds, kd, nc, nr, pc, pr, fc, fr, nm, vl⟩ : Ch) k = (decide (ds.getD k 0 = 0) || (match ownC L k (ds.getD k 0) with | none => false | some d => ltB d (⟨ac, ar, sq, ds, kd, nc, nr, pc, pr, fc, fr, nm, vl⟩ : Ch)))) := rfl
      generalize ds.getD k 0 = n0 at *
      have k1 : (k : Int) < (ds.length : Int) := by omega
      have k0 : (0 : Int) ≤ (k : Int) := by omega
      by_cases hn : n0 = 0
      · subst hn
        have HN3 : Hid ((List.range (k + 1)).all (depsR L (⟨ac, ar, sq, ds, kd, nc, nr, pc, pr, fc, fr, nm, vl⟩ : Ch)) = true) := HN1.out (by rw [HP0.out]; rfl)
        clear HP0 HN1 HN2
        go_wp2
        go_roundw
        case rel => exact ⟨k + 1, by omega, by first | rfl | go_num, HN3, HK2⟩
        case measure => simp [intOf]; omega
      · have hn2 : (n0 == 0) = false := by rw [beq_eq_false_iff_ne]; exact hn
        have HP1 : Hid (depsR L (⟨ac, ar, sq, ds, kd, nc, nr, pc, pr, fc, fr, nm, vl⟩ : Ch) k = (match ownC L k n0 with | none => false | some d => ltB d (⟨ac, ar, sq, ds, kd, nc, nr, pc, pr, fc, fr, nm, vl⟩ : Ch))) := by
          show _ = _
          rw [HP0.out, decide_eq_false hn]; rfl
        clear HP0 hn
        go_wp2_with fail
        refine (refOwn_any _ L (k : Int) n0 _ (HH.out.below HK2.out.2.2)).mono ?_
        rintro e W1 ⟨rfl, hb1⟩
        replace HK2 : Hid (KeptC w w.heap.size [.int .i64 ac, .int .i64 ar, .int .i64 sq, .slice (some ⟨b, o, none⟩) ds.length c0, .int .i64 kd, .int .i64 nc, .int .i64 nr, .int .i64 pc, .int .i64 pr, .int .i64 fc, .int .i64 fr, .string nm, .string vl] W1) := HK2.out.step hb1
        clear x1 k_0 k_1 k_2 k_3 k_4 k_5 k_6 k_7 k_8 k_9 k_10 k_11 k_12 hb1
        rcases ownP_or L (k : Int) n0 with ⟨e1, e2⟩ | ⟨j, hj, e1, e2⟩
        · rw [e1]
          have HF : Hid (depsR L (⟨ac, ar, sq, ds, kd, nc, nr, pc, pr, fc, fr, nm, vl⟩ : Ch) k = false) := by
            show _ = _
            rw [HP1.out, e2]
          clear e1 e2 HP1 HN1
          go_upto_region 6 with fail
          refine wp_region_held_drew (S := fun W' => KeptC w w.heap.size [.int .i64 ac, .int .i64 ar, .int .i64 sq, .slice (some ⟨b, o, none⟩) ds.length c0, .int .i64 kd, .int .i64 nc, .int .i64 nr, .int .i64 pc, .int .i64 pr, .int .i64 fc, .int .i64 fr, .string nm, .string vl] W') (by kernel_rfl) HK2.out.drew (fun hHeld => ?_)
          obtain ⟨Ua3u0, eW⟩ : ∃ X, X = W1.drew := ⟨_, rfl⟩
          have hb : Below W1.heap.size W1 Ua3u0 := by rw [eW]; exact (Below.refl _ _).drew
          rw [← eW] at hHeld ⊢
          clear eW hb
          refine tkW 0 (some 31) (v := ?_) ?_ hHeld ?_
          rotate_left
          · (intro w _; go_simp; try with_reducible rfl)
          refine tkW 1 (some 32) (v := ?_) ?_ hHeld ?_
          rotate_left
          · (intro w hSw; (try dsimp only at hSw); have hk := hSw; obtain ⟨k_0, k_1, k_2, k_3, k_4, k_5, k_6, k_7, k_8, k_9, k_10, k_11, k_12⟩ := hk.all; go_simp; try with_reducible rfl)
          refine tkW 2 (some 33) (v := ?_) ?_ hHeld ?_
          rotate_left
          · (intro w _; go_simp; try with_reducible rfl)
          refine tkU 3 (some 34) hHeld ?_
          refine tkU 4 (some 35) hHeld ?_
          refine tkU 5 (some 36) hHeld ?_
          refine tkU 6 (some 37) hHeld ?_
          refine tkU 7 (some 38) hHeld ?_
          refine tkU 8 (some 39) hHeld ?_
          refine tkU 9 (some 40) hHeld ?_
          refine tkU 10 (some 41) hHeld ?_
          refine tkU 11 (some 42) hHeld ?_
          refine tkW 12 (some 43) (v := ?_) ?_ hHeld ?_
          rotate_left
          · (intro w _; go_simp; try with_reducible rfl)
          refine wpAnyH_done (by kernel_rfl) ?_ _
          have HK3 : Hid (KeptC w w.heap.size [.int .i64 ac, .int .i64 ar, .int .i64 sq, .slice (some ⟨b, o, none⟩) ds.length c0, .int .i64 kd, .int .i64 nc, .int .i64 nr, .int .i64 pc, .int .i64 pr, .int .i64 fc, .int .i64 fr, .string nm, .string vl] Ua3u0) := hHeld
          clear hHeld
          go_wp2
          go_ret
          exact ⟨ret_bool (HN2.out HF.out).symm, HK3.out.2.2⟩
        · rw [e1]
          obtain ⟨b1, o1, rfl, g1⟩ := HR.out.resolve_left (by intro e; subst e; simp at hj)
          obtain ⟨le, hle⟩ : ∃ x, x = lessS L[j].ac L[j].ar ac ar := ⟨_, rfl⟩
          have HLE : Hid (depsR L (⟨ac, ar, sq, ds, kd, nc, nr, pc, pr, fc, fr, nm, vl⟩ : Ch) k = le) := by
            show _ = _
            rw [HP1.out, e2, hle]; rfl
          have hp : ∀ W', Below w.heap.size w W' → W'.cell? ⟨b1, o1 + j * 13, none⟩ = some (.int .i64 L[j].ac) ∧ W'.cell? ⟨b1, o1 + j * 13 + 1, none⟩ = some (.int .i64 L[j].ar) := fun W' hb => by
            obtain ⟨_, _, _, _, z0, z1, _⟩ := ((g1.below hb) j hj).all
            exact ⟨z0, z1⟩
          generalize L[j].ac = pa at *
          generalize L[j].ar = pq at *
          have HLq : Hid (le = lessS pa pq ac ar) := hle
          have HP : Hid (∀ W', Below w.heap.size w W' → W'.cell? ⟨b1, o1 + j * 13, none⟩ = some (.int .i64 pa) ∧ W'.cell? ⟨b1, o1 + j * 13 + 1, none⟩ = some (.int .i64 pq)) := hp
          have j1 : (j : Int) < (L.length : Int) := by omega
          have j0 : (0 : Int) ≤ (j : Int) := by omega
          have j2 : decide ((j : Int) < 0) = false := decide_eq_false (by omega)
          clear e1 e2 HP1 hle hp g1
          go_upto_region 6 with fail
          refine wp_region_held_drew (S := fun W' => KeptC w w.heap.size [.int .i64 ac, .int .i64 ar, .int .i64 sq, .slice (some ⟨b, o, none⟩) ds.length c0, .int .i64 kd, .int .i64 nc, .int .i64 nr, .int .i64 pc, .int .i64 pr, .int .i64 fc, .int .i64 fr, .string nm, .string vl] W') (by kernel_rfl) HK2.out.drew (fun hHeld => ?_)
          obtain ⟨Ub4u0, eW⟩ : ∃ X, X = W1.drew := ⟨_, rfl⟩
          have hb : Below W1.heap.size W1 Ub4u0 := by rw [eW]; exact (Below.refl _ _).drew
          rw [← eW] at hHeld ⊢
          clear eW hb
          refine tkW 0 (some 31) (v := ?_) ?_ hHeld ?_
          rotate_left
          · (intro w _; go_simp; try with_reducible rfl)
          refine tkW 1 (some 32) (v := ?_) ?_ hHeld ?_
          rotate_left
          · (intro w hSw; (try dsimp only at hSw); have hk := hSw; obtain ⟨k_0, k_1, k_2, k_3, k_4, k_5, k_6, k_7, k_8, k_9, k_10, k_11, k_12⟩ := hk.all; obtain ⟨p_1, p_2⟩ := HP.out _ hk.2.2; go_simp; try with_reducible rfl)
          refine tkW 2 (some 33) (v := ?_) ?_ hHeld ?_
          rotate_left
          · (intro w _; go_simp; try with_reducible rfl)
          refine tkW 3 (some 34) (v := ?_) ?_ hHeld ?_
          rotate_left
          · (intro w _; go_simp; try with_reducible rfl)
          refine tkW 4 (some 35) (v := ?_) ?_ hHeld ?_
          rotate_left
          · (intro w _; go_simp; try with_reducible rfl)
          refine tkW 5 (some 36) (v := ?_) ?_ hHeld ?_
          rotate_left
          · (intro w hSw; (try dsimp only at hSw); have hk := hSw; obtain ⟨k_0, k_1, k_2, k_3, k_4, k_5, k_6, k_7, k_8, k_9, k_10, k_11, k_12⟩ := hk.all; obtain ⟨p_1, p_2⟩ := HP.out _ hk.2.2; go_simp; try with_reducible rfl)
          refine tkW 6 (some 37) (v := ?_) ?_ hHeld ?_
          rotate_left
          · (intro w _; go_simp; try with_reducible rfl)
          refine tkW 7 (some 38) (v := ?_) ?_ hHeld ?_
          rotate_left
          · (intro w hSw; (try dsimp only at hSw); have hk := hSw; obtain ⟨k_0, k_1, k_2, k_3, k_4, k_5, k_6, k_7, k_8, k_9, k_10, k_11, k_12⟩ := hk.all; obtain ⟨p_1, p_2⟩ := HP.out _ hk.2.2; go_simp; try with_reducible rfl)
          refine tkW 8 (some 39) (v := ?_) ?_ hHeld ?_
          rotate_left
          · (intro w _; go_simp; try with_reducible rfl)
          refine tkW 9 (some 40) (v := ?_) ?_ hHeld ?_
          rotate_left
          · (intro w hSw; (try dsimp only at hSw); have hk := hSw; obtain ⟨k_0, k_1, k_2, k_3, k_4, k_5, k_6, k_7, k_8, k_9, k_10, k_11, k_12⟩ := hk.all; obtain ⟨p_1, p_2⟩ := HP.out _ hk.2.2; go_simp; try with_reducible rfl)
          refine wpAnyH_ready (rs := [10]) (by kernel_rfl) (by simp) ?_
          refine AllReadyH.cons (o := ⟨some 41, _, _, _, _, _⟩) rfl (fun K hK => ?_) AllReadyH.nil
          go_simp
          refine (refLess_bel pa pq ac ar _).mono ?_
          rintro e Ub4u1 ⟨ele, hb⟩
          rw [← HLq.out] at ele
          subst ele
          (try go_wp2_with fail)
          refine hK.out _ _ (hHeld.step hb) (fun hHeld2 => ?_)
          clear hK K hHeld
          have hHeld := hHeld2
          clear hHeld2
          (try simp only [Act.put, List.setIfInBounds_toArray, List.set_cons_zero, List.set_cons_succ])
          clear hb
          refine tkW 11 (some 42) (v := ?_) ?_ hHeld ?_
          rotate_left
          · (intro w _; go_simp; try with_reducible rfl)
          refine tkW 12 (some 43) (v := ?_) ?_ hHeld ?_
          rotate_left
          · (intro w _; go_simp; try with_reducible rfl)
          refine wpAnyH_done (by kernel_rfl) ?_ _
          have HK3 : Hid (KeptC w w.heap.size [.int .i64 ac, .int .i64 ar, .int .i64 sq, .slice (some ⟨b, o, none⟩) ds.length c0, .int .i64 kd, .int .i64 nc, .int .i64 nr, .int .i64 pc, .int .i64 pr, .int .i64 fc, .int .i64 fr, .string nm, .string vl] Ub4u1) := hHeld
          clear hHeld
          cases le
          · go_wp2
            go_ret
            exact ⟨ret_bool (HN2.out HLE.out).symm, HK3.out.2.2⟩
          · have HN3 := HN1.out HLE.out
            clear HN1 HN2
            go_wp2
            go_roundw
            case rel => exact ⟨k + 1, by omega, by first | rfl | go_num, HN3, HK3⟩
            case measure => simp [intOf]; omega
    · obtain rfl : k = ds.length := by omega
      go_wp2_with fail
      refine (refNames_any ac ar sq (.slice a0 ds.length c0) kd nc nr pc pr fc fr nm vl ds _).mono ?_
      rintro e W6 ⟨v6, rfl, hs6, hb6⟩
      have HK6 : Hid (KeptC w w.heap.size [.int .i64 ac, .int .i64 ar, .int .i64 sq, .slice a0 ds.length c0, .int .i64 kd, .int .i64 nc, .int .i64 nr, .int .i64 pc, .int .i64 pr, .int .i64 fc, .int .i64 fr, .string nm, .string vl] W6) := HK2.out.step hb6
      obtain ⟨N, eN⟩ : ∃ N, N = S.sortL (namesL (⟨ac, ar, sq, ds, kd, nc, nr, pc, pr, fc, fr, nm, vl⟩ : Ch)) := ⟨_, rfl⟩
      rw [← eN] at hs6
      have HEN : Hid (behindR L (⟨ac, ar, sq, ds, kd, nc, nr, pc, pr, fc, fr, nm, vl⟩ : Ch) = N.all (namsR L (⟨ac, ar, sq, ds, kd, nc, nr, pc, pr, fc, fr, nm, vl⟩ : Ch))) := by
        show _ = _
        rw [HE.out, HT.out, eN, all_sort]; rfl
      obtain ⟨a6, c6, rfl, hc6, hl6, r6⟩ := hs6
      have R6 : Hid (N = [] ∨ ∃ b o, a6 = some ⟨b, o, none⟩ ∧ S.RowAt W6 b o N) := r6
      have HB6 : Hid (BelowH W6 W6) := Below.refl _ _
      clear r6 eN hb6 hlt hk HT HE HK2 k_0 k_1 k_2 k_3 k_4 k_5 k_6 k_7 k_8 k_9 k_10 k_11 k_12
      go_wp2
      go_loopw [8] (fun jv wq => ∃ m : Nat, m ≤ N.length ∧ jv = .int .i64 (m : Int) ∧ Hid ((N.take m).all (namsR L (⟨ac, ar, sq, ds, kd, nc, nr, pc, pr, fc, fr, nm, vl⟩ : Ch)) = true) ∧ Hid (KeptC w w.heap.size [.int .i64 ac, .int .i64 ar, .int .i64 sq, .slice a0 ds.length c0, .int .i64 kd, .int .i64 nc, .int .i64 nr, .int .i64 pc, .int .i64 pr, .int .i64 fc, .int .i64 fr, .string nm, .string vl] wq) ∧ Hid (BelowH W6 wq)) (fun jv _ => N.length - (intOf jv).toNat)
      case atStart => exact ⟨0, Nat.zero_le _, rfl, rfl, HK6, HB6⟩
      case round =>
        rename World => wq
        obtain ⟨m, hm, rfl, HT, HK2, HBq⟩ := hrel
        obtain ⟨k_0, k_1, k_2, k_3, k_4, k_5, k_6, k_7, k_8, k_9, k_10, k_11, k_12⟩ := HK2.out.all
        by_cases hml : m < N.length
        · obtain ⟨b6, o6, rfl, g6⟩ := R6.out.resolve_left (by intro e; subst e; simp at hml)
          obtain ⟨y1, y2⟩ := (g6.below HBq.out) m hml
          have HNt : Hid (namsR L (⟨ac, ar, sq, ds, kd, nc, nr, pc, pr, fc, fr, nm, vl⟩ : Ch) N[m] = true → (N.take (m + 1)).all (namsR L (⟨ac, ar, sq, ds, kd, nc, nr, pc, pr, fc, fr, nm, vl⟩ : Ch)) = true) := fun h => all_take hml HT.out h
          have HNf : Hid (namsR L (⟨ac, ar, sq, ds, kd, nc, nr, pc, pr, fc, fr, nm, vl⟩ : Ch) N[m] = false → behindR L (⟨ac, ar, sq, ds, kd, nc, nr, pc, pr, fc, fr, nm, vl⟩ : Ch) = false) := fun h => by rw [HEN.out, all_nat hml h]
          have HNv : Hid (namsR L (⟨ac, ar, sq, ds, kd, nc, nr, pc, pr, fc, fr, nm, vl⟩ : Ch) N[m] = (match getL L N[m].1 N[m].2 with | none => false | some d => withinB d ds)) := rfl
          generalize namsR L (⟨ac, ar, sq, ds, kd, nc, nr, pc, pr, fc, fr, nm, vl⟩ : Ch) N[m] = nv at *
          generalize N[m].1 = n1 at *
          generalize N[m].2 = n2 at *
          have m1 : (m : Int) < (N.length : Int) := by omega
          have m0 : (0 : Int) ≤ (m : Int) := by omega
          clear g6
          go_wp2_with fail
          refine (find_any _ L n1 n2 _ (HH.out.below HK2.out.2.2)).mono ?_
          rintro e W1 ⟨rfl, hb1⟩
          replace HK2 : Hid (KeptC w w.heap.size [.int .i64 ac, .int .i64 ar, .int .i64 sq, .slice a0 ds.length c0, .int .i64 kd, .int .i64 nc, .int .i64 nr, .int .i64 pc, .int .i64 pr, .int .i64 fc, .int .i64 fr, .string nm, .string vl] W1) := HK2.out.step hb1
          replace HBq : Hid (BelowH W6 W1) := HBq.out.below hb1
          clear y1 y2 hb1 k_0 k_1 k_2 k_3 k_4 k_5 k_6 k_7 k_8 k_9 k_10 k_11 k_12
          rcases findI_or L n1 n2 with ⟨e1, e2⟩ | ⟨j, hj, e1, e2⟩
          · rw [e1]
            have HF : Hid (nv = false) := by
              show _ = _
              rw [HNv.out, e2]
            clear e1 e2 HNv HNt
            go_upto_region 13 with fail
            refine wp_region_held_drew (S := fun W' => KeptC w w.heap.size [.int .i64 ac, .int .i64 ar, .int .i64 sq, .slice a0 ds.length c0, .int .i64 kd, .int .i64 nc, .int .i64 nr, .int .i64 pc, .int .i64 pr, .int .i64 fc, .int .i64 fr, .string nm, .string vl] W') (by kernel_rfl) HK2.out.drew (fun hHeld => ?_)
            obtain ⟨Uc5u0, eW⟩ : ∃ X, X = W1.drew := ⟨_, rfl⟩
            have hb : Below W1.heap.size W1 Uc5u0 := by rw [eW]; exact (Below.refl _ _).drew
            rw [← eW] at hHeld ⊢
            clear eW hb
            refine tkW 0 (some 58) (v := ?_) ?_ hHeld ?_
            rotate_left
            · (intro w _; go_simp; try with_reducible rfl)
            refine tkW 1 (some 59) (v := ?_) ?_ hHeld ?_
            rotate_left
            · (intro w hSw; (try dsimp only at hSw); have hk := hSw; obtain ⟨k_0, k_1, k_2, k_3, k_4, k_5, k_6, k_7, k_8, k_9, k_10, k_11, k_12⟩ := hk.all; go_simp; try with_reducible rfl)
            refine tkW 2 (some 60) (v := ?_) ?_ hHeld ?_
            rotate_left
            · (intro w _; go_simp; try with_reducible rfl)
            refine tkU 3 (some 61) hHeld ?_
            refine tkU 4 (some 62) hHeld ?_
            refine tkU 5 (some 63) hHeld ?_
            refine tkU 6 (some 64) hHeld ?_
            refine tkU 7 (some 65) hHeld ?_
            refine tkU 8 (some 66) hHeld ?_
            refine tkU 9 (some 67) hHeld ?_
            refine tkU 10 (some 68) hHeld ?_
            refine tkW 11 (some 69) (v := ?_) ?_ hHeld ?_
            rotate_left
            · (intro w _; go_simp; try with_reducible rfl)
            refine wpAnyH_done (by kernel_rfl) ?_ _
            have HK3 : Hid (KeptC w w.heap.size [.int .i64 ac, .int .i64 ar, .int .i64 sq, .slice a0 ds.length c0, .int .i64 kd, .int .i64 nc, .int .i64 nr, .int .i64 pc, .int .i64 pr, .int .i64 fc, .int .i64 fr, .string nm, .string vl] Uc5u0) := hHeld
            clear hHeld
            go_wp2
            go_ret
            exact ⟨ret_bool (HNf.out HF.out).symm, HK3.out.2.2⟩
          · rw [e1]
            obtain ⟨b1, o1, rfl, g1⟩ := HR.out.resolve_left (by intro e; subst e; simp at hj)
            have hV : nv = withinB L[j] ds := by rw [HNv.out, e2]
            obtain ⟨a2, e2', _, _, z⟩ := (g1 j hj).all
            have hp : ∀ W', Below w.heap.size w W' → W'.cell? ⟨b1, o1 + j * 13, none⟩ = some (.int .i64 L[j].ac) ∧ W'.cell? ⟨b1, o1 + j * 13 + 1, none⟩ = some (.int .i64 L[j].ar) ∧ W'.cell? ⟨b1, o1 + j * 13 + 2, none⟩ = some (.int .i64 L[j].seq) ∧ W'.cell? ⟨b1, o1 + j * 13 + 3, none⟩ = some (.slice a2 L[j].deps.length e2') ∧ W'.cell? ⟨b1, o1 + j * 13 + 4, none⟩ = some (.int .i64 L[j].kind) ∧ W'.cell? ⟨b1, o1 + j * 13 + 5, none⟩ = some (.int .i64 L[j].nc) ∧ W'.cell? ⟨b1, o1 + j * 13 + 6, none⟩ = some (.int .i64 L[j].nr) ∧ W'.cell? ⟨b1, o1 + j * 13 + 7, none⟩ = some (.int .i64 L[j].pc) ∧ W'.cell? ⟨b1, o1 + j * 13 + 8, none⟩ = some (.int .i64 L[j].pr) ∧ W'.cell? ⟨b1, o1 + j * 13 + 9, none⟩ = some (.int .i64 L[j].fc) ∧ W'.cell? ⟨b1, o1 + j * 13 + 10, none⟩ = some (.int .i64 L[j].fr) ∧ W'.cell? ⟨b1, o1 + j * 13 + 11, none⟩ = some (.string L[j].name) ∧ W'.cell? ⟨b1, o1 + j * 13 + 12, none⟩ = some (.string L[j].value) := fun W' hb => by
              have hb1 : b1 < w.heap.size := (g1 j hj).lt
              obtain ⟨z0, z1, z2, z3, z4, z5, z6, z7, z8, z9, z10, z11, z12⟩ := z
              exact ⟨(hb.cell (p := ⟨b1, o1 + j * 13, none⟩) hb1).trans z0, (hb.cell (p := ⟨b1, o1 + j * 13 + 1, none⟩) hb1).trans z1, (hb.cell (p := ⟨b1, o1 + j * 13 + 2, none⟩) hb1).trans z2, (hb.cell (p := ⟨b1, o1 + j * 13 + 3, none⟩) hb1).trans z3, (hb.cell (p := ⟨b1, o1 + j * 13 + 4, none⟩) hb1).trans z4, (hb.cell (p := ⟨b1, o1 + j * 13 + 5, none⟩) hb1).trans z5, (hb.cell (p := ⟨b1, o1 + j * 13 + 6, none⟩) hb1).trans z6, (hb.cell (p := ⟨b1, o1 + j * 13 + 7, none⟩) hb1).trans z7, (hb.cell (p := ⟨b1, o1 + j * 13 + 8, none⟩) hb1).trans z8, (hb.cell (p := ⟨b1, o1 + j * 13 + 9, none⟩) hb1).trans z9, (hb.cell (p := ⟨b1, o1 + j * 13 + 10, none⟩) hb1).trans z10, (hb.cell (p := ⟨b1, o1 + j * 13 + 11, none⟩) hb1).trans z11, (hb.cell (p := ⟨b1, o1 + j * 13 + 12, none⟩) hb1).trans z12⟩
            obtain ⟨⟨ac2, ar2, sq2, ds2, kd2, nc2, nr2, pc2, pr2, fc2, fr2, nm2, vl2⟩, ec2⟩ : ∃ c, c = L[j] := ⟨_, rfl⟩
            rw [← ec2] at hV hp
            simp only at hp
            have HWq : Hid (nv = withinB (⟨ac2, ar2, sq2, ds2, kd2, nc2, nr2, pc2, pr2, fc2, fr2, nm2, vl2⟩ : Ch) ds) := hV
            have HP : Hid (∀ W', Below w.heap.size w W' → W'.cell? ⟨b1, o1 + j * 13, none⟩ = some (.int .i64 ac2) ∧ W'.cell? ⟨b1, o1 + j * 13 + 1, none⟩ = some (.int .i64 ar2) ∧ W'.cell? ⟨b1, o1 + j * 13 + 2, none⟩ = some (.int .i64 sq2) ∧ W'.cell? ⟨b1, o1 + j * 13 + 3, none⟩ = some (.slice a2 ds2.length e2') ∧ W'.cell? ⟨b1, o1 + j * 13 + 4, none⟩ = some (.int .i64 kd2) ∧ W'.cell? ⟨b1, o1 + j * 13 + 5, none⟩ = some (.int .i64 nc2) ∧ W'.cell? ⟨b1, o1 + j * 13 + 6, none⟩ = some (.int .i64 nr2) ∧ W'.cell? ⟨b1, o1 + j * 13 + 7, none⟩ = some (.int .i64 pc2) ∧ W'.cell? ⟨b1, o1 + j * 13 + 8, none⟩ = some (.int .i64 pr2) ∧ W'.cell? ⟨b1, o1 + j * 13 + 9, none⟩ = some (.int .i64 fc2) ∧ W'.cell? ⟨b1, o1 + j * 13 + 10, none⟩ = some (.int .i64 fr2) ∧ W'.cell? ⟨b1, o1 + j * 13 + 11, none⟩ = some (.string nm2) ∧ W'.cell? ⟨b1, o1 + j * 13 + 12, none⟩ = some (.string vl2)) := hp
            have j1 : (j : Int) < (L.length : Int) := by omega
            have j0 : (0 : Int) ≤ (j : Int) := by omega
            have j2 : decide ((j : Int) < 0) = false := decide_eq_false (by omega)
            clear e1 e2 HNv hV hp g1 z ec2
            go_upto_region 13 with fail
            refine wp_region_held_drew (S := fun W' => KeptC w w.heap.size [.int .i64 ac, .int .i64 ar, .int .i64 sq, .slice a0 ds.length c0, .int .i64 kd, .int .i64 nc, .int .i64 nr, .int .i64 pc, .int .i64 pr, .int .i64 fc, .int .i64 fr, .string nm, .string vl] W') (by kernel_rfl) HK2.out.drew (fun hHeld => ?_)
            obtain ⟨Ud6u0, eW⟩ : ∃ X, X = W1.drew := ⟨_, rfl⟩
            have hb : Below W1.heap.size W1 Ud6u0 := by rw [eW]; exact (Below.refl _ _).drew
            replace HBq : Hid (BelowH W6 Ud6u0) := HBq.out.below hb
            rw [← eW] at hHeld ⊢
            clear eW hb
            refine tkW 0 (some 58) (v := ?_) ?_ hHeld ?_
            rotate_left
            · (intro w _; go_simp; try with_reducible rfl)
            refine tkW 1 (some 59) (v := ?_) ?_ hHeld ?_
            rotate_left
            · (intro w hSw; (try dsimp only at hSw); have hk := hSw; obtain ⟨k_0, k_1, k_2, k_3, k_4, k_5, k_6, k_7, k_8, k_9, k_10, k_11, k_12⟩ := hk.all; obtain ⟨p_0, p_1, p_2, p_3, p_4, p_5, p_6, p_7, p_8, p_9, p_10, p_11, p_12⟩ := HP.out _ hk.2.2; go_simp; try with_reducible rfl)
            refine tkW 2 (some 60) (v := ?_) ?_ hHeld ?_
            rotate_left
            · (intro w _; go_simp; try with_reducible rfl)
            refine tkW 3 (some 61) (v := ?_) ?_ hHeld ?_
            rotate_left
            · (intro w _; go_simp; try with_reducible rfl)
            refine tkW 4 (some 62) (v := ?_) ?_ hHeld ?_
            rotate_left
            · (intro w _; go_simp; try with_reducible rfl)
            refine tkW 5 (some 63) (v := ?_) ?_ hHeld ?_
            rotate_left
            · (intro w hSw; (try dsimp only at hSw); have hk := hSw; obtain ⟨k_0, k_1, k_2, k_3, k_4, k_5, k_6, k_7, k_8, k_9, k_10, k_11, k_12⟩ := hk.all; obtain ⟨p_0, p_1, p_2, p_3, p_4, p_5, p_6, p_7, p_8, p_9, p_10, p_11, p_12⟩ := HP.out _ hk.2.2; go_simp; try with_reducible rfl)
            refine tkW 6 (some 64) (v := ?_) ?_ hHeld ?_
            rotate_left
            · (intro w hSw; (try dsimp only at hSw); have hk := hSw; obtain ⟨k_0, k_1, k_2, k_3, k_4, k_5, k_6, k_7, k_8, k_9, k_10, k_11, k_12⟩ := hk.all; obtain ⟨p_0, p_1, p_2, p_3, p_4, p_5, p_6, p_7, p_8, p_9, p_10, p_11, p_12⟩ := HP.out _ hk.2.2; go_simp; try with_reducible rfl)
            refine tkW 7 (some 65) (v := ?_) ?_ hHeld ?_
            rotate_left
            · (intro w _; go_simp; try with_reducible rfl)
            refine tkW 8 (some 66) (v := ?_) ?_ hHeld ?_
            rotate_left
            · (intro w hSw; (try dsimp only at hSw); have hk := hSw; obtain ⟨k_0, k_1, k_2, k_3, k_4, k_5, k_6, k_7, k_8, k_9, k_10, k_11, k_12⟩ := hk.all; obtain ⟨p_0, p_1, p_2, p_3, p_4, p_5, p_6, p_7, p_8, p_9, p_10, p_11, p_12⟩ := HP.out _ hk.2.2; go_simp; try with_reducible rfl)
            refine wpAnyH_ready (rs := [9]) (by kernel_rfl) (by simp) ?_
            refine AllReadyH.cons (o := ⟨some 67, _, _, _, _, _⟩) rfl (fun K hK => ?_) AllReadyH.nil
            go_simp
            refine (refWithin_any ac2 ar2 sq2 (.slice a2 ds2.length e2') kd2 nc2 nr2 pc2 pr2 fc2 fr2 nm2 vl2 ds2 (.slice a0 ds.length c0) ds _ (HIc.out.below hHeld.2.2)).mono ?_
            rintro e Ud6u1 ⟨ele, hb⟩
            rw [← HWq.out] at ele
            subst ele
            (try go_wp2_with fail)
            refine hK.out _ _ (hHeld.step hb) (fun hHeld2 => ?_)
            clear hK K hHeld
            have hHeld := hHeld2
            clear hHeld2
            (try simp only [Act.put, List.setIfInBounds_toArray, List.set_cons_zero, List.set_cons_succ])
            replace HBq : Hid (BelowH W6 Ud6u1) := HBq.out.below hb
            clear hb
            refine tkW 10 (some 68) (v := ?_) ?_ hHeld ?_
            rotate_left
            · (intro w _; go_simp; try with_reducible rfl)
            refine tkW 11 (some 69) (v := ?_) ?_ hHeld ?_
            rotate_left
            · (intro w _; go_simp; try with_reducible rfl)
            refine wpAnyH_done (by kernel_rfl) ?_ _
            have HK3 : Hid (KeptC w w.heap.size [.int .i64 ac, .int .i64 ar, .int .i64 sq, .slice a0 ds.length c0, .int .i64 kd, .int .i64 nc, .int .i64 nr, .int .i64 pc, .int .i64 pr, .int .i64 fc, .int .i64 fr, .string nm, .string vl] Ud6u1) := hHeld
            clear hHeld
            cases nv
            · go_wp2
              go_ret
              exact ⟨ret_bool (HNf.out (by simp)).symm, HK3.out.2.2⟩
            · have HN3 := HNt.out rfl
              go_wp2
              go_roundw
              case rel => exact ⟨m + 1, by omega, by first | rfl | go_num, HN3, HK3, HBq⟩
              case measure => simp [intOf]; omega
        · obtain rfl : m = N.length := by omega
          have HX : Hid (behindR L (⟨ac, ar, sq, ds, kd, nc, nr, pc, pr, fc, fr, nm, vl⟩ : Ch) = true) := by
            show _ = _
            rw [HEN.out, ← HT.out, List.take_length]
          go_wp2
          go_ret
          exact ⟨ret_bool HX.out.symm, HK2.out.2.2⟩

end Go.Proofs.Ythndgmnckpimmaa

namespace Go.Proofs.Ythndgmnckpimmaa
open Go.RowKit
set_option linter.unusedVariables false
set_option linter.unusedSimpArgs false

set_option maxRecDepth 100000 in
set_option maxHeartbeats 8000000 in
theorem refWhy_any (v : Value) (L : List Ch) (room : Int) (ac ar sq : Int) (dv : Value) (kd nc nr pc pr fc fr : Int) (nm vl : ByteArray) (ds : List Int) (w : World) (h1 : IsH w v L) (hd : IsI w dv ds) (hsz : Sized (⟨ac, ar, sq, ds, kd, nc, nr, pc, pr, fc, fr, nm, vl⟩ : Ch)) :
    Calls Try.prog 43 #[v, .int .i64 room, .agg #[.int .i64 ac, .int .i64 ar, .int .i64 sq, dv, .int .i64 kd, .int .i64 nc, .int .i64 nr, .int .i64 pc, .int .i64 pr, .int .i64 fc, .int .i64 fr, .string nm, .string vl]] w fun e w' => e = .returned (.int .i64 (whyR L room (⟨ac, ar, sq, ds, kd, nc, nr, pc, pr, fc, fr, nm, vl⟩ : Ch))) ∧ Below w.heap.size w w' := by
  have HH : Hid (IsH w v L) := h1
  obtain ⟨a1, c1, rfl, hc1, hl1, r1⟩ := h1
  have HR : Hid (L = [] ∨ ∃ b o, a1 = some ⟨b, o, none⟩ ∧ ChsAt w b o L) := r1
  have HIc : Hid (IsI w dv ds) := hd
  obtain ⟨a0, c0, e0⟩ := hd.form
  subst e0
  have HSz : Hid (Sized (⟨ac, ar, sq, ds, kd, nc, nr, pc, pr, fc, fr, nm, vl⟩ : Ch)) := hsz
  have K0 := KeptC.start w [.int .i64 ac, .int .i64 ar, .int .i64 sq, .slice a0 ds.length c0, .int .i64 kd, .int .i64 nc, .int .i64 nr, .int .i64 pc, .int .i64 pr, .int .i64 fc, .int .i64 fr, .string nm, .string vl] 35
  obtain ⟨W0, eW⟩ : ∃ X, X = w.alloc (.cells #[.int .i64 ac, .int .i64 ar, .int .i64 sq, .slice a0 ds.length c0, .int .i64 kd, .int .i64 nc, .int .i64 nr, .int .i64 pc, .int .i64 pr, .int .i64 fc, .int .i64 fr, .string nm, .string vl] 35) := ⟨_, rfl⟩
  have HK : Hid (KeptC w w.heap.size [.int .i64 ac, .int .i64 ar, .int .i64 sq, .slice a0 ds.length c0, .int .i64 kd, .int .i64 nc, .int .i64 nr, .int .i64 pc, .int .i64 pr, .int .i64 fc, .int .i64 fr, .string nm, .string vl] W0) := by rw [eW]; exact K0
  have HE : Hid (whyR L room (⟨ac, ar, sq, ds, kd, nc, nr, pc, pr, fc, fr, nm, vl⟩ : Ch) = if checkCh (⟨ac, ar, sq, ds, kd, nc, nr, pc, pr, fc, fr, nm, vl⟩ : Ch) ≠ 0 then checkCh (⟨ac, ar, sq, ds, kd, nc, nr, pc, pr, fc, fr, nm, vl⟩ : Ch) else
      match getL L ac ar with
      | some d => if sameB d (⟨ac, ar, sq, ds, kd, nc, nr, pc, pr, fc, fr, nm, vl⟩ : Ch) = true then 5 else 7
      | none => if (ownC L ar sq).isSome = true then 7 else
        if sq ≠ atL (clockL L) ar + 1 ∨ underB ds (clockL L) = false then 4 else
        if behindR L (⟨ac, ar, sq, ds, kd, nc, nr, pc, pr, fc, fr, nm, vl⟩ : Ch) = false then 2 else if room ≤ (L.length : Int) then 6 else 0) := rfl
  generalize whyR L room (⟨ac, ar, sq, ds, kd, nc, nr, pc, pr, fc, fr, nm, vl⟩ : Ch) = ww at *
  clear K0 r1 hd hsz
  go_enter Try.func43, Try.ntmps43
  go_wp2_with fail
  rw [← eW]
  clear eW
  refine (refCheckCh_any ac ar sq (.slice a0 ds.length c0) kd nc nr pc pr fc fr nm vl ds HSz.out.1 _ (HIc.out.below HK.out.2.2)).mono ?_
  rintro e W1 ⟨rfl, hb1⟩
  have HK1 : Hid (KeptC w w.heap.size [.int .i64 ac, .int .i64 ar, .int .i64 sq, .slice a0 ds.length c0, .int .i64 kd, .int .i64 nc, .int .i64 nr, .int .i64 pc, .int .i64 pr, .int .i64 fc, .int .i64 fr, .string nm, .string vl] W1) := HK.out.step hb1
  obtain ⟨k_0, k_1, k_2, k_3, k_4, k_5, k_6, k_7, k_8, k_9, k_10, k_11, k_12⟩ := HK1.out.all
  clear hb1 HK
  by_cases hck : checkCh (⟨ac, ar, sq, ds, kd, nc, nr, pc, pr, fc, fr, nm, vl⟩ : Ch) = 0
  · have HR0 := right_of hck
    simp only at HR0
    rw [hck]
    have HE2 : Hid (ww = match getL L ac ar with
      | some d => if sameB d (⟨ac, ar, sq, ds, kd, nc, nr, pc, pr, fc, fr, nm, vl⟩ : Ch) = true then 5 else 7
      | none => if (ownC L ar sq).isSome = true then 7 else
        if sq ≠ atL (clockL L) ar + 1 ∨ underB ds (clockL L) = false then 4 else
        if behindR L (⟨ac, ar, sq, ds, kd, nc, nr, pc, pr, fc, fr, nm, vl⟩ : Ch) = false then 2 else if room ≤ (L.length : Int) then 6 else 0) := by
      have := HE.out
      rw [if_neg (by rw [hck]; simp)] at this
      exact this
    clear HE hck
    go_wp2_with fail
    refine (find_any _ L ac ar _ (HH.out.below HK1.out.2.2)).mono ?_
    rintro e W2 ⟨rfl, hb2⟩
    have HK2 : Hid (KeptC w w.heap.size [.int .i64 ac, .int .i64 ar, .int .i64 sq, .slice a0 ds.length c0, .int .i64 kd, .int .i64 nc, .int .i64 nr, .int .i64 pc, .int .i64 pr, .int .i64 fc, .int .i64 fr, .string nm, .string vl] W2) := HK1.out.step hb2
    clear hb2 k_0 k_1 k_2 k_3 k_4 k_5 k_6 k_7 k_8 k_9 k_10 k_11 k_12 HK1
    rcases findI_or L ac ar with ⟨e1, e2⟩ | ⟨j, hj, e1, e2⟩
    · rw [e1]
      have HE3 : Hid (ww = if (ownC L ar sq).isSome = true then 7 else
        if sq ≠ atL (clockL L) ar + 1 ∨ underB ds (clockL L) = false then 4 else
        if behindR L (⟨ac, ar, sq, ds, kd, nc, nr, pc, pr, fc, fr, nm, vl⟩ : Ch) = false then 2 else if room ≤ (L.length : Int) then 6 else 0) := by
        have := HE2.out
        rw [e2] at this
        exact this
      clear e1 e2 HE2
      go_upto_region 4 with fail
      refine wp_region_held_drew (S := fun W' => KeptC w w.heap.size [.int .i64 ac, .int .i64 ar, .int .i64 sq, .slice a0 ds.length c0, .int .i64 kd, .int .i64 nc, .int .i64 nr, .int .i64 pc, .int .i64 pr, .int .i64 fc, .int .i64 fr, .string nm, .string vl] W') (by kernel_rfl) HK2.out.drew (fun hHeld => ?_)
      obtain ⟨Ub8u0, eW⟩ : ∃ X, X = W2.drew := ⟨_, rfl⟩
      have hb : Below W2.heap.size W2 Ub8u0 := by rw [eW]; exact (Below.refl _ _).drew
      rw [← eW] at hHeld ⊢
      clear eW hb
      refine tkW 0 (some 18) (v := ?_) ?_ hHeld ?_
      rotate_left
      · (intro w _; go_simp; try with_reducible rfl)
      refine tkW 1 (some 19) (v := ?_) ?_ hHeld ?_
      rotate_left
      · (intro w hSw; (try dsimp only at hSw); have hk := hSw; obtain ⟨k_0, k_1, k_2, k_3, k_4, k_5, k_6, k_7, k_8, k_9, k_10, k_11, k_12⟩ := hk.all; go_simp; try with_reducible rfl)
      refine tkW 2 (some 20) (v := ?_) ?_ hHeld ?_
      rotate_left
      · (intro w _; go_simp; try with_reducible rfl)
      refine tkU 3 (some 21) hHeld ?_
      refine tkU 4 (some 22) hHeld ?_
      refine tkU 5 (some 23) hHeld ?_
      refine tkU 6 (some 24) hHeld ?_
      refine tkU 7 (some 25) hHeld ?_
      refine tkU 8 (some 26) hHeld ?_
      refine tkW 9 (some 27) (v := ?_) ?_ hHeld ?_
      rotate_left
      · (intro w _; go_simp; try with_reducible rfl)
      refine wpAnyH_done (by kernel_rfl) ?_ _
      have HK3 : Hid (KeptC w w.heap.size [.int .i64 ac, .int .i64 ar, .int .i64 sq, .slice a0 ds.length c0, .int .i64 kd, .int .i64 nc, .int .i64 nr, .int .i64 pc, .int .i64 pr, .int .i64 fc, .int .i64 fr, .string nm, .string vl] Ub8u0) := hHeld
      clear hHeld
      obtain ⟨k_0, k_1, k_2, k_3, k_4, k_5, k_6, k_7, k_8, k_9, k_10, k_11, k_12⟩ := HK3.out.all
      go_wp2_with fail
      refine (refOwn_any _ L ar sq _ (HH.out.below HK3.out.2.2)).mono ?_
      rintro e W4 ⟨rfl, hb4⟩
      have HK4 : Hid (KeptC w w.heap.size [.int .i64 ac, .int .i64 ar, .int .i64 sq, .slice a0 ds.length c0, .int .i64 kd, .int .i64 nc, .int .i64 nr, .int .i64 pc, .int .i64 pr, .int .i64 fc, .int .i64 fr, .string nm, .string vl] W4) := HK3.out.step hb4
      clear hb4 k_0 k_1 k_2 k_3 k_4 k_5 k_6 k_7 k_8 k_9 k_10 k_11 k_12 HK3
      rcases ownP_or L ar sq with ⟨e1, e2⟩ | ⟨j, hj, e1, e2⟩
      · rw [e1]
        have HE4 : Hid (ww = if sq ≠ atL (clockL L) ar + 1 ∨ underB ds (clockL L) = false then 4 else
          if behindR L (⟨ac, ar, sq, ds, kd, nc, nr, pc, pr, fc, fr, nm, vl⟩ : Ch) = false then 2 else if room ≤ (L.length : Int) then 6 else 0) := by
          have := HE3.out
          rw [e2] at this
          exact this
        have hat : atL (clockL L) ar = cntR L ar := clockL_at L (by omega) (by omega)
        have hle := cntR_le L ar
        clear e1 e2 HE3
        go_wp2_with fail
        refine (refClock_any _ L _ (HH.out.below HK4.out.2.2)).mono ?_
        rintro e W5 ⟨v5, rfl, ho5, hb5⟩
        have HK2 : Hid (KeptC w w.heap.size [.int .i64 ac, .int .i64 ar, .int .i64 sq, .slice a0 ds.length c0, .int .i64 kd, .int .i64 nc, .int .i64 nr, .int .i64 pc, .int .i64 pr, .int .i64 fc, .int .i64 fr, .string nm, .string vl] W5) := HK4.out.step hb5
        have hi5 := ho5.isI (by have := clockL_length L; omega)
        obtain ⟨a5, c5, e5⟩ := hi5.form
        subst e5
        generalize clockL L = ck at *
        have HIk : Hid (IsI W5 (.slice a5 ck.length c5) ck) := hi5
        generalize cntR L ar = cn at *
        have hwr : IntKind.i64.wrap (atL ck ar + 1) = atL ck ar + 1 := by rw [IntKind.wrap_i64]; omega
        clear hi5 ho5 hb5 HK4 hat hle
        obtain ⟨n0, hn0⟩ : ∃ n, n = atL ck ar := ⟨_, rfl⟩
        rw [← hn0] at hwr HE4
        have HAt : Hid (atL ck ar = n0) := hn0.symm
        clear hn0
        by_cases hsq : sq = n0 + 1
        · have hq : (sq == n0 + 1) = true := by rw [beq_iff_eq]; exact hsq
          have hq2 : (sq != n0 + 1) = false := by rw [bne_eq_false_iff_eq]; exact hsq
          obtain ⟨ub, hub⟩ : ∃ b, b = underB ds ck := ⟨_, rfl⟩
          have HUq : Hid (ub = underB ds ck) := hub
          have HE5 : Hid (ww = if ub = false then 4 else
            if behindR L (⟨ac, ar, sq, ds, kd, nc, nr, pc, pr, fc, fr, nm, vl⟩ : Ch) = false then 2 else if room ≤ (L.length : Int) then 6 else 0) := by
            have := HE4.out
            rw [← hub] at this
            simp only [hsq, ne_eq, not_true_eq_false, false_or] at this
            exact this
          clear hub HE4 hsq
          go_upto_region 9 with fail
          refine wp_region_held_drew (S := fun W' => KeptC w w.heap.size [.int .i64 ac, .int .i64 ar, .int .i64 sq, .slice a0 ds.length c0, .int .i64 kd, .int .i64 nc, .int .i64 nr, .int .i64 pc, .int .i64 pr, .int .i64 fc, .int .i64 fr, .string nm, .string vl] W') (by kernel_rfl) HK2.out.drew (fun hHeld => ?_)
          obtain ⟨Uc9u0, eW⟩ : ∃ X, X = W5.drew := ⟨_, rfl⟩
          have hb : Below W5.heap.size W5 Uc9u0 := by rw [eW]; exact (Below.refl _ _).drew
          replace HIk : Hid (IsI Uc9u0 (.slice a5 ck.length c5) ck) := HIk.out.below hb
          rw [← eW] at hHeld ⊢
          clear eW hb
          refine tkW 0 (some 42) (v := ?_) ?_ hHeld ?_
          rotate_left
          · (intro w _; go_simp; try with_reducible rfl)
          refine tkW 1 (some 43) (v := ?_) ?_ hHeld ?_
          rotate_left
          · (intro w hSw; (try dsimp only at hSw); have hk := hSw; obtain ⟨k_0, k_1, k_2, k_3, k_4, k_5, k_6, k_7, k_8, k_9, k_10, k_11, k_12⟩ := hk.all; go_simp; try with_reducible rfl)
          refine tkW 2 (some 44) (v := ?_) ?_ hHeld ?_
          rotate_left
          · (intro w _; go_simp; try with_reducible rfl)
          refine tkW 3 (some 45) (v := ?_) ?_ hHeld ?_
          rotate_left
          · (intro w _; go_simp; try with_reducible rfl)
          refine tkW 4 (some 46) (v := ?_) ?_ hHeld ?_
          rotate_left
          · (intro w _; go_simp; try with_reducible rfl)
          refine tkW 5 (some 47) (v := ?_) ?_ hHeld ?_
          rotate_left
          · (intro w hSw; (try dsimp only at hSw); have hk := hSw; obtain ⟨k_0, k_1, k_2, k_3, k_4, k_5, k_6, k_7, k_8, k_9, k_10, k_11, k_12⟩ := hk.all; go_simp; try with_reducible rfl)
          refine wpAnyH_ready (rs := [6]) (by kernel_rfl) (by simp) ?_
          refine AllReadyH.cons (o := ⟨some 48, _, _, _, _, _⟩) rfl (fun K hK => ?_) AllReadyH.nil
          go_simp
          refine (refAt_any _ ck ar _ HIk.out).mono ?_
          rintro e w' ⟨rfl, hw⟩
          replace hw := hw.symm
          subst hw
          rw [HAt.out]
          (try go_wp2_with fail)
          refine hK.out _ _ (hHeld) (fun hHeld2 => ?_)
          clear hK K hHeld
          have hHeld := hHeld2
          clear hHeld2
          (try simp only [Act.put, List.setIfInBounds_toArray, List.set_cons_zero, List.set_cons_succ])
          refine tkW 7 (some 49) (v := ?_) ?_ hHeld ?_
          rotate_left
          · (intro w hSw; (try dsimp only at hSw); have hk := hSw; obtain ⟨k_0, k_1, k_2, k_3, k_4, k_5, k_6, k_7, k_8, k_9, k_10, k_11, k_12⟩ := hk.all; go_simp; try with_reducible rfl)
          refine tkW 8 (some 50) (v := ?_) ?_ hHeld ?_
          rotate_left
          · (intro w hSw; (try dsimp only at hSw); have hk := hSw; obtain ⟨k_0, k_1, k_2, k_3, k_4, k_5, k_6, k_7, k_8, k_9, k_10, k_11, k_12⟩ := hk.all; go_simp; try with_reducible rfl)
          refine tkW 9 (some 51) (v := ?_) ?_ hHeld ?_
          rotate_left
          · (intro w _; go_simp; try with_reducible rfl)
          refine tkW 10 (some 52) (v := ?_) ?_ hHeld ?_
          rotate_left
          · (intro w _; go_simp; try with_reducible rfl)
          refine tkW 11 (some 53) (v := ?_) ?_ hHeld ?_
          rotate_left
          · (intro w hSw; (try dsimp only at hSw); have hk := hSw; obtain ⟨k_0, k_1, k_2, k_3, k_4, k_5, k_6, k_7, k_8, k_9, k_10, k_11, k_12⟩ := hk.all; go_simp; try with_reducible rfl)
          refine tkW 12 (some 54) (v := ?_) ?_ hHeld ?_
          rotate_left
          · (intro w _; go_simp; try with_reducible rfl)
          refine wpAnyH_ready (rs := [13]) (by kernel_rfl) (by simp) ?_
          refine AllReadyH.cons (o := ⟨some 55, _, _, _, _, _⟩) rfl (fun K hK => ?_) AllReadyH.nil
          go_simp
          refine (under_any _ _ ds ck _ (HIc.out.below hHeld.2.2) HIk.out).mono ?_
          rintro e Uc9u2 ⟨ele, hb⟩
          rw [← HUq.out] at ele
          subst ele
          (try go_wp2_with fail)
          refine hK.out _ _ (hHeld.step hb) (fun hHeld2 => ?_)
          clear hK K hHeld
          have hHeld := hHeld2
          clear hHeld2
          (try simp only [Act.put, List.setIfInBounds_toArray, List.set_cons_zero, List.set_cons_succ])
          replace HIk : Hid (IsI Uc9u2 (.slice a5 ck.length c5) ck) := HIk.out.below hb
          clear hb
          refine tkW 14 (some 56) (v := ?_) ?_ hHeld ?_
          rotate_left
          · (intro w _; go_simp; try with_reducible rfl)
          refine tkW 15 (some 57) (v := ?_) ?_ hHeld ?_
          rotate_left
          · (intro w _; go_simp; try with_reducible rfl)
          refine wpAnyH_done (by kernel_rfl) ?_ _
          have HK3 : Hid (KeptC w w.heap.size [.int .i64 ac, .int .i64 ar, .int .i64 sq, .slice a0 ds.length c0, .int .i64 kd, .int .i64 nc, .int .i64 nr, .int .i64 pc, .int .i64 pr, .int .i64 fc, .int .i64 fr, .string nm, .string vl] Uc9u2) := hHeld
          clear hHeld
          cases ub
          · have hw4 : Hid (ww = 4) := by rw [HE5.out]; exact (rfl : (4 : Int) = 4)
            go_wp2
            go_ret
            exact ⟨ret_i hw4.out.symm, HK3.out.2.2⟩
          · have HE6 : Hid (ww = if behindR L (⟨ac, ar, sq, ds, kd, nc, nr, pc, pr, fc, fr, nm, vl⟩ : Ch) = false then 2 else if room ≤ (L.length : Int) then 6 else 0) := HE5.out
            obtain ⟨k_0, k_1, k_2, k_3, k_4, k_5, k_6, k_7, k_8, k_9, k_10, k_11, k_12⟩ := HK3.out.all
            clear HE5 HUq
            go_wp2_with fail
            refine (refBehind_any _ L ac ar sq (.slice a0 ds.length c0) kd nc nr pc pr fc fr nm vl ds _ (HH.out.below HK3.out.2.2) (HIc.out.below HK3.out.2.2)).mono ?_
            rintro e W7 ⟨rfl, hb7⟩
            replace HK3 : Hid (KeptC w w.heap.size [.int .i64 ac, .int .i64 ar, .int .i64 sq, .slice a0 ds.length c0, .int .i64 kd, .int .i64 nc, .int .i64 nr, .int .i64 pc, .int .i64 pr, .int .i64 fc, .int .i64 fr, .string nm, .string vl] W7) := HK3.out.step hb7
            clear k_0 k_1 k_2 k_3 k_4 k_5 k_6 k_7 k_8 k_9 k_10 k_11 k_12 hb7
            generalize behindR L (⟨ac, ar, sq, ds, kd, nc, nr, pc, pr, fc, fr, nm, vl⟩ : Ch) = bb at *
            cases bb
            · have hw4 : Hid (ww = 2) := by rw [HE6.out]; exact (rfl : (2 : Int) = 2)
              go_wp2
              go_ret
              exact ⟨ret_i hw4.out.symm, HK3.out.2.2⟩
            · have HE7 : Hid (ww = if room ≤ (L.length : Int) then 6 else 0) := HE6.out
              clear HE6
              by_cases hr : room ≤ (L.length : Int)
              · have hw4 : Hid (ww = 6) := by rw [HE7.out, if_pos hr]; exact (rfl : (6 : Int) = 6)
                go_wp2
                go_ret
                exact ⟨ret_i hw4.out.symm, HK3.out.2.2⟩
              · have hw4 : Hid (ww = 0) := by rw [HE7.out, if_neg hr]; exact (rfl : (0 : Int) = 0)
                go_wp2
                go_ret
                exact ⟨ret_i hw4.out.symm, HK3.out.2.2⟩
        · have hq : (sq == n0 + 1) = false := by rw [beq_eq_false_iff_ne]; exact hsq
          have hq2 : (sq != n0 + 1) = true := by rw [bne_iff_ne]; exact hsq
          have hw4 : Hid (ww = 4) := by rw [HE4.out, if_pos (.inl hsq)]; exact (rfl : (4 : Int) = 4)
          clear hsq HE4
          go_upto_region 9 with fail
          refine wp_region_held_drew (S := fun W' => KeptC w w.heap.size [.int .i64 ac, .int .i64 ar, .int .i64 sq, .slice a0 ds.length c0, .int .i64 kd, .int .i64 nc, .int .i64 nr, .int .i64 pc, .int .i64 pr, .int .i64 fc, .int .i64 fr, .string nm, .string vl] W') (by kernel_rfl) HK2.out.drew (fun hHeld => ?_)
          obtain ⟨Ud10u0, eW⟩ : ∃ X, X = W5.drew := ⟨_, rfl⟩
          have hb : Below W5.heap.size W5 Ud10u0 := by rw [eW]; exact (Below.refl _ _).drew
          replace HIk : Hid (IsI Ud10u0 (.slice a5 ck.length c5) ck) := HIk.out.below hb
          rw [← eW] at hHeld ⊢
          clear eW hb
          refine tkW 0 (some 42) (v := ?_) ?_ hHeld ?_
          rotate_left
          · (intro w _; go_simp; try with_reducible rfl)
          refine tkW 1 (some 43) (v := ?_) ?_ hHeld ?_
          rotate_left
          · (intro w hSw; (try dsimp only at hSw); have hk := hSw; obtain ⟨k_0, k_1, k_2, k_3, k_4, k_5, k_6, k_7, k_8, k_9, k_10, k_11, k_12⟩ := hk.all; go_simp; try with_reducible rfl)
          refine tkW 2 (some 44) (v := ?_) ?_ hHeld ?_
          rotate_left
          · (intro w _; go_simp; try with_reducible rfl)
          refine tkW 3 (some 45) (v := ?_) ?_ hHeld ?_
          rotate_left
          · (intro w _; go_simp; try with_reducible rfl)
          refine tkW 4 (some 46) (v := ?_) ?_ hHeld ?_
          rotate_left
          · (intro w _; go_simp; try with_reducible rfl)
          refine tkW 5 (some 47) (v := ?_) ?_ hHeld ?_
          rotate_left
          · (intro w hSw; (try dsimp only at hSw); have hk := hSw; obtain ⟨k_0, k_1, k_2, k_3, k_4, k_5, k_6, k_7, k_8, k_9, k_10, k_11, k_12⟩ := hk.all; go_simp; try with_reducible rfl)
          refine wpAnyH_ready (rs := [6]) (by kernel_rfl) (by simp) ?_
          refine AllReadyH.cons (o := ⟨some 48, _, _, _, _, _⟩) rfl (fun K hK => ?_) AllReadyH.nil
          go_simp
          refine (refAt_any _ ck ar _ HIk.out).mono ?_
          rintro e w' ⟨rfl, hw⟩
          replace hw := hw.symm
          subst hw
          rw [HAt.out]
          (try go_wp2_with fail)
          refine hK.out _ _ (hHeld) (fun hHeld2 => ?_)
          clear hK K hHeld
          have hHeld := hHeld2
          clear hHeld2
          (try simp only [Act.put, List.setIfInBounds_toArray, List.set_cons_zero, List.set_cons_succ])
          refine tkW 7 (some 49) (v := ?_) ?_ hHeld ?_
          rotate_left
          · (intro w hSw; (try dsimp only at hSw); have hk := hSw; obtain ⟨k_0, k_1, k_2, k_3, k_4, k_5, k_6, k_7, k_8, k_9, k_10, k_11, k_12⟩ := hk.all; go_simp; try with_reducible rfl)
          refine tkW 8 (some 50) (v := ?_) ?_ hHeld ?_
          rotate_left
          · (intro w hSw; (try dsimp only at hSw); have hk := hSw; obtain ⟨k_0, k_1, k_2, k_3, k_4, k_5, k_6, k_7, k_8, k_9, k_10, k_11, k_12⟩ := hk.all; go_simp; try with_reducible rfl)
          refine tkW 9 (some 51) (v := ?_) ?_ hHeld ?_
          rotate_left
          · (intro w _; go_simp; try with_reducible rfl)
          refine tkU 10 (some 52) hHeld ?_
          refine tkU 11 (some 53) hHeld ?_
          refine tkU 12 (some 54) hHeld ?_
          refine tkU 13 (some 55) hHeld ?_
          refine tkU 14 (some 56) hHeld ?_
          refine tkW 15 (some 57) (v := ?_) ?_ hHeld ?_
          rotate_left
          · (intro w _; go_simp; try with_reducible rfl)
          refine wpAnyH_done (by kernel_rfl) ?_ _
          have HK3 : Hid (KeptC w w.heap.size [.int .i64 ac, .int .i64 ar, .int .i64 sq, .slice a0 ds.length c0, .int .i64 kd, .int .i64 nc, .int .i64 nr, .int .i64 pc, .int .i64 pr, .int .i64 fc, .int .i64 fr, .string nm, .string vl] Ud10u0) := hHeld
          clear hHeld
          go_wp2
          go_ret
          exact ⟨ret_i hw4.out.symm, HK3.out.2.2⟩
      · rw [e1]
        have hw4 : Hid (ww = 7) := by rw [HE3.out, e2]; exact (rfl : (7 : Int) = 7)
        have j0 : (0 : Int) ≤ (j : Int) := by omega
        clear e1 e2 HE3
        go_wp2
        go_ret
        exact ⟨ret_i hw4.out.symm, HK4.out.2.2⟩
    · rw [e1]
      obtain ⟨b1, o1, rfl, g1⟩ := HR.out.resolve_left (by intro e; subst e; simp at hj)
      have hV : ww = if sameB L[j] (⟨ac, ar, sq, ds, kd, nc, nr, pc, pr, fc, fr, nm, vl⟩ : Ch) = true then 5 else 7 := by rw [HE2.out, e2]
      obtain ⟨a2, e2', i2, _, z⟩ := (g1 j hj).all
      have hp : ∀ W', Below w.heap.size w W' → W'.cell? ⟨b1, o1 + j * 13, none⟩ = some (.int .i64 L[j].ac) ∧ W'.cell? ⟨b1, o1 + j * 13 + 1, none⟩ = some (.int .i64 L[j].ar) ∧ W'.cell? ⟨b1, o1 + j * 13 + 2, none⟩ = some (.int .i64 L[j].seq) ∧ W'.cell? ⟨b1, o1 + j * 13 + 3, none⟩ = some (.slice a2 L[j].deps.length e2') ∧ W'.cell? ⟨b1, o1 + j * 13 + 4, none⟩ = some (.int .i64 L[j].kind) ∧ W'.cell? ⟨b1, o1 + j * 13 + 5, none⟩ = some (.int .i64 L[j].nc) ∧ W'.cell? ⟨b1, o1 + j * 13 + 6, none⟩ = some (.int .i64 L[j].nr) ∧ W'.cell? ⟨b1, o1 + j * 13 + 7, none⟩ = some (.int .i64 L[j].pc) ∧ W'.cell? ⟨b1, o1 + j * 13 + 8, none⟩ = some (.int .i64 L[j].pr) ∧ W'.cell? ⟨b1, o1 + j * 13 + 9, none⟩ = some (.int .i64 L[j].fc) ∧ W'.cell? ⟨b1, o1 + j * 13 + 10, none⟩ = some (.int .i64 L[j].fr) ∧ W'.cell? ⟨b1, o1 + j * 13 + 11, none⟩ = some (.string L[j].name) ∧ W'.cell? ⟨b1, o1 + j * 13 + 12, none⟩ = some (.string L[j].value) := fun W' hb => by
        have hb1 : b1 < w.heap.size := (g1 j hj).lt
        obtain ⟨z0, z1, z2, z3, z4, z5, z6, z7, z8, z9, z10, z11, z12⟩ := z
        exact ⟨(hb.cell (p := ⟨b1, o1 + j * 13, none⟩) hb1).trans z0, (hb.cell (p := ⟨b1, o1 + j * 13 + 1, none⟩) hb1).trans z1, (hb.cell (p := ⟨b1, o1 + j * 13 + 2, none⟩) hb1).trans z2, (hb.cell (p := ⟨b1, o1 + j * 13 + 3, none⟩) hb1).trans z3, (hb.cell (p := ⟨b1, o1 + j * 13 + 4, none⟩) hb1).trans z4, (hb.cell (p := ⟨b1, o1 + j * 13 + 5, none⟩) hb1).trans z5, (hb.cell (p := ⟨b1, o1 + j * 13 + 6, none⟩) hb1).trans z6, (hb.cell (p := ⟨b1, o1 + j * 13 + 7, none⟩) hb1).trans z7, (hb.cell (p := ⟨b1, o1 + j * 13 + 8, none⟩) hb1).trans z8, (hb.cell (p := ⟨b1, o1 + j * 13 + 9, none⟩) hb1).trans z9, (hb.cell (p := ⟨b1, o1 + j * 13 + 10, none⟩) hb1).trans z10, (hb.cell (p := ⟨b1, o1 + j * 13 + 11, none⟩) hb1).trans z11, (hb.cell (p := ⟨b1, o1 + j * 13 + 12, none⟩) hb1).trans z12⟩
      obtain ⟨⟨ac2, ar2, sq2, ds2, kd2, nc2, nr2, pc2, pr2, fc2, fr2, nm2, vl2⟩, ec2⟩ : ∃ c, c = L[j] := ⟨_, rfl⟩
      rw [← ec2] at hV hp i2
      simp only at hp
      have HI2 : Hid (∀ W', Below w.heap.size w W' → IsI W' (.slice a2 ds2.length e2') ds2) := fun W' hb => IsI.below i2 hb
      have HP : Hid (∀ W', Below w.heap.size w W' → W'.cell? ⟨b1, o1 + j * 13, none⟩ = some (.int .i64 ac2) ∧ W'.cell? ⟨b1, o1 + j * 13 + 1, none⟩ = some (.int .i64 ar2) ∧ W'.cell? ⟨b1, o1 + j * 13 + 2, none⟩ = some (.int .i64 sq2) ∧ W'.cell? ⟨b1, o1 + j * 13 + 3, none⟩ = some (.slice a2 ds2.length e2') ∧ W'.cell? ⟨b1, o1 + j * 13 + 4, none⟩ = some (.int .i64 kd2) ∧ W'.cell? ⟨b1, o1 + j * 13 + 5, none⟩ = some (.int .i64 nc2) ∧ W'.cell? ⟨b1, o1 + j * 13 + 6, none⟩ = some (.int .i64 nr2) ∧ W'.cell? ⟨b1, o1 + j * 13 + 7, none⟩ = some (.int .i64 pc2) ∧ W'.cell? ⟨b1, o1 + j * 13 + 8, none⟩ = some (.int .i64 pr2) ∧ W'.cell? ⟨b1, o1 + j * 13 + 9, none⟩ = some (.int .i64 fc2) ∧ W'.cell? ⟨b1, o1 + j * 13 + 10, none⟩ = some (.int .i64 fr2) ∧ W'.cell? ⟨b1, o1 + j * 13 + 11, none⟩ = some (.string nm2) ∧ W'.cell? ⟨b1, o1 + j * 13 + 12, none⟩ = some (.string vl2)) := hp
      obtain ⟨sb, hsb⟩ : ∃ b, b = sameB (⟨ac2, ar2, sq2, ds2, kd2, nc2, nr2, pc2, pr2, fc2, fr2, nm2, vl2⟩ : Ch) (⟨ac, ar, sq, ds, kd, nc, nr, pc, pr, fc, fr, nm, vl⟩ : Ch) := ⟨_, rfl⟩
      rw [← hsb] at hV
      have HSq : Hid (sb = sameB (⟨ac2, ar2, sq2, ds2, kd2, nc2, nr2, pc2, pr2, fc2, fr2, nm2, vl2⟩ : Ch) (⟨ac, ar, sq, ds, kd, nc, nr, pc, pr, fc, fr, nm, vl⟩ : Ch)) := hsb
      have HV : Hid (ww = if sb = true then 5 else 7) := hV
      have j1 : (j : Int) < (L.length : Int) := by omega
      have j0 : (0 : Int) ≤ (j : Int) := by omega
      have j2 : decide ((0 : Int) ≤ (j : Int)) = true := decide_eq_true j0
      clear e1 e2 HE2 hV hp g1 z ec2 i2 hsb
      go_upto_region 4 with fail
      refine wp_region_held_drew (S := fun W' => KeptC w w.heap.size [.int .i64 ac, .int .i64 ar, .int .i64 sq, .slice a0 ds.length c0, .int .i64 kd, .int .i64 nc, .int .i64 nr, .int .i64 pc, .int .i64 pr, .int .i64 fc, .int .i64 fr, .string nm, .string vl] W') (by kernel_rfl) HK2.out.drew (fun hHeld => ?_)
      obtain ⟨Ua7u0, eW⟩ : ∃ X, X = W2.drew := ⟨_, rfl⟩
      have hb : Below W2.heap.size W2 Ua7u0 := by rw [eW]; exact (Below.refl _ _).drew
      rw [← eW] at hHeld ⊢
      clear eW hb
      refine tkW 0 (some 18) (v := ?_) ?_ hHeld ?_
      rotate_left
      · (intro w _; go_simp; try with_reducible rfl)
      refine tkW 1 (some 19) (v := ?_) ?_ hHeld ?_
      rotate_left
      · (intro w hSw; (try dsimp only at hSw); have hk := hSw; obtain ⟨k_0, k_1, k_2, k_3, k_4, k_5, k_6, k_7, k_8, k_9, k_10, k_11, k_12⟩ := hk.all; obtain ⟨p_0, p_1, p_2, p_3, p_4, p_5, p_6, p_7, p_8, p_9, p_10, p_11, p_12⟩ := HP.out _ hk.2.2; go_simp; try with_reducible rfl)
      refine tkW 2 (some 20) (v := ?_) ?_ hHeld ?_
      rotate_left
      · (intro w _; go_simp; try with_reducible rfl)
      refine tkW 3 (some 21) (v := ?_) ?_ hHeld ?_
      rotate_left
      · (intro w _; go_simp; try with_reducible rfl)
      refine tkW 4 (some 22) (v := ?_) ?_ hHeld ?_
      rotate_left
      · (intro w _; go_simp; try with_reducible rfl)
      refine tkW 5 (some 23) (v := ?_) ?_ hHeld ?_
      rotate_left
      · (intro w hSw; (try dsimp only at hSw); have hk := hSw; obtain ⟨k_0, k_1, k_2, k_3, k_4, k_5, k_6, k_7, k_8, k_9, k_10, k_11, k_12⟩ := hk.all; obtain ⟨p_0, p_1, p_2, p_3, p_4, p_5, p_6, p_7, p_8, p_9, p_10, p_11, p_12⟩ := HP.out _ hk.2.2; go_simp; try with_reducible rfl)
      refine tkW 6 (some 24) (v := ?_) ?_ hHeld ?_
      rotate_left
      · (intro w hSw; (try dsimp only at hSw); have hk := hSw; obtain ⟨k_0, k_1, k_2, k_3, k_4, k_5, k_6, k_7, k_8, k_9, k_10, k_11, k_12⟩ := hk.all; obtain ⟨p_0, p_1, p_2, p_3, p_4, p_5, p_6, p_7, p_8, p_9, p_10, p_11, p_12⟩ := HP.out _ hk.2.2; go_simp; try with_reducible rfl)
      refine tkW 7 (some 25) (v := ?_) ?_ hHeld ?_
      rotate_left
      · (intro w hSw; (try dsimp only at hSw); have hk := hSw; obtain ⟨k_0, k_1, k_2, k_3, k_4, k_5, k_6, k_7, k_8, k_9, k_10, k_11, k_12⟩ := hk.all; obtain ⟨p_0, p_1, p_2, p_3, p_4, p_5, p_6, p_7, p_8, p_9, p_10, p_11, p_12⟩ := HP.out _ hk.2.2; go_simp; try with_reducible rfl)
      refine wpAnyH_ready (rs := [8]) (by kernel_rfl) (by simp) ?_
      refine AllReadyH.cons (o := ⟨some 26, _, _, _, _, _⟩) rfl (fun K hK => ?_) AllReadyH.nil
      go_simp
      refine (refSameCh_any ac2 ar2 sq2 (.slice a2 ds2.length e2') kd2 nc2 nr2 pc2 pr2 fc2 fr2 nm2 vl2 ac ar sq (.slice a0 ds.length c0) kd nc nr pc pr fc fr nm vl ds2 ds _ (HI2.out _ hHeld.2.2) (HIc.out.below hHeld.2.2)).mono ?_
      rintro e Ua7u1 ⟨ele, hb⟩
      rw [← HSq.out] at ele
      subst ele
      (try go_wp2_with fail)
      refine hK.out _ _ (hHeld.step hb) (fun hHeld2 => ?_)
      clear hK K hHeld
      have hHeld := hHeld2
      clear hHeld2
      (try simp only [Act.put, List.setIfInBounds_toArray, List.set_cons_zero, List.set_cons_succ])
      clear hb
      refine tkW 9 (some 27) (v := ?_) ?_ hHeld ?_
      rotate_left
      · (intro w _; go_simp; try with_reducible rfl)
      refine wpAnyH_done (by kernel_rfl) ?_ _
      have HK3 : Hid (KeptC w w.heap.size [.int .i64 ac, .int .i64 ar, .int .i64 sq, .slice a0 ds.length c0, .int .i64 kd, .int .i64 nc, .int .i64 nr, .int .i64 pc, .int .i64 pr, .int .i64 fc, .int .i64 fr, .string nm, .string vl] Ua7u1) := hHeld
      clear hHeld
      cases sb
      · have hw4 : Hid (ww = 7) := by rw [HV.out]; exact (rfl : (7 : Int) = 7)
        go_wp2
        go_ret
        exact ⟨ret_i hw4.out.symm, HK3.out.2.2⟩
      · have hw4 : Hid (ww = 5) := by rw [HV.out]; exact (rfl : (5 : Int) = 5)
        go_wp2
        go_ret
        exact ⟨ret_i hw4.out.symm, HK3.out.2.2⟩
  · have HE2 : Hid (ww = checkCh (⟨ac, ar, sq, ds, kd, nc, nr, pc, pr, fc, fr, nm, vl⟩ : Ch)) := by rw [HE.out, if_pos hck]; exact (rfl : checkCh (⟨ac, ar, sq, ds, kd, nc, nr, pc, pr, fc, fr, nm, vl⟩ : Ch) = _)
    have HC2 : Hid (∀ W, Below w.heap.size w W → Calls Try.prog 26 #[.agg #[.int .i64 ac, .int .i64 ar, .int .i64 sq, .slice a0 ds.length c0, .int .i64 kd, .int .i64 nc, .int .i64 nr, .int .i64 pc, .int .i64 pr, .int .i64 fc, .int .i64 fr, .string nm, .string vl]] W fun e w' => e = .returned (.int .i64 (checkCh (⟨ac, ar, sq, ds, kd, nc, nr, pc, pr, fc, fr, nm, vl⟩ : Ch))) ∧ Below W.heap.size W w') := fun W hb => refCheckCh_any ac ar sq (.slice a0 ds.length c0) kd nc nr pc pr fc fr nm vl ds HSz.out.1 W (HIc.out.below hb)
    generalize checkCh (⟨ac, ar, sq, ds, kd, nc, nr, pc, pr, fc, fr, nm, vl⟩ : Ch) = cc at *
    have hq : (cc == 0) = false := by rw [beq_eq_false_iff_ne]; exact hck
    have hq2 : (cc != 0) = true := by rw [bne_iff_ne]; exact hck
    clear HE hck
    go_wp2_with fail
    refine (HC2.out _ HK1.out.2.2).mono ?_
    rintro e W2 ⟨rfl, hb2⟩
    have HB2 : Hid (Below w.heap.size w W2) := (HK1.out.step hb2).2.2
    clear hb2 k_0 k_1 k_2 k_3 k_4 k_5 k_6 k_7 k_8 k_9 k_10 k_11 k_12 HK1
    go_wp2
    go_ret
    exact ⟨ret_i HE2.out.symm, HB2.out⟩

end Go.Proofs.Ythndgmnckpimmaa

namespace Go.Proofs.Ythndgmnckpimmaa
open Go.RowKit
set_option linter.unusedVariables false
set_option linter.unusedSimpArgs false

theorem results_cell_row2 {P : Program} {fn : Func} {p u : Tmp} {ty : TypeId} (h : fn.results = #[.cell p ty, .tmp u]) (tmps : Array Value) (w : World) (g : Nat) (t : TypeId) (cs : Array Value) (fr : Nat × Nat) (d : TypeDesc)
    (hp : tmps.getD p undef = .pointer (some ⟨g, 0, none⟩)) (hg : w.heap[g]? = some (.cells cs t fr))
    (hu : P.underlying ty = some d) (hd : (match d with | .struct _ | .array _ _ => true | _ => false) = true) (hi : (P.info? ty).map (·.size) = some cs.size) {k : Value} (hk : tmps.getD u undef = k) :
    (results fn tmps).run P w = .ok (.tuple #[.agg cs, k]) w := by
  rw [results_cell_tmp h, hp, hk]
  simp [asAddr, run_loadVar_row w g t ty cs fr d hg hu hd hi]
theorem row2_cells {W : World} {b : Nat} {v0 v1 : Value} {t : TypeId} (h : W.heap[b]? = some (.cells #[v0, v1] t)) : W.cell? ⟨b, 0, none⟩ = some v0 ∧ W.cell? ⟨b, 1, none⟩ = some v1 ∧ W.frozen? ⟨b, 0, none⟩ = false ∧ W.frozen? ⟨b, 1, none⟩ = false :=
  ⟨by rw [cell_of_row W b 0 _ _ _ h]; rfl, by rw [cell_of_row W b 1 _ _ _ h]; rfl, frozen_of_row W b 0 _ _ h, frozen_of_row W b 1 _ _ h⟩
theorem row_set1 {W : World} {b i : Nat} {c : Array Value} {t : TypeId} {v : Value} (h : W.heap[b]? = some (.cells c t)) : (W.setCell ⟨b, i, none⟩ v).heap[b]? = some (.cells (c.setIfInBounds i v) t) := heap_setCell_same _ b i _ _ v h
theorem row_set2 {W : World} {b : Nat} {z0 z1 v0 v1 : Value} {t : TypeId} (h : W.heap[b]? = some (.cells #[z0, z1] t)) : ((W.setCell ⟨b, 0, none⟩ v0).setCell ⟨b, 1, none⟩ v1).heap[b]? = some (.cells #[v0, v1] t) := by
  have h1 := row_set1 (i := 0) (v := v0) h
  have h2 := row_set1 (i := 1) (v := v1) h1
  exact h2
def Boxes3 (b : Nat) (x c r : Array Value) (W : World) : Prop := W.heap[b]? = some (.cells x 52) ∧ W.heap[b + 1]? = some (.cells c 35) ∧ W.heap[b + 2]? = some (.cells r 52)
theorem Boxes3.below {b : Nat} {x c r : Array Value} {W W' : World} (h : Boxes3 b x c r W) (hb : Below W.heap.size W W') : Boxes3 b x c r W' :=
  ⟨(hb.block _ (row_lt h.1)).trans h.1, (hb.block _ (row_lt h.2.1)).trans h.2.1, (hb.block _ (row_lt h.2.2)).trans h.2.2⟩

set_option maxRecDepth 100000 in
set_option maxHeartbeats 8000000 in
theorem refAdd_any (G : Nat → Prop) (v : Value) (L : List Ch) (room : Int) (ac ar sq : Int) (dv : Value) (kd nc nr pc pr fc fr : Int) (nm vl : ByteArray) (ds : List Int) (w : World) (h1 : HFirm G w v L) (hd : IsI w dv ds) (hsz : Sized (⟨ac, ar, sq, ds, kd, nc, nr, pc, pr, fc, fr, nm, vl⟩ : Ch)) (hll : L.length ≤ 4096) :
    Calls Try.prog 19 #[.agg #[.int .i64 room, v], .agg #[.int .i64 ac, .int .i64 ar, .int .i64 sq, dv, .int .i64 kd, .int .i64 nc, .int .i64 nr, .int .i64 pc, .int .i64 pr, .int .i64 fc, .int .i64 fr, .string nm, .string vl]] w fun e w' => ∃ v', e = .returned (.tuple #[.agg #[.int .i64 room, v'], .int .i64 (whyR L room (⟨ac, ar, sq, ds, kd, nc, nr, pc, pr, fc, fr, nm, vl⟩ : Ch))]) ∧ HFirm (fun k => G k ∨ (w.heap.size ≤ k ∧ k < w'.heap.size)) w' v' (addL L room (⟨ac, ar, sq, ds, kd, nc, nr, pc, pr, fc, fr, nm, vl⟩ : Ch)) ∧ Below w.heap.size w w' := by
  have HFm : Hid (HFirm G w v L) := h1
  obtain ⟨a1, c1, e1⟩ := h1.isH.form
  subst e1
  have HIc : Hid (IsI w dv ds) := hd
  obtain ⟨a0, c0, e0⟩ := hd.form
  subst e0
  have HSz : Hid (Sized (⟨ac, ar, sq, ds, kd, nc, nr, pc, pr, fc, fr, nm, vl⟩ : Ch)) := hsz
  obtain ⟨W0, eW⟩ : ∃ X, X = ((w.alloc (.cells #[.int .i64 room, .slice a1 L.length c1] 52)).alloc (.cells #[.int .i64 ac, .int .i64 ar, .int .i64 sq, .slice a0 ds.length c0, .int .i64 kd, .int .i64 nc, .int .i64 nr, .int .i64 pc, .int .i64 pr, .int .i64 fc, .int .i64 fr, .string nm, .string vl] 35)).alloc (.cells #[.int .i64 0, .slice none 0 0] 52) := ⟨_, rfl⟩
  have HB3 : Hid (Boxes3 w.heap.size #[.int .i64 room, .slice a1 L.length c1] #[.int .i64 ac, .int .i64 ar, .int .i64 sq, .slice a0 ds.length c0, .int .i64 kd, .int .i64 nc, .int .i64 nr, .int .i64 pc, .int .i64 pr, .int .i64 fc, .int .i64 fr, .string nm, .string vl] #[.int .i64 0, .slice none 0 0] W0) := by
    rw [eW]
    refine ⟨?_, ?_, ?_⟩
    · exact (Below.heap_alloc _ _ _ (by simp; omega)).trans ((Below.heap_alloc _ _ _ (by simp)).trans (heap_alloc_new w _))
    · have h := heap_alloc_new (w.alloc (.cells #[.int .i64 room, .slice a1 L.length c1] 52)) (.cells #[.int .i64 ac, .int .i64 ar, .int .i64 sq, .slice a0 ds.length c0, .int .i64 kd, .int .i64 nc, .int .i64 nr, .int .i64 pc, .int .i64 pr, .int .i64 fc, .int .i64 fr, .string nm, .string vl] 35)
      rw [show (w.alloc (.cells #[.int .i64 room, .slice a1 L.length c1] 52)).heap.size = w.heap.size + 1 by simp] at h
      exact (Below.heap_alloc _ _ _ (by simp)).trans h
    · have h := heap_alloc_new ((w.alloc (.cells #[.int .i64 room, .slice a1 L.length c1] 52)).alloc (.cells #[.int .i64 ac, .int .i64 ar, .int .i64 sq, .slice a0 ds.length c0, .int .i64 kd, .int .i64 nc, .int .i64 nr, .int .i64 pc, .int .i64 pr, .int .i64 fc, .int .i64 fr, .string nm, .string vl] 35)) (.cells #[.int .i64 0, .slice none 0 0] 52)
      rw [show ((w.alloc (.cells #[.int .i64 room, .slice a1 L.length c1] 52)).alloc (.cells #[.int .i64 ac, .int .i64 ar, .int .i64 sq, .slice a0 ds.length c0, .int .i64 kd, .int .i64 nc, .int .i64 nr, .int .i64 pc, .int .i64 pr, .int .i64 fc, .int .i64 fr, .string nm, .string vl] 35)).heap.size = w.heap.size + 2 by simp] at h
      exact h
  have HBw : Hid (BelowH w W0) := by rw [eW]; exact (((Below.refl _ _).alloc (Nat.le_refl _) _).alloc (by simp) _).alloc (by simp; omega) _
  clear h1 hd hsz
  go_enter Try.func19, Try.ntmps19
  go_wp2_with fail
  rw [← eW]
  clear eW
  refine (refWhy_any _ L room ac ar sq (.slice a0 ds.length c0) kd nc nr pc pr fc fr nm vl ds _ (HFm.out.isH.below HBw.out) (HIc.out.below HBw.out) HSz.out).mono ?_
  rintro e W1 ⟨rfl, hb1⟩
  replace HB3 : Hid (Boxes3 w.heap.size #[.int .i64 room, .slice a1 L.length c1] #[.int .i64 ac, .int .i64 ar, .int .i64 sq, .slice a0 ds.length c0, .int .i64 kd, .int .i64 nc, .int .i64 nr, .int .i64 pc, .int .i64 pr, .int .i64 fc, .int .i64 fr, .string nm, .string vl] #[.int .i64 0, .slice none 0 0] W1) := HB3.out.below hb1
  replace HBw : Hid (BelowH w W1) := HBw.out.below hb1
  have HA : Hid (addL L room (⟨ac, ar, sq, ds, kd, nc, nr, pc, pr, fc, fr, nm, vl⟩ : Ch) = if whyR L room (⟨ac, ar, sq, ds, kd, nc, nr, pc, pr, fc, fr, nm, vl⟩ : Ch) = 0 then putC L (⟨ac, ar, sq, ds, kd, nc, nr, pc, pr, fc, fr, nm, vl⟩ : Ch) else L) := rfl
  obtain ⟨ww, hww⟩ : ∃ x, x = whyR L room (⟨ac, ar, sq, ds, kd, nc, nr, pc, pr, fc, fr, nm, vl⟩ : Ch) := ⟨_, rfl⟩
  rw [← hww] at HA ⊢
  have HWw : Hid (whyR L room (⟨ac, ar, sq, ds, kd, nc, nr, pc, pr, fc, fr, nm, vl⟩ : Ch) = ww) := hww.symm
  clear hb1 hww
  by_cases hw : ww = 0
  · subst hw
    have HA2 : Hid (addL L room (⟨ac, ar, sq, ds, kd, nc, nr, pc, pr, fc, fr, nm, vl⟩ : Ch) = putC L (⟨ac, ar, sq, ds, kd, nc, nr, pc, pr, fc, fr, nm, vl⟩ : Ch)) := HA.out
    clear HA
    go_upto_region 4 with fail
    refine wp_region_held_drew (S := fun W' => W'.heap[w.heap.size]? = some (.cells #[.int .i64 room, .slice a1 L.length c1] 52) ∧ W'.heap[w.heap.size + 1]? = some (.cells #[.int .i64 ac, .int .i64 ar, .int .i64 sq, .slice a0 ds.length c0, .int .i64 kd, .int .i64 nc, .int .i64 nr, .int .i64 pc, .int .i64 pr, .int .i64 fc, .int .i64 fr, .string nm, .string vl] 35)) (by kernel_rfl) ⟨HB3.out.1, HB3.out.2.1⟩ (fun hHeld => ?_)
    obtain ⟨Ua3u0, eW⟩ : ∃ X, X = W1.drew := ⟨_, rfl⟩
    have hb : Below W1.heap.size W1 Ua3u0 := by rw [eW]; exact (Below.refl _ _).drew
    replace HB3 : Hid (Boxes3 w.heap.size #[.int .i64 room, .slice a1 L.length c1] #[.int .i64 ac, .int .i64 ar, .int .i64 sq, .slice a0 ds.length c0, .int .i64 kd, .int .i64 nc, .int .i64 nr, .int .i64 pc, .int .i64 pr, .int .i64 fc, .int .i64 fr, .string nm, .string vl] #[.int .i64 0, .slice none 0 0] Ua3u0) := HB3.out.below hb
    replace HBw : Hid (BelowH w Ua3u0) := HBw.out.below hb
    rw [← eW] at hHeld ⊢
    clear eW hb
    refine tkW 0 (some 17) (v := ?_) ?_ hHeld ?_
    rotate_left
    · (intro w _; go_simp; try with_reducible rfl)
    refine tkW 1 (some 18) (v := ?_) ?_ hHeld ?_
    rotate_left
    · (intro w hSw; (try dsimp only at hSw); obtain ⟨hk, hk2⟩ := hSw; obtain ⟨x_0, x_1, _, _⟩ := row2_cells hk; obtain ⟨k_0, k_1, k_2, k_3, k_4, k_5, k_6, k_7, k_8, k_9, k_10, k_11, k_12⟩ := row_cells hk2; go_simp; try with_reducible rfl)
    refine tkW 2 (some 19) (v := ?_) ?_ hHeld ?_
    rotate_left
    · (intro w _; go_simp; try with_reducible rfl)
    refine tkW 3 (some 20) (v := ?_) ?_ hHeld ?_
    rotate_left
    · (intro w hSw; (try dsimp only at hSw); obtain ⟨hk, hk2⟩ := hSw; obtain ⟨x_0, x_1, _, _⟩ := row2_cells hk; obtain ⟨k_0, k_1, k_2, k_3, k_4, k_5, k_6, k_7, k_8, k_9, k_10, k_11, k_12⟩ := row_cells hk2; go_simp; try with_reducible rfl)
    refine tkW 4 (some 21) (v := ?_) ?_ hHeld ?_
    rotate_left
    · (intro w hSw; (try dsimp only at hSw); obtain ⟨hk, hk2⟩ := hSw; obtain ⟨x_0, x_1, _, _⟩ := row2_cells hk; obtain ⟨k_0, k_1, k_2, k_3, k_4, k_5, k_6, k_7, k_8, k_9, k_10, k_11, k_12⟩ := row_cells hk2; go_simp; try with_reducible rfl)
    refine wpAnyH_ready (rs := [5]) (by kernel_rfl) (by simp) ?_
    refine AllReadyH.cons (o := ⟨some 22, _, _, _, _, _⟩) rfl (fun K hK => ?_) AllReadyH.nil
    have HBw0 : Hid (BelowH w Ua3u0) := HBw
    have hsz6 : w.heap.size + 2 < Ua3u0.heap.size := row_lt HB3.out.2.2
    go_simp
    refine (refPut_any G _ L ac ar sq (.slice a0 ds.length c0) kd nc nr pc pr fc fr nm vl ds Ua3u0 (HFm.out.below HBw.out) (HIc.out.below HBw.out) HSz.out hll).mono ?_
    rintro e Ua3u1 ⟨v6, rfl, hf6, hb⟩
    (try go_wp2_with fail)
    refine hK.out _ _ (⟨(hb.block _ (row_lt hHeld.1)).trans hHeld.1, (hb.block _ (row_lt hHeld.2)).trans hHeld.2⟩) (fun hHeld2 => ?_)
    clear hK K hHeld
    have hHeld := hHeld2
    clear hHeld2
    (try simp only [Act.put, List.setIfInBounds_toArray, List.set_cons_zero, List.set_cons_succ])
    replace HB3 : Hid (Boxes3 w.heap.size #[.int .i64 room, .slice a1 L.length c1] #[.int .i64 ac, .int .i64 ar, .int .i64 sq, .slice a0 ds.length c0, .int .i64 kd, .int .i64 nc, .int .i64 nr, .int .i64 pc, .int .i64 pr, .int .i64 fc, .int .i64 fr, .string nm, .string vl] #[.int .i64 0, .slice none 0 0] Ua3u1) := HB3.out.below hb
    replace HBw : Hid (BelowH w Ua3u1) := HBw.out.below hb
    have HF6 : Hid (HFirm (fun k => G k ∨ (Ua3u0.heap.size ≤ k ∧ k < Ua3u1.heap.size)) Ua3u1 v6 (putC L (⟨ac, ar, sq, ds, kd, nc, nr, pc, pr, fc, fr, nm, vl⟩ : Ch))) := hf6
    have hs6 : w.heap.size + 2 < Ua3u0.heap.size := hsz6
    obtain ⟨a6, c6, e6⟩ := hf6.isH.form
    subst e6
    clear hf6 HBw0 hsz6
    clear hb
    refine tkW 6 (some 23) (v := ?_) ?_ hHeld ?_
    rotate_left
    · (intro w hSw; (try dsimp only at hSw); obtain ⟨hk, hk2⟩ := hSw; obtain ⟨x_0, x_1, _, _⟩ := row2_cells hk; obtain ⟨k_0, k_1, k_2, k_3, k_4, k_5, k_6, k_7, k_8, k_9, k_10, k_11, k_12⟩ := row_cells hk2; go_simp; try with_reducible rfl)
    refine wpAnyH_ready (rs := [7]) (by kernel_rfl) (by simp) ?_
    refine AllReadyH.cons (o := ⟨none, _, _, _, _, _⟩) rfl (fun K hK => ?_) AllReadyH.nil
    obtain ⟨r_0, r_1, r_2, r_3⟩ := row2_cells HB3.out.2.2
    go_simp
    refine hK.out _ _ (⟨(row_set_other (row_set_other hHeld.1 (by omega)) (by omega)), (row_set_other (row_set_other hHeld.2 (by omega)) (by omega))⟩) (fun hHeld2 => ?_)
    clear hK K hHeld
    have hHeld := hHeld2
    clear hHeld2
    (try simp only [Act.put, List.setIfInBounds_toArray, List.set_cons_zero, List.set_cons_succ])
    have hsame := row_set2 (v0 := .int .i64 room) (v1 := (.slice a6 (putC L (⟨ac, ar, sq, ds, kd, nc, nr, pc, pr, fc, fr, nm, vl⟩ : Ch)).length c6)) HB3.out.2.2
    have HBf : Hid (Below w.heap.size w ((Ua3u1.setCell ⟨w.heap.size + 2, 0, none⟩ (.int .i64 room)).setCell ⟨w.heap.size + 2, 1, none⟩ (.slice a6 (putC L (⟨ac, ar, sq, ds, kd, nc, nr, pc, pr, fc, fr, nm, vl⟩ : Ch)).length c6))) := (HBw.out.setCell (p := ⟨w.heap.size + 2, 0, none⟩) (by show w.heap.size ≤ w.heap.size + 2; omega) _).setCell (p := ⟨w.heap.size + 2, 1, none⟩) (by show w.heap.size ≤ w.heap.size + 2; omega) _
    clear r_0 r_1 r_2 r_3
    refine tkW 8 (some 5) (v := ?_) ?_ hHeld ?_
    rotate_left
    · (intro w _; go_simp; try with_reducible rfl)
    refine wpAnyH_done (by kernel_rfl) ?_ _
    clear hHeld
    have hfin : HFirm (fun k => G k ∨ (Ua3u0.heap.size ≤ k ∧ k < Ua3u1.heap.size)) ((Ua3u1.setCell ⟨w.heap.size + 2, 0, none⟩ (.int .i64 room)).setCell ⟨w.heap.size + 2, 1, none⟩ (.slice a6 (putC L (⟨ac, ar, sq, ds, kd, nc, nr, pc, pr, fc, fr, nm, vl⟩ : Ch)).length c6)) (.slice a6 (putC L (⟨ac, ar, sq, ds, kd, nc, nr, pc, pr, fc, fr, nm, vl⟩ : Ch)).length c6) (putC L (⟨ac, ar, sq, ds, kd, nc, nr, pc, pr, fc, fr, nm, vl⟩ : Ch)) := by
      refine HF6.out.keep ⟨by simp [World.setCell], fun k hk => ?_⟩
      have hne : k ≠ w.heap.size + 2 := by
        rcases hk with hk | hk
        · have := HFm.out.1 k hk; omega
        · omega
      exact (RowKit.Below.heap_setCell _ _ _ _ hne).trans (RowKit.Below.heap_setCell _ _ _ _ hne)
    have HFin : Hid (HFirm (fun k => G k ∨ (w.heap.size ≤ k ∧ k < ((Ua3u1.setCell ⟨w.heap.size + 2, 0, none⟩ (.int .i64 room)).setCell ⟨w.heap.size + 2, 1, none⟩ (.slice a6 (putC L (⟨ac, ar, sq, ds, kd, nc, nr, pc, pr, fc, fr, nm, vl⟩ : Ch)).length c6)).heap.size)) ((Ua3u1.setCell ⟨w.heap.size + 2, 0, none⟩ (.int .i64 room)).setCell ⟨w.heap.size + 2, 1, none⟩ (.slice a6 (putC L (⟨ac, ar, sq, ds, kd, nc, nr, pc, pr, fc, fr, nm, vl⟩ : Ch)).length c6)) (.slice a6 (putC L (⟨ac, ar, sq, ds, kd, nc, nr, pc, pr, fc, fr, nm, vl⟩ : Ch)).length c6) (putC L (⟨ac, ar, sq, ds, kd, nc, nr, pc, pr, fc, fr, nm, vl⟩ : Ch))) :=
      hfin.mono (fun k hk => hk.imp id (fun q => ⟨by omega, by simpa [World.setCell] using q.2⟩)) (fun k hk => hk.elim (fun q => Nat.lt_of_lt_of_le (HFm.out.1 k q) HBf.out.size) (fun q => q.2))
    have HSm : Hid (((Ua3u1.setCell ⟨w.heap.size + 2, 0, none⟩ (.int .i64 room)).setCell ⟨w.heap.size + 2, 1, none⟩ (.slice a6 (putC L (⟨ac, ar, sq, ds, kd, nc, nr, pc, pr, fc, fr, nm, vl⟩ : Ch)).length c6)).heap[w.heap.size + 2]? = some (.cells #[.int .i64 room, .slice a6 (putC L (⟨ac, ar, sq, ds, kd, nc, nr, pc, pr, fc, fr, nm, vl⟩ : Ch)).length c6] 52)) := hsame
    clear hfin hsame HF6
    go_wp2
    (try simp only [Exit.inBlock, Exit.then])
    refine bodyPost_ret (v := .tuple #[.agg #[.int .i64 room, .slice a6 (putC L (⟨ac, ar, sq, ds, kd, nc, nr, pc, pr, fc, fr, nm, vl⟩ : Ch)).length c6], .int .i64 0]) ?res2 rfl ?post2
    case res2 => exact results_cell_row2 rfl _ _ (w.heap.size + 2) _ _ _ _ rfl HSm.out Try.underlying52 rfl (by kernel_rfl) rfl
    refine ⟨_, by rw [HWw.out], ?_, HBf.out⟩
    rw [HA2.out]
    exact HFin.out
  · have HA2 : Hid (addL L room (⟨ac, ar, sq, ds, kd, nc, nr, pc, pr, fc, fr, nm, vl⟩ : Ch) = L) := by have h := HA.out; rw [if_neg hw] at h; exact h
    have hq : (ww == 0) = false := by rw [beq_eq_false_iff_ne]; exact hw
    have hq2 : (ww != 0) = true := by rw [bne_iff_ne]; exact hw
    obtain ⟨x_0, x_1, _, _⟩ := row2_cells HB3.out.1
    obtain ⟨r_0, r_1, r_2, r_3⟩ := row2_cells HB3.out.2.2
    have hsame := row_set2 (v0 := .int .i64 room) (v1 := .slice a1 L.length c1) HB3.out.2.2
    have HBf : Hid (Below w.heap.size w ((W1.setCell ⟨w.heap.size + 2, 0, none⟩ (.int .i64 room)).setCell ⟨w.heap.size + 2, 1, none⟩ (.slice a1 L.length c1))) := (HBw.out.setCell (p := ⟨w.heap.size + 2, 0, none⟩) (by show w.heap.size ≤ w.heap.size + 2; omega) _).setCell (p := ⟨w.heap.size + 2, 1, none⟩) (by show w.heap.size ≤ w.heap.size + 2; omega) _
    have HSm : Hid (((W1.setCell ⟨w.heap.size + 2, 0, none⟩ (.int .i64 room)).setCell ⟨w.heap.size + 2, 1, none⟩ (.slice a1 L.length c1)).heap[w.heap.size + 2]? = some (.cells #[.int .i64 room, .slice a1 L.length c1] 52)) := hsame
    clear hw HA hsame
    go_wp2
    (try simp only [Exit.inBlock, Exit.then])
    refine bodyPost_ret (v := .tuple #[.agg #[.int .i64 room, .slice a1 L.length c1], .int .i64 ww]) ?res rfl ?post
    case res => exact results_cell_row2 rfl _ _ (w.heap.size + 2) _ _ _ _ rfl HSm.out Try.underlying52 rfl (by kernel_rfl) rfl
    refine ⟨_, by rw [HWw.out], ?_, HBf.out⟩
    rw [HA2.out]
    exact (HFm.out.below HBf.out).mono (fun k hk => .inl hk) (fun k hk => hk.elim (fun q => Nat.lt_of_lt_of_le (HFm.out.1 k q) HBf.out.size) (fun q => q.2))

end Go.Proofs.Ythndgmnckpimmaa
