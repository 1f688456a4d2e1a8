/- The stamps that a change names: change.Names, of any change. -/
import Derived.Test.YtngldpabfpcaiaaGreatSrtB
import Derived.Test.YtngldpabfpcaiaaGreatWcA
import Derived.Test.YtngldpabfpcaiaaGreatPlainL
import Derived.Deep.AppendLies
namespace Go.Proofs.YtngldpabfpcaiaaGreat
open Go.RowKit
set_option linter.unusedVariables false
set_option linter.unusedSimpArgs false

theorem filter_next {p : Int × Int → Bool} {X : List (Int × Int)} {k : Nat} (h : k < X.length) : (X.take (k + 1)).filter p = (X.take k).filter p ++ (if p X[k] = true then [X[k]] else []) := by
  rw [List.take_succ_eq_append_getElem h, List.filter_append, List.filter_cons, List.filter_nil]
theorem filter_on {p : Int × Int → Bool} {X : List (Int × Int)} {k : Nat} {D : List (Int × Int)} (h : k < X.length) (hD : D = (X.take k).filter p) (hp : p X[k] = true) : D ++ [X[k]] = (X.take (k + 1)).filter p := by rw [filter_next h, if_pos hp, hD]
theorem filter_past {p : Int × Int → Bool} {X : List (Int × Int)} {k : Nat} {D : List (Int × Int)} (h : k < X.length) (hD : D = (X.take k).filter p) (hp : p X[k] = false) : D = (X.take (k + 1)).filter p := by rw [filter_next h, if_neg (by simp [hp]), List.append_nil, hD]
theorem namB2_not {ac ar c r : Int} (h : rightB c r = false) : namB2 ac ar (c, r) = false := by simp [namB2, h]
theorem namB2_own {ac ar : Int} : namB2 ac ar (ac, ar) = false := by simp [namB2]
theorem namB2_c {ac ar c r : Int} (h : rightB c r = true) (h2 : ¬ c = ac) : namB2 ac ar (c, r) = true := by simp [namB2, h, h2]
theorem namB2_r {ac ar c r : Int} (h : rightB c r = true) (h2 : ¬ r = ar) : namB2 ac ar (c, r) = true := by simp [namB2, h, h2]
theorem KeptC.grown {w0 : World} {b : Nat} {cs : List Value} {W W' : World} {row : Option Nat} (h : KeptC w0 b cs W) (hg : W.grownBy W' row) (hne : ∀ j, row = some j → b < j ∧ w0.heap.size ≤ j) : KeptC w0 b cs W' :=
  ⟨fun i v e => (hg.cell_far ⟨b, i, none⟩ h.2.1 (fun e2 => by have := (hne b e2.symm).1; omega)).trans (h.1 i v e), Nat.lt_of_lt_of_le h.2.1 hg.size, h.2.2.grown hg h.2.2.size (fun j e => (hne j e).2)⟩

set_option maxRecDepth 100000 in
set_option maxHeartbeats 8000000 in
/-- change.Names. -/
theorem names_any (ac ar sq : Int) (dv : Value) (kd nc nr pc pr fc fr : Int) (nm vl : ByteArray) (ds : List Int) (w : World) :
    Calls Tryz.prog 65 #[.agg #[.int .i64 ac, .int .i64 ar, .int .i64 sq, dv, .int .i64 kd, .int .i64 nc, .int .i64 nr, .int .i64 pc, .int .i64 pr, .int .i64 fc, .int .i64 fr, .string nm, .string vl]] w fun e w' => ∃ v', e = .returned v' ∧ S.OwnS w.heap.size w' v' (S.sortL (namesL ⟨ac, ar, sq, ds, kd, nc, nr, pc, pr, fc, fr, nm, vl⟩)) ∧ Below w.heap.size w w' := by
  obtain ⟨i0, hi, hz0, hz1, hz2⟩ := info_parts S.infoStamp
  have K0 := KeptC.start w [.int .i64 ac, .int .i64 ar, .int .i64 sq, dv, .int .i64 kd, .int .i64 nc, .int .i64 nr, .int .i64 pc, .int .i64 pr, .int .i64 fc, .int .i64 fr, .string nm, .string vl] 38
  have R0 := KeptC.start (w.alloc (.cells #[.int .i64 ac, .int .i64 ar, .int .i64 sq, dv, .int .i64 kd, .int .i64 nc, .int .i64 nr, .int .i64 pc, .int .i64 pr, .int .i64 fc, .int .i64 fr, .string nm, .string vl] 38)) [.int .i64 nc, .int .i64 nr, .int .i64 pc, .int .i64 pr, .int .i64 fc, .int .i64 fr] 36
  rw [show (w.alloc (.cells #[.int .i64 ac, .int .i64 ar, .int .i64 sq, dv, .int .i64 kd, .int .i64 nc, .int .i64 nr, .int .i64 pc, .int .i64 pr, .int .i64 fc, .int .i64 fr, .string nm, .string vl] 38)).heap.size = w.heap.size + 1 by simp] at R0
  have HK0 : Hid (KeptC w w.heap.size [.int .i64 ac, .int .i64 ar, .int .i64 sq, dv, .int .i64 kd, .int .i64 nc, .int .i64 nr, .int .i64 pc, .int .i64 pr, .int .i64 fc, .int .i64 fr, .string nm, .string vl] ((w.alloc (.cells #[.int .i64 ac, .int .i64 ar, .int .i64 sq, dv, .int .i64 kd, .int .i64 nc, .int .i64 nr, .int .i64 pc, .int .i64 pr, .int .i64 fc, .int .i64 fr, .string nm, .string vl] 38)).alloc (.cells #[.int .i64 nc, .int .i64 nr, .int .i64 pc, .int .i64 pr, .int .i64 fc, .int .i64 fr] 36))) := K0.step R0.2.2
  have HR0 : Hid (KeptC w (w.heap.size + 1) [.int .i64 nc, .int .i64 nr, .int .i64 pc, .int .i64 pr, .int .i64 fc, .int .i64 fr] ((w.alloc (.cells #[.int .i64 ac, .int .i64 ar, .int .i64 sq, dv, .int .i64 kd, .int .i64 nc, .int .i64 nr, .int .i64 pc, .int .i64 pr, .int .i64 fc, .int .i64 fr, .string nm, .string vl] 38)).alloc (.cells #[.int .i64 nc, .int .i64 nr, .int .i64 pc, .int .i64 pr, .int .i64 fc, .int .i64 fr] 36))) := ⟨R0.1, R0.2.1, HK0.out.2.2⟩
  have HN0 : Hid (namesL ⟨ac, ar, sq, ds, kd, nc, nr, pc, pr, fc, fr, nm, vl⟩ = ([(nc, nr), (pc, pr), (fc, fr)] : List (Int × Int)).filter (namB2 ac ar)) := rfl
  clear K0 R0
  go_enter Tryz.func65, Tryz.ntmps65
  go_wp2
  go_loopw [3, 5, 14] (fun ov _ iv wr => ∃ (k : Nat) (D : List (Int × Int)), k ≤ 3 ∧ D.length ≤ k ∧ iv = .int .i64 (k : Int) ∧ Hid (D = (([(nc, nr), (pc, pr), (fc, fr)] : List (Int × Int)).take k).filter (namB2 ac ar)) ∧ Hid (S.OwnS (w.heap.size + 2) wr ov D) ∧ Hid (KeptC w w.heap.size [.int .i64 ac, .int .i64 ar, .int .i64 sq, dv, .int .i64 kd, .int .i64 nc, .int .i64 nr, .int .i64 pc, .int .i64 pr, .int .i64 fc, .int .i64 fr, .string nm, .string vl] wr) ∧ Hid (KeptC w (w.heap.size + 1) [.int .i64 nc, .int .i64 nr, .int .i64 pc, .int .i64 pr, .int .i64 fc, .int .i64 fr] wr)) (fun _ _ iv _ => 3 - (intOf iv).toNat)
  case atStart => exact ⟨0, [], by omega, by simp, rfl, rfl, S.OwnS.nil0 _ _, HK0, HR0⟩
  case round =>
    obtain ⟨k, D, hk, hDl, rfl, HT, HO, HK, HR⟩ := hrel
    obtain ⟨ao, co, e0⟩ := HO.out.form
    subst e0
    have hszk := HK.out.2.1
    have hszr := HR.out.2.1
    obtain rfl | rfl | rfl | rfl : k = 0 ∨ k = 1 ∨ k = 2 ∨ k = 3 := by omega
    · have HT0 : Hid (D = (([(nc, nr), (pc, pr), (fc, fr)] : List (Int × Int)).take 0).filter (namB2 ac ar)) := HT
      have x1 := HR.out.1 0 _ rfl
      have x2 := HR.out.1 1 _ rfl
      have KB0 := KeptC.start wr [.int .i64 nc, .int .i64 nr] 36
      have hi0 : (0 : Int) ≤ 0 := by omega
      have hi1 : (0 : Int) < 3 := by omega
      cases hrt : rightB nc nr
      · go_wp2_with fail
        refine (right_any nc nr _).mono ?_
        rintro e w1 ⟨rfl, hw⟩
        have hb1 : Below (wr.alloc (.cells #[.int .i64 nc, .int .i64 nr] 36)).heap.size (wr.alloc (.cells #[.int .i64 nc, .int .i64 nr] 36)) w1 := by rw [hw]; exact (Below.refl _ _).alloc (Nat.le_refl _) _
        have bw : Hid (Below wr.heap.size wr w1) := KB0.2.2.trans (hb1.mono KB0.2.2.size)
        have KB1 := KB0.step hb1
        have HK1 : Hid (KeptC w w.heap.size [.int .i64 ac, .int .i64 ar, .int .i64 sq, dv, .int .i64 kd, .int .i64 nc, .int .i64 nr, .int .i64 pc, .int .i64 pr, .int .i64 fc, .int .i64 fr, .string nm, .string vl] w1) := HK.out.step bw.out
        have HR1 : Hid (KeptC w (w.heap.size + 1) [.int .i64 nc, .int .i64 nr, .int .i64 pc, .int .i64 pr, .int .i64 fc, .int .i64 fr] w1) := HR.out.step bw.out
        have HO1 : Hid (S.OwnS (w.heap.size + 2) w1 (.slice ao D.length co) D) := HO.out.below bw.out
        have y1 := KB1.1 0 _ rfl
        have y2 := KB1.1 1 _ rfl
        have z1 := HK1.out.1 0 _ rfl
        have z2 := HK1.out.1 1 _ rfl
        have hsz1 := bw.out.size
        clear hw
        rw [hrt]
        go_wp2
        go_roundw
        case rel => exact ⟨1, D, by omega, by omega, by first | rfl | go_num, (filter_past (X := [(nc, nr), (pc, pr), (fc, fr)]) (k := 0) (by simp) HT0.out (namB2_not hrt)), HO1, HK1, HR1⟩
        case measure => simp [intOf]
      · by_cases ec : nc = ac
        · by_cases er : nr = ar
          · have qc : (nc == ac) = true := by simp [ec]
            have qr : (nr == ar) = true := by simp [er]
            have qc2 : (nc != ac) = false := by simp [ec]
            have qr2 : (nr != ar) = false := by simp [er]
            have HP : Hid (namB2 ac ar (nc, nr) = false) := by rw [ec, er]; exact namB2_own
            clear ec er
            go_wp2_with fail
            refine (right_any nc nr _).mono ?_
            rintro e w1 ⟨rfl, hw⟩
            have hb1 : Below (wr.alloc (.cells #[.int .i64 nc, .int .i64 nr] 36)).heap.size (wr.alloc (.cells #[.int .i64 nc, .int .i64 nr] 36)) w1 := by rw [hw]; exact (Below.refl _ _).alloc (Nat.le_refl _) _
            have bw : Hid (Below wr.heap.size wr w1) := KB0.2.2.trans (hb1.mono KB0.2.2.size)
            have KB1 := KB0.step hb1
            have HK1 : Hid (KeptC w w.heap.size [.int .i64 ac, .int .i64 ar, .int .i64 sq, dv, .int .i64 kd, .int .i64 nc, .int .i64 nr, .int .i64 pc, .int .i64 pr, .int .i64 fc, .int .i64 fr, .string nm, .string vl] w1) := HK.out.step bw.out
            have HR1 : Hid (KeptC w (w.heap.size + 1) [.int .i64 nc, .int .i64 nr, .int .i64 pc, .int .i64 pr, .int .i64 fc, .int .i64 fr] w1) := HR.out.step bw.out
            have HO1 : Hid (S.OwnS (w.heap.size + 2) w1 (.slice ao D.length co) D) := HO.out.below bw.out
            have y1 := KB1.1 0 _ rfl
            have y2 := KB1.1 1 _ rfl
            have z1 := HK1.out.1 0 _ rfl
            have z2 := HK1.out.1 1 _ rfl
            have hsz1 := bw.out.size
            clear hw
            rw [hrt]
            go_wp2
            go_roundw
            case rel => exact ⟨1, D, by omega, by omega, by first | rfl | go_num, (filter_past (X := [(nc, nr), (pc, pr), (fc, fr)]) (k := 0) (by simp) HT0.out HP.out), HO1, HK1, HR1⟩
            case measure => simp [intOf]
          · have qc : (nc == ac) = true := by simp [ec]
            have qr : (nr == ar) = false := by simp [er]
            have qr2 : (nr != ar) = true := by simp [er]
            have HP : Hid (namB2 ac ar (nc, nr) = true) := namB2_r hrt er
            clear ec er
            go_wp2_with fail
            refine (right_any nc nr _).mono ?_
            rintro e w1 ⟨rfl, hw⟩
            have hb1 : Below (wr.alloc (.cells #[.int .i64 nc, .int .i64 nr] 36)).heap.size (wr.alloc (.cells #[.int .i64 nc, .int .i64 nr] 36)) w1 := by rw [hw]; exact (Below.refl _ _).alloc (Nat.le_refl _) _
            have bw : Hid (Below wr.heap.size wr w1) := KB0.2.2.trans (hb1.mono KB0.2.2.size)
            have KB1 := KB0.step hb1
            have HK1 : Hid (KeptC w w.heap.size [.int .i64 ac, .int .i64 ar, .int .i64 sq, dv, .int .i64 kd, .int .i64 nc, .int .i64 nr, .int .i64 pc, .int .i64 pr, .int .i64 fc, .int .i64 fr, .string nm, .string vl] w1) := HK.out.step bw.out
            have HR1 : Hid (KeptC w (w.heap.size + 1) [.int .i64 nc, .int .i64 nr, .int .i64 pc, .int .i64 pr, .int .i64 fc, .int .i64 fr] w1) := HR.out.step bw.out
            have HO1 : Hid (S.OwnS (w.heap.size + 2) w1 (.slice ao D.length co) D) := HO.out.below bw.out
            have y1 := KB1.1 0 _ rfl
            have y2 := KB1.1 1 _ rfl
            have z1 := HK1.out.1 0 _ rfl
            have z2 := HK1.out.1 1 _ rfl
            have hsz1 := bw.out.size
            clear hw
            rw [hrt]
            go_wp2_with (at_builtin; refine wpList_append_own _ rfl _ _ 74 rfl (w.heap.size + 2) 36 i0 (.agg #[.int .i64 0, .int .i64 0]) 2 16 Tryz.underlying74 hi hz0 hz1 hz2 rfl (by decide) _ _ _ rfl (World.ownsRow.alloc HO1.out _) ⟨w1.heap.size, 0, none⟩ 1 1 [.int .i64 nc, .int .i64 nr] rfl rfl (cell_two_new _ _ _ _) (fun x hx => by simp at hx; rcases hx with rfl | rfl <;> rfl) (by unfold maxLen; omega) (by omega) (by simp; omega) ?_; intro v3 w3 hown3 hgrow3 hnil3)
            have bal : Below w1.heap.size w1 (w1.alloc (.cells #[.int .i64 nc, .int .i64 nr] 36)) := (Below.refl _ _).alloc (Nat.le_refl _) _
            have HK3 : Hid (KeptC w w.heap.size [.int .i64 ac, .int .i64 ar, .int .i64 sq, dv, .int .i64 kd, .int .i64 nc, .int .i64 nr, .int .i64 pc, .int .i64 pr, .int .i64 fc, .int .i64 fr, .string nm, .string vl] w3) := (HK1.out.step bal).grown hgrow3 (fun j e => by have := HO1.out.block j e; omega)
            have HR3 : Hid (KeptC w (w.heap.size + 1) [.int .i64 nc, .int .i64 nr, .int .i64 pc, .int .i64 pr, .int .i64 fc, .int .i64 fr] w3) := (HR1.out.step bal).grown hgrow3 (fun j e => by have := HO1.out.block j e; omega)
            go_roundw
            case rel => exact ⟨1, D ++ [(nc, nr)], by omega, by rw [List.length_append, List.length_singleton]; omega, by first | rfl | go_num, (filter_on (X := [(nc, nr), (pc, pr), (fc, fr)]) (k := 0) (by simp) HT0.out HP.out), S.OwnS.snoc hown3, HK3, HR3⟩
            case measure => simp [intOf]
        · have qc : (nc == ac) = false := by simp [ec]
          have qc2 : (nc != ac) = true := by simp [ec]
          have HP : Hid (namB2 ac ar (nc, nr) = true) := namB2_c hrt ec
          clear ec
          go_wp2_with fail
          refine (right_any nc nr _).mono ?_
          rintro e w1 ⟨rfl, hw⟩
          have hb1 : Below (wr.alloc (.cells #[.int .i64 nc, .int .i64 nr] 36)).heap.size (wr.alloc (.cells #[.int .i64 nc, .int .i64 nr] 36)) w1 := by rw [hw]; exact (Below.refl _ _).alloc (Nat.le_refl _) _
          have bw : Hid (Below wr.heap.size wr w1) := KB0.2.2.trans (hb1.mono KB0.2.2.size)
          have KB1 := KB0.step hb1
          have HK1 : Hid (KeptC w w.heap.size [.int .i64 ac, .int .i64 ar, .int .i64 sq, dv, .int .i64 kd, .int .i64 nc, .int .i64 nr, .int .i64 pc, .int .i64 pr, .int .i64 fc, .int .i64 fr, .string nm, .string vl] w1) := HK.out.step bw.out
          have HR1 : Hid (KeptC w (w.heap.size + 1) [.int .i64 nc, .int .i64 nr, .int .i64 pc, .int .i64 pr, .int .i64 fc, .int .i64 fr] w1) := HR.out.step bw.out
          have HO1 : Hid (S.OwnS (w.heap.size + 2) w1 (.slice ao D.length co) D) := HO.out.below bw.out
          have y1 := KB1.1 0 _ rfl
          have y2 := KB1.1 1 _ rfl
          have z1 := HK1.out.1 0 _ rfl
          have z2 := HK1.out.1 1 _ rfl
          have hsz1 := bw.out.size
          clear hw
          rw [hrt]
          go_wp2_with (at_builtin; refine wpList_append_own _ rfl _ _ 74 rfl (w.heap.size + 2) 36 i0 (.agg #[.int .i64 0, .int .i64 0]) 2 16 Tryz.underlying74 hi hz0 hz1 hz2 rfl (by decide) _ _ _ rfl (World.ownsRow.alloc HO1.out _) ⟨w1.heap.size, 0, none⟩ 1 1 [.int .i64 nc, .int .i64 nr] rfl rfl (cell_two_new _ _ _ _) (fun x hx => by simp at hx; rcases hx with rfl | rfl <;> rfl) (by unfold maxLen; omega) (by omega) (by simp; omega) ?_; intro v3 w3 hown3 hgrow3 hnil3)
          have bal : Below w1.heap.size w1 (w1.alloc (.cells #[.int .i64 nc, .int .i64 nr] 36)) := (Below.refl _ _).alloc (Nat.le_refl _) _
          have HK3 : Hid (KeptC w w.heap.size [.int .i64 ac, .int .i64 ar, .int .i64 sq, dv, .int .i64 kd, .int .i64 nc, .int .i64 nr, .int .i64 pc, .int .i64 pr, .int .i64 fc, .int .i64 fr, .string nm, .string vl] w3) := (HK1.out.step bal).grown hgrow3 (fun j e => by have := HO1.out.block j e; omega)
          have HR3 : Hid (KeptC w (w.heap.size + 1) [.int .i64 nc, .int .i64 nr, .int .i64 pc, .int .i64 pr, .int .i64 fc, .int .i64 fr] w3) := (HR1.out.step bal).grown hgrow3 (fun j e => by have := HO1.out.block j e; omega)
          go_roundw
          case rel => exact ⟨1, D ++ [(nc, nr)], by omega, by rw [List.length_append, List.length_singleton]; omega, by first | rfl | go_num, (filter_on (X := [(nc, nr), (pc, pr), (fc, fr)]) (k := 0) (by simp) HT0.out HP.out), S.OwnS.snoc hown3, HK3, HR3⟩
          case measure => simp [intOf]
    · have HT0 : Hid (D = (([(nc, nr), (pc, pr), (fc, fr)] : List (Int × Int)).take 1).filter (namB2 ac ar)) := HT
      have x1 := HR.out.1 2 _ rfl
      have x2 := HR.out.1 3 _ rfl
      have KB0 := KeptC.start wr [.int .i64 pc, .int .i64 pr] 36
      have hi0 : (0 : Int) ≤ 1 := by omega
      have hi1 : (1 : Int) < 3 := by omega
      cases hrt : rightB pc pr
      · go_wp2_with fail
        refine (right_any pc pr _).mono ?_
        rintro e w1 ⟨rfl, hw⟩
        have hb1 : Below (wr.alloc (.cells #[.int .i64 pc, .int .i64 pr] 36)).heap.size (wr.alloc (.cells #[.int .i64 pc, .int .i64 pr] 36)) w1 := by rw [hw]; exact (Below.refl _ _).alloc (Nat.le_refl _) _
        have bw : Hid (Below wr.heap.size wr w1) := KB0.2.2.trans (hb1.mono KB0.2.2.size)
        have KB1 := KB0.step hb1
        have HK1 : Hid (KeptC w w.heap.size [.int .i64 ac, .int .i64 ar, .int .i64 sq, dv, .int .i64 kd, .int .i64 nc, .int .i64 nr, .int .i64 pc, .int .i64 pr, .int .i64 fc, .int .i64 fr, .string nm, .string vl] w1) := HK.out.step bw.out
        have HR1 : Hid (KeptC w (w.heap.size + 1) [.int .i64 nc, .int .i64 nr, .int .i64 pc, .int .i64 pr, .int .i64 fc, .int .i64 fr] w1) := HR.out.step bw.out
        have HO1 : Hid (S.OwnS (w.heap.size + 2) w1 (.slice ao D.length co) D) := HO.out.below bw.out
        have y1 := KB1.1 0 _ rfl
        have y2 := KB1.1 1 _ rfl
        have z1 := HK1.out.1 0 _ rfl
        have z2 := HK1.out.1 1 _ rfl
        have hsz1 := bw.out.size
        clear hw
        rw [hrt]
        go_wp2
        go_roundw
        case rel => exact ⟨2, D, by omega, by omega, by first | rfl | go_num, (filter_past (X := [(nc, nr), (pc, pr), (fc, fr)]) (k := 1) (by simp) HT0.out (namB2_not hrt)), HO1, HK1, HR1⟩
        case measure => simp [intOf]
      · by_cases ec : pc = ac
        · by_cases er : pr = ar
          · have qc : (pc == ac) = true := by simp [ec]
            have qr : (pr == ar) = true := by simp [er]
            have qc2 : (pc != ac) = false := by simp [ec]
            have qr2 : (pr != ar) = false := by simp [er]
            have HP : Hid (namB2 ac ar (pc, pr) = false) := by rw [ec, er]; exact namB2_own
            clear ec er
            go_wp2_with fail
            refine (right_any pc pr _).mono ?_
            rintro e w1 ⟨rfl, hw⟩
            have hb1 : Below (wr.alloc (.cells #[.int .i64 pc, .int .i64 pr] 36)).heap.size (wr.alloc (.cells #[.int .i64 pc, .int .i64 pr] 36)) w1 := by rw [hw]; exact (Below.refl _ _).alloc (Nat.le_refl _) _
            have bw : Hid (Below wr.heap.size wr w1) := KB0.2.2.trans (hb1.mono KB0.2.2.size)
            have KB1 := KB0.step hb1
            have HK1 : Hid (KeptC w w.heap.size [.int .i64 ac, .int .i64 ar, .int .i64 sq, dv, .int .i64 kd, .int .i64 nc, .int .i64 nr, .int .i64 pc, .int .i64 pr, .int .i64 fc, .int .i64 fr, .string nm, .string vl] w1) := HK.out.step bw.out
            have HR1 : Hid (KeptC w (w.heap.size + 1) [.int .i64 nc, .int .i64 nr, .int .i64 pc, .int .i64 pr, .int .i64 fc, .int .i64 fr] w1) := HR.out.step bw.out
            have HO1 : Hid (S.OwnS (w.heap.size + 2) w1 (.slice ao D.length co) D) := HO.out.below bw.out
            have y1 := KB1.1 0 _ rfl
            have y2 := KB1.1 1 _ rfl
            have z1 := HK1.out.1 0 _ rfl
            have z2 := HK1.out.1 1 _ rfl
            have hsz1 := bw.out.size
            clear hw
            rw [hrt]
            go_wp2
            go_roundw
            case rel => exact ⟨2, D, by omega, by omega, by first | rfl | go_num, (filter_past (X := [(nc, nr), (pc, pr), (fc, fr)]) (k := 1) (by simp) HT0.out HP.out), HO1, HK1, HR1⟩
            case measure => simp [intOf]
          · have qc : (pc == ac) = true := by simp [ec]
            have qr : (pr == ar) = false := by simp [er]
            have qr2 : (pr != ar) = true := by simp [er]
            have HP : Hid (namB2 ac ar (pc, pr) = true) := namB2_r hrt er
            clear ec er
            go_wp2_with fail
            refine (right_any pc pr _).mono ?_
            rintro e w1 ⟨rfl, hw⟩
            have hb1 : Below (wr.alloc (.cells #[.int .i64 pc, .int .i64 pr] 36)).heap.size (wr.alloc (.cells #[.int .i64 pc, .int .i64 pr] 36)) w1 := by rw [hw]; exact (Below.refl _ _).alloc (Nat.le_refl _) _
            have bw : Hid (Below wr.heap.size wr w1) := KB0.2.2.trans (hb1.mono KB0.2.2.size)
            have KB1 := KB0.step hb1
            have HK1 : Hid (KeptC w w.heap.size [.int .i64 ac, .int .i64 ar, .int .i64 sq, dv, .int .i64 kd, .int .i64 nc, .int .i64 nr, .int .i64 pc, .int .i64 pr, .int .i64 fc, .int .i64 fr, .string nm, .string vl] w1) := HK.out.step bw.out
            have HR1 : Hid (KeptC w (w.heap.size + 1) [.int .i64 nc, .int .i64 nr, .int .i64 pc, .int .i64 pr, .int .i64 fc, .int .i64 fr] w1) := HR.out.step bw.out
            have HO1 : Hid (S.OwnS (w.heap.size + 2) w1 (.slice ao D.length co) D) := HO.out.below bw.out
            have y1 := KB1.1 0 _ rfl
            have y2 := KB1.1 1 _ rfl
            have z1 := HK1.out.1 0 _ rfl
            have z2 := HK1.out.1 1 _ rfl
            have hsz1 := bw.out.size
            clear hw
            rw [hrt]
            go_wp2_with (at_builtin; refine wpList_append_own _ rfl _ _ 74 rfl (w.heap.size + 2) 36 i0 (.agg #[.int .i64 0, .int .i64 0]) 2 16 Tryz.underlying74 hi hz0 hz1 hz2 rfl (by decide) _ _ _ rfl (World.ownsRow.alloc HO1.out _) ⟨w1.heap.size, 0, none⟩ 1 1 [.int .i64 pc, .int .i64 pr] rfl rfl (cell_two_new _ _ _ _) (fun x hx => by simp at hx; rcases hx with rfl | rfl <;> rfl) (by unfold maxLen; omega) (by omega) (by simp; omega) ?_; intro v3 w3 hown3 hgrow3 hnil3)
            have bal : Below w1.heap.size w1 (w1.alloc (.cells #[.int .i64 pc, .int .i64 pr] 36)) := (Below.refl _ _).alloc (Nat.le_refl _) _
            have HK3 : Hid (KeptC w w.heap.size [.int .i64 ac, .int .i64 ar, .int .i64 sq, dv, .int .i64 kd, .int .i64 nc, .int .i64 nr, .int .i64 pc, .int .i64 pr, .int .i64 fc, .int .i64 fr, .string nm, .string vl] w3) := (HK1.out.step bal).grown hgrow3 (fun j e => by have := HO1.out.block j e; omega)
            have HR3 : Hid (KeptC w (w.heap.size + 1) [.int .i64 nc, .int .i64 nr, .int .i64 pc, .int .i64 pr, .int .i64 fc, .int .i64 fr] w3) := (HR1.out.step bal).grown hgrow3 (fun j e => by have := HO1.out.block j e; omega)
            go_roundw
            case rel => exact ⟨2, D ++ [(pc, pr)], by omega, by rw [List.length_append, List.length_singleton]; omega, by first | rfl | go_num, (filter_on (X := [(nc, nr), (pc, pr), (fc, fr)]) (k := 1) (by simp) HT0.out HP.out), S.OwnS.snoc hown3, HK3, HR3⟩
            case measure => simp [intOf]
        · have qc : (pc == ac) = false := by simp [ec]
          have qc2 : (pc != ac) = true := by simp [ec]
          have HP : Hid (namB2 ac ar (pc, pr) = true) := namB2_c hrt ec
          clear ec
          go_wp2_with fail
          refine (right_any pc pr _).mono ?_
          rintro e w1 ⟨rfl, hw⟩
          have hb1 : Below (wr.alloc (.cells #[.int .i64 pc, .int .i64 pr] 36)).heap.size (wr.alloc (.cells #[.int .i64 pc, .int .i64 pr] 36)) w1 := by rw [hw]; exact (Below.refl _ _).alloc (Nat.le_refl _) _
          have bw : Hid (Below wr.heap.size wr w1) := KB0.2.2.trans (hb1.mono KB0.2.2.size)
          have KB1 := KB0.step hb1
          have HK1 : Hid (KeptC w w.heap.size [.int .i64 ac, .int .i64 ar, .int .i64 sq, dv, .int .i64 kd, .int .i64 nc, .int .i64 nr, .int .i64 pc, .int .i64 pr, .int .i64 fc, .int .i64 fr, .string nm, .string vl] w1) := HK.out.step bw.out
          have HR1 : Hid (KeptC w (w.heap.size + 1) [.int .i64 nc, .int .i64 nr, .int .i64 pc, .int .i64 pr, .int .i64 fc, .int .i64 fr] w1) := HR.out.step bw.out
          have HO1 : Hid (S.OwnS (w.heap.size + 2) w1 (.slice ao D.length co) D) := HO.out.below bw.out
          have y1 := KB1.1 0 _ rfl
          have y2 := KB1.1 1 _ rfl
          have z1 := HK1.out.1 0 _ rfl
          have z2 := HK1.out.1 1 _ rfl
          have hsz1 := bw.out.size
          clear hw
          rw [hrt]
          go_wp2_with (at_builtin; refine wpList_append_own _ rfl _ _ 74 rfl (w.heap.size + 2) 36 i0 (.agg #[.int .i64 0, .int .i64 0]) 2 16 Tryz.underlying74 hi hz0 hz1 hz2 rfl (by decide) _ _ _ rfl (World.ownsRow.alloc HO1.out _) ⟨w1.heap.size, 0, none⟩ 1 1 [.int .i64 pc, .int .i64 pr] rfl rfl (cell_two_new _ _ _ _) (fun x hx => by simp at hx; rcases hx with rfl | rfl <;> rfl) (by unfold maxLen; omega) (by omega) (by simp; omega) ?_; intro v3 w3 hown3 hgrow3 hnil3)
          have bal : Below w1.heap.size w1 (w1.alloc (.cells #[.int .i64 pc, .int .i64 pr] 36)) := (Below.refl _ _).alloc (Nat.le_refl _) _
          have HK3 : Hid (KeptC w w.heap.size [.int .i64 ac, .int .i64 ar, .int .i64 sq, dv, .int .i64 kd, .int .i64 nc, .int .i64 nr, .int .i64 pc, .int .i64 pr, .int .i64 fc, .int .i64 fr, .string nm, .string vl] w3) := (HK1.out.step bal).grown hgrow3 (fun j e => by have := HO1.out.block j e; omega)
          have HR3 : Hid (KeptC w (w.heap.size + 1) [.int .i64 nc, .int .i64 nr, .int .i64 pc, .int .i64 pr, .int .i64 fc, .int .i64 fr] w3) := (HR1.out.step bal).grown hgrow3 (fun j e => by have := HO1.out.block j e; omega)
          go_roundw
          case rel => exact ⟨2, D ++ [(pc, pr)], by omega, by rw [List.length_append, List.length_singleton]; omega, by first | rfl | go_num, (filter_on (X := [(nc, nr), (pc, pr), (fc, fr)]) (k := 1) (by simp) HT0.out HP.out), S.OwnS.snoc hown3, HK3, HR3⟩
          case measure => simp [intOf]
    · have HT0 : Hid (D = (([(nc, nr), (pc, pr), (fc, fr)] : List (Int × Int)).take 2).filter (namB2 ac ar)) := HT
      have x1 := HR.out.1 4 _ rfl
      have x2 := HR.out.1 5 _ rfl
      have KB0 := KeptC.start wr [.int .i64 fc, .int .i64 fr] 36
      have hi0 : (0 : Int) ≤ 2 := by omega
      have hi1 : (2 : Int) < 3 := by omega
      cases hrt : rightB fc fr
      · go_wp2_with fail
        refine (right_any fc fr _).mono ?_
        rintro e w1 ⟨rfl, hw⟩
        have hb1 : Below (wr.alloc (.cells #[.int .i64 fc, .int .i64 fr] 36)).heap.size (wr.alloc (.cells #[.int .i64 fc, .int .i64 fr] 36)) w1 := by rw [hw]; exact (Below.refl _ _).alloc (Nat.le_refl _) _
        have bw : Hid (Below wr.heap.size wr w1) := KB0.2.2.trans (hb1.mono KB0.2.2.size)
        have KB1 := KB0.step hb1
        have HK1 : Hid (KeptC w w.heap.size [.int .i64 ac, .int .i64 ar, .int .i64 sq, dv, .int .i64 kd, .int .i64 nc, .int .i64 nr, .int .i64 pc, .int .i64 pr, .int .i64 fc, .int .i64 fr, .string nm, .string vl] w1) := HK.out.step bw.out
        have HR1 : Hid (KeptC w (w.heap.size + 1) [.int .i64 nc, .int .i64 nr, .int .i64 pc, .int .i64 pr, .int .i64 fc, .int .i64 fr] w1) := HR.out.step bw.out
        have HO1 : Hid (S.OwnS (w.heap.size + 2) w1 (.slice ao D.length co) D) := HO.out.below bw.out
        have y1 := KB1.1 0 _ rfl
        have y2 := KB1.1 1 _ rfl
        have z1 := HK1.out.1 0 _ rfl
        have z2 := HK1.out.1 1 _ rfl
        have hsz1 := bw.out.size
        clear hw
        rw [hrt]
        go_wp2
        go_roundw
        case rel => exact ⟨3, D, by omega, by omega, by first | rfl | go_num, (filter_past (X := [(nc, nr), (pc, pr), (fc, fr)]) (k := 2) (by simp) HT0.out (namB2_not hrt)), HO1, HK1, HR1⟩
        case measure => simp [intOf]
      · by_cases ec : fc = ac
        · by_cases er : fr = ar
          · have qc : (fc == ac) = true := by simp [ec]
            have qr : (fr == ar) = true := by simp [er]
            have qc2 : (fc != ac) = false := by simp [ec]
            have qr2 : (fr != ar) = false := by simp [er]
            have HP : Hid (namB2 ac ar (fc, fr) = false) := by rw [ec, er]; exact namB2_own
            clear ec er
            go_wp2_with fail
            refine (right_any fc fr _).mono ?_
            rintro e w1 ⟨rfl, hw⟩
            have hb1 : Below (wr.alloc (.cells #[.int .i64 fc, .int .i64 fr] 36)).heap.size (wr.alloc (.cells #[.int .i64 fc, .int .i64 fr] 36)) w1 := by rw [hw]; exact (Below.refl _ _).alloc (Nat.le_refl _) _
            have bw : Hid (Below wr.heap.size wr w1) := KB0.2.2.trans (hb1.mono KB0.2.2.size)
            have KB1 := KB0.step hb1
            have HK1 : Hid (KeptC w w.heap.size [.int .i64 ac, .int .i64 ar, .int .i64 sq, dv, .int .i64 kd, .int .i64 nc, .int .i64 nr, .int .i64 pc, .int .i64 pr, .int .i64 fc, .int .i64 fr, .string nm, .string vl] w1) := HK.out.step bw.out
            have HR1 : Hid (KeptC w (w.heap.size + 1) [.int .i64 nc, .int .i64 nr, .int .i64 pc, .int .i64 pr, .int .i64 fc, .int .i64 fr] w1) := HR.out.step bw.out
            have HO1 : Hid (S.OwnS (w.heap.size + 2) w1 (.slice ao D.length co) D) := HO.out.below bw.out
            have y1 := KB1.1 0 _ rfl
            have y2 := KB1.1 1 _ rfl
            have z1 := HK1.out.1 0 _ rfl
            have z2 := HK1.out.1 1 _ rfl
            have hsz1 := bw.out.size
            clear hw
            rw [hrt]
            go_wp2
            go_roundw
            case rel => exact ⟨3, D, by omega, by omega, by first | rfl | go_num, (filter_past (X := [(nc, nr), (pc, pr), (fc, fr)]) (k := 2) (by simp) HT0.out HP.out), HO1, HK1, HR1⟩
            case measure => simp [intOf]
          · have qc : (fc == ac) = true := by simp [ec]
            have qr : (fr == ar) = false := by simp [er]
            have qr2 : (fr != ar) = true := by simp [er]
            have HP : Hid (namB2 ac ar (fc, fr) = true) := namB2_r hrt er
            clear ec er
            go_wp2_with fail
            refine (right_any fc fr _).mono ?_
            rintro e w1 ⟨rfl, hw⟩
            have hb1 : Below (wr.alloc (.cells #[.int .i64 fc, .int .i64 fr] 36)).heap.size (wr.alloc (.cells #[.int .i64 fc, .int .i64 fr] 36)) w1 := by rw [hw]; exact (Below.refl _ _).alloc (Nat.le_refl _) _
            have bw : Hid (Below wr.heap.size wr w1) := KB0.2.2.trans (hb1.mono KB0.2.2.size)
            have KB1 := KB0.step hb1
            have HK1 : Hid (KeptC w w.heap.size [.int .i64 ac, .int .i64 ar, .int .i64 sq, dv, .int .i64 kd, .int .i64 nc, .int .i64 nr, .int .i64 pc, .int .i64 pr, .int .i64 fc, .int .i64 fr, .string nm, .string vl] w1) := HK.out.step bw.out
            have HR1 : Hid (KeptC w (w.heap.size + 1) [.int .i64 nc, .int .i64 nr, .int .i64 pc, .int .i64 pr, .int .i64 fc, .int .i64 fr] w1) := HR.out.step bw.out
            have HO1 : Hid (S.OwnS (w.heap.size + 2) w1 (.slice ao D.length co) D) := HO.out.below bw.out
            have y1 := KB1.1 0 _ rfl
            have y2 := KB1.1 1 _ rfl
            have z1 := HK1.out.1 0 _ rfl
            have z2 := HK1.out.1 1 _ rfl
            have hsz1 := bw.out.size
            clear hw
            rw [hrt]
            go_wp2_with (at_builtin; refine wpList_append_own _ rfl _ _ 74 rfl (w.heap.size + 2) 36 i0 (.agg #[.int .i64 0, .int .i64 0]) 2 16 Tryz.underlying74 hi hz0 hz1 hz2 rfl (by decide) _ _ _ rfl (World.ownsRow.alloc HO1.out _) ⟨w1.heap.size, 0, none⟩ 1 1 [.int .i64 fc, .int .i64 fr] rfl rfl (cell_two_new _ _ _ _) (fun x hx => by simp at hx; rcases hx with rfl | rfl <;> rfl) (by unfold maxLen; omega) (by omega) (by simp; omega) ?_; intro v3 w3 hown3 hgrow3 hnil3)
            have bal : Below w1.heap.size w1 (w1.alloc (.cells #[.int .i64 fc, .int .i64 fr] 36)) := (Below.refl _ _).alloc (Nat.le_refl _) _
            have HK3 : Hid (KeptC w w.heap.size [.int .i64 ac, .int .i64 ar, .int .i64 sq, dv, .int .i64 kd, .int .i64 nc, .int .i64 nr, .int .i64 pc, .int .i64 pr, .int .i64 fc, .int .i64 fr, .string nm, .string vl] w3) := (HK1.out.step bal).grown hgrow3 (fun j e => by have := HO1.out.block j e; omega)
            have HR3 : Hid (KeptC w (w.heap.size + 1) [.int .i64 nc, .int .i64 nr, .int .i64 pc, .int .i64 pr, .int .i64 fc, .int .i64 fr] w3) := (HR1.out.step bal).grown hgrow3 (fun j e => by have := HO1.out.block j e; omega)
            go_roundw
            case rel => exact ⟨3, D ++ [(fc, fr)], by omega, by rw [List.length_append, List.length_singleton]; omega, by first | rfl | go_num, (filter_on (X := [(nc, nr), (pc, pr), (fc, fr)]) (k := 2) (by simp) HT0.out HP.out), S.OwnS.snoc hown3, HK3, HR3⟩
            case measure => simp [intOf]
        · have qc : (fc == ac) = false := by simp [ec]
          have qc2 : (fc != ac) = true := by simp [ec]
          have HP : Hid (namB2 ac ar (fc, fr) = true) := namB2_c hrt ec
          clear ec
          go_wp2_with fail
          refine (right_any fc fr _).mono ?_
          rintro e w1 ⟨rfl, hw⟩
          have hb1 : Below (wr.alloc (.cells #[.int .i64 fc, .int .i64 fr] 36)).heap.size (wr.alloc (.cells #[.int .i64 fc, .int .i64 fr] 36)) w1 := by rw [hw]; exact (Below.refl _ _).alloc (Nat.le_refl _) _
          have bw : Hid (Below wr.heap.size wr w1) := KB0.2.2.trans (hb1.mono KB0.2.2.size)
          have KB1 := KB0.step hb1
          have HK1 : Hid (KeptC w w.heap.size [.int .i64 ac, .int .i64 ar, .int .i64 sq, dv, .int .i64 kd, .int .i64 nc, .int .i64 nr, .int .i64 pc, .int .i64 pr, .int .i64 fc, .int .i64 fr, .string nm, .string vl] w1) := HK.out.step bw.out
          have HR1 : Hid (KeptC w (w.heap.size + 1) [.int .i64 nc, .int .i64 nr, .int .i64 pc, .int .i64 pr, .int .i64 fc, .int .i64 fr] w1) := HR.out.step bw.out
          have HO1 : Hid (S.OwnS (w.heap.size + 2) w1 (.slice ao D.length co) D) := HO.out.below bw.out
          have y1 := KB1.1 0 _ rfl
          have y2 := KB1.1 1 _ rfl
          have z1 := HK1.out.1 0 _ rfl
          have z2 := HK1.out.1 1 _ rfl
          have hsz1 := bw.out.size
          clear hw
          rw [hrt]
          go_wp2_with (at_builtin; refine wpList_append_own _ rfl _ _ 74 rfl (w.heap.size + 2) 36 i0 (.agg #[.int .i64 0, .int .i64 0]) 2 16 Tryz.underlying74 hi hz0 hz1 hz2 rfl (by decide) _ _ _ rfl (World.ownsRow.alloc HO1.out _) ⟨w1.heap.size, 0, none⟩ 1 1 [.int .i64 fc, .int .i64 fr] rfl rfl (cell_two_new _ _ _ _) (fun x hx => by simp at hx; rcases hx with rfl | rfl <;> rfl) (by unfold maxLen; omega) (by omega) (by simp; omega) ?_; intro v3 w3 hown3 hgrow3 hnil3)
          have bal : Below w1.heap.size w1 (w1.alloc (.cells #[.int .i64 fc, .int .i64 fr] 36)) := (Below.refl _ _).alloc (Nat.le_refl _) _
          have HK3 : Hid (KeptC w w.heap.size [.int .i64 ac, .int .i64 ar, .int .i64 sq, dv, .int .i64 kd, .int .i64 nc, .int .i64 nr, .int .i64 pc, .int .i64 pr, .int .i64 fc, .int .i64 fr, .string nm, .string vl] w3) := (HK1.out.step bal).grown hgrow3 (fun j e => by have := HO1.out.block j e; omega)
          have HR3 : Hid (KeptC w (w.heap.size + 1) [.int .i64 nc, .int .i64 nr, .int .i64 pc, .int .i64 pr, .int .i64 fc, .int .i64 fr] w3) := (HR1.out.step bal).grown hgrow3 (fun j e => by have := HO1.out.block j e; omega)
          go_roundw
          case rel => exact ⟨3, D ++ [(fc, fr)], by omega, by rw [List.length_append, List.length_singleton]; omega, by first | rfl | go_num, (filter_on (X := [(nc, nr), (pc, pr), (fc, fr)]) (k := 2) (by simp) HT0.out HP.out), S.OwnS.snoc hown3, HK3, HR3⟩
          case measure => simp [intOf]
    · have HE : Hid (D = namesL ⟨ac, ar, sq, ds, kd, nc, nr, pc, pr, fc, fr, nm, vl⟩) := HT.out.trans HN0.out.symm
      have hi1 : ¬ (3 : Int) < 3 := by omega
      go_wp2_with fail
      refine (S.sort_any (.slice ao D.length co) D _ (HO.out.isS (by omega))).mono ?_
      rintro e w1 ⟨v', rfl, ho1, hb1⟩
      have HO1 : Hid (S.OwnS w.heap.size w1 v' (S.sortL (namesL ⟨ac, ar, sq, ds, kd, nc, nr, pc, pr, fc, fr, nm, vl⟩))) := by show S.OwnS _ _ _ _; rw [← HE.out]; exact S.ownsRow_mono ho1 (by omega)
      have HB1 : Hid (Below w.heap.size w w1) := HK.out.2.2.trans (hb1.mono HK.out.2.2.size)
      clear ho1 hb1
      go_wp2
      go_ret
      exact ⟨v', rfl, HO1.out, HB1.out⟩

end Go.Proofs.YtngldpabfpcaiaaGreat
