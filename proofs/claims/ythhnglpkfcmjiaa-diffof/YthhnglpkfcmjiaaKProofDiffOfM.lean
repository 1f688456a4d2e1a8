/- DiffOf of package topiarylaw18 is proved at this commit, in its second form: for every input (a tree, a tree) of bulk at most 1048576 the call returns true and the arguments read as they did. (The first form is false by size alone.) -/
import Derived.Test.YthhnglpkfcmjiaaKZDx
import Derived.Test.YthhnglpkfcmjiaaKVtS
import Derived.Deep.CutRange
import Derived.Test.YthhnglpkfcmjiaaKZDu
import Derived.Test.YthhnglpkfcmjiaaKBaseM
import Derived.Deep.CondSized
namespace Go.Proofs.Ythhnglpkfcmjiaa
open Go.RowKit Go.Shelf
set_option linter.unusedVariables false
set_option linter.unusedSimpArgs false
attribute [local go_sem] Oper.semAt_some
def strC (x : ByteArray) : List Value := [.string x]
theorem strOne (x : ByteArray) : ∀ u ∈ strC x, u.oneCell' = true := fun u hu => by
  simp [strC] at hu
  subst hu
  rfl
theorem infoStr9 : (Try.prog.info? 9).map (fun i => (i.zero, i.size, i.bytes)) = some (some (.string ⟨#[]⟩), 1, 16) := by kernel_rfl
/-- A row of attributes, its cells. -/
theorem row_at {G : Nat → Prop} {w : World} {v : Value} {D : List At} (h : LsE atCells 2 G w v D) : ∃ (la : Option Addr) (lac : Nat), v = .slice la D.length lac ∧ (D = [] ∨ ∃ b o, la = some ⟨b, o, none⟩ ∧ b < w.heap.size ∧ ∀ i (h : i < D.length), w.cell? ⟨b, o + i * 2, none⟩ = some (.string D[i].1) ∧ w.cell? ⟨b, o + i * 2 + 1, none⟩ = some (.string D[i].2)) := by
  obtain ⟨a, c, e, _, _, h⟩ := h
  exact ⟨a, c, e, h.imp id fun ⟨b, o, e2, _, hl, hr⟩ => ⟨b, o, e2, hl, fun i hi => ⟨hr i hi 0 _ rfl, hr i hi 1 _ rfl⟩⟩⟩
set_option maxRecDepth 100000 in
set_option maxHeartbeats 4000000 in
theorem attr_any (G : Nat → Prop) (D : List At) (m : ByteArray) (v : Value) (w : World) (h : LsE atCells 2 G w v D) :
    Calls Try.prog 56 #[v, .string m] w fun e w' => e = .returned (.tuple #[.string ((attrO D m).getD ⟨#[]⟩), .bool (attrO D m).isSome]) ∧ Below w.heap.size w w' := by
  obtain ⟨la, lac, ela, hrla⟩ := row_at h
  subst ela
  have HRla := hide9 hrla
  have hlal : D.length ≤ 8796093022208 := h.len
  clear hrla
  go_enter Try.func56, Try.ntmps56
  have HB : Hid (Below w.heap.size w w) := Below.refl _ _
  clear h
  go_wp2
  go_loopw [6] (fun iv wr => ∃ i : Nat, iv = .int .i64 (i : Int) ∧ i ≤ D.length ∧ Hid (Below w.heap.size w wr) ∧ Hid ((D.take i).find? (fun x => decide (x.1 = m)) = none)) (fun iv _ => D.length - (intOf iv).toNat)
  case atStart => exact ⟨0, rfl, Nat.zero_le _, HB, rfl⟩
  case round =>
    clear HB
    obtain ⟨i, rfl, hi, HB, HF⟩ := hrel
    by_cases hlt : i < D.length
    · have k1 : (i : Int) < (D.length : Int) := by omega
      have k0 : (0 : Int) ≤ (i : Int) := by omega
      obtain ⟨gb, go, ge, gl, gh⟩ := HRla.out.resolve_left (fun e => by rw [e] at hlt; simp at hlt)
      subst ge
      obtain ⟨gp, gq⟩ := gh i hlt
      have g0 := (HB.out.cell (p := ⟨gb, go + i * 2, none⟩) gl).trans gp
      have g1 := (HB.out.cell (p := ⟨gb, go + i * 2 + 1, none⟩) gl).trans gq
      clear gh gp gq
      have hnx : (D.take (i + 1)).find? (fun x => decide (x.1 = m)) = if D[i].1 = m then some D[i] else none := (by rw [List.take_succ_eq_append_getElem hlt, List.find?_append, HF.out]; simp only [Option.none_or, List.find?_cons, List.find?_nil]; split <;> simp_all)
      obtain ⟨x, ex⟩ : ∃ x, x = D[i] := ⟨_, rfl⟩
      rw [← ex] at g0 g1 hnx
      by_cases he : x.1 = m
      · have hq : (x.1.toList == m.toList) = true := (by rw [txt_eq]; exact decide_eq_true he)
        have HZ : Hid (attrO D m = some x.2) := (by show _ = _; unfold attrO; rw [if_pos he] at hnx; rw [← List.take_append_drop (i + 1) D, List.find?_append, hnx]; rfl)
        clear he hnx ex
        go_wp2
        clear g0 g1 hq
        (try rw [Exit.noGoto_ret])
        go_ret2
        exact ⟨(by rw [HZ.out]; rfl), HB.out⟩
      · have hq : (x.1.toList == m.toList) = false := (by rw [txt_eq]; exact decide_eq_false he)
        rw [if_neg he] at hnx
        have HF2 := hide9 hnx
        clear he hnx ex
        go_wp2
        clear g0 g1 hq
        go_roundw
        case rel => exact ⟨i + 1, by go_num, by omega, HB, HF2⟩
        case measure => simp [intOf]; omega
    · have k1 : ¬ (i : Int) < (D.length : Int) := by omega
      have HZ : Hid (attrO D m = none) := (by show _ = _; unfold attrO; have h9 := HF.out; rw [List.take_of_length_le (by omega)] at h9; rw [h9]; rfl)
      go_wp2
      (try rw [Exit.noGoto_ret])
      go_ret2
      exact ⟨(by rw [HZ.out]; rfl), HB.out⟩
set_option maxRecDepth 100000 in
set_option maxHeartbeats 8000000 in
theorem names_any (G1 G2 : Nat → Prop) (A B : List At) (v1 v2 : Value) (w : World) (h1 : LsE atCells 2 G1 w v1 A) (h2 : LsE atCells 2 G2 w v2 B) (ha : A.length ≤ 524288) (hb : B.length ≤ 524288) :
    Calls Try.prog 55 #[v1, v2] w fun e w' => ∃ v, e = .returned v ∧ OwnE strC 1 9 w.heap.size w' v (namL A B) ∧ Below w.heap.size w w' := by
  obtain ⟨la, lac, ela, hrla⟩ := row_at h1
  subst ela
  have HRla := hide9 hrla
  have hlal : A.length ≤ 8796093022208 := h1.len
  clear hrla
  obtain ⟨lb, lbc, elb, hrlb⟩ := row_at h2
  subst elb
  have HRlb := hide9 hrlb
  have hlbl : B.length ≤ 8796093022208 := h2.len
  clear hrlb
  go_enter Try.func55, Try.ntmps55
  obtain ⟨W3, eW3⟩ : ∃ X, X = w.alloc (.cells #[] 9) := ⟨_, rfl⟩
  have hb3 : Below w.heap.size w W3 := (by rw [eW3]; exact (Below.refl _ _).alloc (Nat.le_refl _) _)
  have hs : OwnE strC 1 9 w.heap.size W3 (.slice (some ⟨w.heap.size, 0, none⟩) 0 0) [] := (by rw [eW3]; exact World.ownsRow_made w #[] 0 (Nat.le_refl _) (by unfold maxLen; omega) (by simp))
  have HB := hide9 hb3
  have HS := hide9 hs
  have HE := hide9 eW3
  clear eW3 hb3 hs h1 h2
  obtain ⟨i3, hi3, hs0, hs1, hs2⟩ := info_parts infoStr9
  have hal : A.length ≤ 524288 := ha
  have hbl : B.length ≤ 524288 := hb
  clear ha hb hlal hlbl
  go_upto_region 2 with fail
  rw [← HE.out]
  clear HE
  go_wp2
  go_loopw [5, 6, 7] (fun ov iv kv wr => ∃ (i k : Nat) (R : List ByteArray), iv = .int .i64 (i : Int) ∧ kv = .int .i64 (k : Int) ∧ i ≤ A.length ∧ k ≤ B.length ∧ Hid (Below w.heap.size w wr) ∧ Hid (OwnE strC 1 9 w.heap.size wr ov (R)) ∧ Hid (namL A B = R ++ namL (A.drop i) (B.drop k))) (fun _ iv kv _ => (A.length - (intOf iv).toNat) + (B.length - (intOf kv).toNat))
  case atStart => exact ⟨0, 0, [], rfl, rfl, Nat.zero_le _, Nat.zero_le _, HB, HS, rfl⟩
  case round =>
    clear HB HS
    obtain ⟨i, k, R, rfl, rfl, hi, hk, HB, HS, HN⟩ := hrel
    obtain ⟨oa, oc, eo⟩ := OwnE.form HS.out
    subst eo
    have HRl : Hid (R.length ≤ 1048576) := (by have h9 := congrArg List.length HN.out; rw [List.length_append] at h9; have h8 := nam_len _ A B (Nat.le_refl _); show _ ≤ _; omega)
    have i0 : (0 : Int) ≤ (i : Int) := by omega
    have k0 : (0 : Int) ≤ (k : Int) := by omega
    by_cases hia : i < A.length
    · obtain ⟨gx, ex⟩ : ∃ x, x = A[i] := ⟨_, rfl⟩
      have hda : A.drop i = gx :: A.drop (i + 1) := (by rw [ex]; exact List.drop_eq_getElem_cons hia)
      obtain ⟨gb, go, ge, gl, gh⟩ := HRla.out.resolve_left (fun e => by rw [e] at hia; simp at hia)
      subst ge
      obtain ⟨gp, gq⟩ := gh i hia
      have g0 := (HB.out.cell (p := ⟨gb, go + i * 2, none⟩) gl).trans gp
      clear gh gp gq
      rw [← ex] at g0
      have Hda := hide9 hda
      clear hda ex
      have a1 : (i : Int) < (A.length : Int) := by omega
      by_cases hkb : k < B.length
      · obtain ⟨fx, ey⟩ : ∃ x, x = B[k] := ⟨_, rfl⟩
        have hdb : B.drop k = fx :: B.drop (k + 1) := (by rw [ey]; exact List.drop_eq_getElem_cons hkb)
        obtain ⟨fb, fo, fe, fl, fh⟩ := HRlb.out.resolve_left (fun e => by rw [e] at hkb; simp at hkb)
        subst fe
        obtain ⟨fp, fq⟩ := fh k hkb
        have f0 := (HB.out.cell (p := ⟨fb, fo + k * 2, none⟩) fl).trans fp
        clear fh fp fq
        rw [← ey] at f0
        have Hdb := hide9 hdb
        clear hdb ey
        have b1 : (k : Int) < (B.length : Int) := by omega
        have b2 : ¬ (k : Int) ≥ (B.length : Int) := by omega
        cases hlt : ltT gx.1 fx.1 with
        | true =>
          have hql : Op.bytesLess gx.1.toList fx.1.toList = true := (by rw [txt_less]; exact hlt)
          have Hlt := hide9 hlt
          go_upto_region 5 with fail
          refine wp_region_held_drew (S := fun W' => Below wr.heap.size wr W') (by kernel_rfl) (Below.refl _ _).drew (fun hHeld => ?_)
          obtain ⟨Ub2u0, eW⟩ : ∃ X, X = wr.drew := ⟨_, rfl⟩
          have hb : Below wr.heap.size wr Ub2u0 := by rw [eW]; exact (Below.refl _ _).drew
          replace HS : Hid (OwnE strC 1 9 w.heap.size Ub2u0 (.slice oa R.length oc) (R)) := OwnE.below HS.out hb
          replace HB : Hid (Below w.heap.size w Ub2u0) := HB.out.trans (hb.mono HB.out.size)
          rw [← eW] at hHeld ⊢
          clear eW hb
          refine tkW 0 (some 19) (v := ?_) ?_ hHeld ?_
          rotate_left
          · (intro ww _; go_simp; try with_reducible rfl)
          refine tkW 1 (some 20) (v := ?_) ?_ hHeld ?_
          rotate_left
          · (intro ww _; go_simp; try with_reducible rfl)
          refine tkW 2 (some 21) (v := ?_) ?_ hHeld ?_
          rotate_left
          · (intro ww hSw; (try dsimp only at hSw); go_simp; try with_reducible rfl)
          refine tkW 3 (some 22) (v := ?_) ?_ hHeld ?_
          rotate_left
          · (intro ww hSw; (try dsimp only at hSw); go_simp; try with_reducible rfl)
          refine tkW 4 (some 23) (v := ?_) ?_ hHeld ?_
          rotate_left
          · (intro ww _; go_simp; try with_reducible rfl)
          refine tkW 5 (some 24) (v := ?_) ?_ hHeld ?_
          rotate_left
          · (intro ww _; go_simp; try with_reducible rfl)
          refine tkW 6 (some 25) (v := ?_) ?_ hHeld ?_
          rotate_left
          · (intro ww _; go_simp; try with_reducible rfl)
          refine tkW 7 (some 26) (v := ?_) ?_ hHeld ?_
          rotate_left
          · (intro ww hSw; (try dsimp only at hSw); go_simp; try with_reducible rfl)
          refine tkW 8 (some 27) (v := ?_) ?_ hHeld ?_
          rotate_left
          · (intro ww hSw; (try dsimp only at hSw); go_simp; try with_reducible rfl)
          refine tkW 9 (some 28) (v := ?_) ?_ hHeld ?_
          rotate_left
          · (intro ww _; go_simp; try with_reducible rfl)
          refine tkW 10 (some 29) (v := ?_) ?_ hHeld ?_
          rotate_left
          · (intro ww _; go_simp; try with_reducible rfl)
          refine tkW 11 (some 30) (v := ?_) ?_ hHeld ?_
          rotate_left
          · (intro ww _; go_simp; try with_reducible rfl)
          refine tkW 12 (some 31) (v := ?_) ?_ hHeld ?_
          rotate_left
          · (intro ww hSw; (try dsimp only at hSw); go_simp; try with_reducible rfl)
          refine tkW 13 (some 32) (v := ?_) ?_ hHeld ?_
          rotate_left
          · (intro ww _; go_simp; try with_reducible rfl)
          refine tkW 14 (some 33) (v := ?_) ?_ hHeld ?_
          rotate_left
          · (intro ww hSw; (try dsimp only at hSw); have q6 : ww.cell? ⟨gb, go + i * 2, none⟩ = some (.string gx.1) := (hSw.cell (p := ⟨gb, go + i * 2, none⟩) (cell_lt (p := ⟨gb, go + i * 2, none⟩) g0)).trans g0; go_simp; try with_reducible rfl)
          refine tkW 15 (some 34) (v := ?_) ?_ hHeld ?_
          rotate_left
          · (intro ww _; go_simp; try with_reducible rfl)
          refine tkW 16 (some 35) (v := ?_) ?_ hHeld ?_
          rotate_left
          · (intro ww _; go_simp; try with_reducible rfl)
          refine tkW 17 (some 36) (v := ?_) ?_ hHeld ?_
          rotate_left
          · (intro ww hSw; (try dsimp only at hSw); go_simp; try with_reducible rfl)
          refine tkW 18 (some 37) (v := ?_) ?_ hHeld ?_
          rotate_left
          · (intro ww _; go_simp; try with_reducible rfl)
          refine tkW 19 (some 38) (v := ?_) ?_ hHeld ?_
          rotate_left
          · (intro ww hSw; (try dsimp only at hSw); have q6 : ww.cell? ⟨fb, fo + k * 2, none⟩ = some (.string fx.1) := (hSw.cell (p := ⟨fb, fo + k * 2, none⟩) (cell_lt (p := ⟨fb, fo + k * 2, none⟩) f0)).trans f0; go_simp; try with_reducible rfl)
          refine tkW 20 (some 39) (v := ?_) ?_ hHeld ?_
          rotate_left
          · (intro ww hSw; (try dsimp only at hSw); go_simp; try with_reducible rfl)
          refine tkW 21 (some 40) (v := ?_) ?_ hHeld ?_
          rotate_left
          · (intro ww _; go_simp; try with_reducible rfl)
          refine tkW 22 (some 41) (v := ?_) ?_ hHeld ?_
          rotate_left
          · (intro ww _; go_simp; try with_reducible rfl)
          refine wpAnyH_done (by kernel_rfl) ?_ _
          have g9 := (hHeld.cell (p := ⟨gb, go + i * 2, none⟩) (cell_lt (p := ⟨gb, go + i * 2, none⟩) g0)).trans g0
          have f9 := (hHeld.cell (p := ⟨fb, fo + k * 2, none⟩) (cell_lt (p := ⟨fb, fo + k * 2, none⟩) f0)).trans f0
          clear hHeld g0 f0
          have g0 := g9
          have f0 := f9
          clear g9 f9
          go_wp2_with (at_builtin; refine StpD.to ?_)
          refine StpD.of ?_
          obtain ⟨W4, eW4⟩ : ∃ X, X = Ub2u0.alloc (.cells #[.string gx.1] 9) := ⟨_, rfl⟩
          have hq : W4.heap[Ub2u0.heap.size]? = some (.cells (strC gx.1).toArray 9) := (by rw [eW4]; exact heap_alloc_new _ _)
          have hb4 : Below Ub2u0.heap.size Ub2u0 W4 := (by rw [eW4]; exact (Below.refl _ _).alloc (Nat.le_refl _) _)
          rw [← eW4]
          replace HS := hide9 (OwnE.below HS.out hb4)
          replace HB := hide9 (HB.out.trans (hb4.mono HB.out.size))
          clear eW4 hb4 g0 f0
          refine wpList_app1E (enc := strC) (n := 1) (fun _ => rfl) (T := 9) Try.underlying91 hi3 hs0 hs1 hs2 rfl (by decide) (by decide) rfl _ _ rfl w.heap.size _ R rfl HS.out Ub2u0.heap.size gx.1 rfl hq (strOne gx.1) (Nat.le_trans HRl.out (by decide)) HB.out.size ?_
          intro g c W5 ho hg
          replace HB := hide9 (HB.out.grown hg HB.out.size (fun k e => (OwnE.lt HS.out k e).1))
          replace HS := hide9 ho
          clear hq ho hg
          go_wp2
          go_roundw
          case rel => exact ⟨i + 1, k, _, by go_num, by go_num, by omega, by omega, HB, HS, (by show _ = _; rw [HN.out, Hda.out, Hdb.out]; rw [namL, if_pos Hlt.out]; simp)⟩
          case measure => simp [intOf]; omega
        | false =>
          have hql : Op.bytesLess gx.1.toList fx.1.toList = false := (by rw [txt_less]; exact hlt)
          have Hlt : Hid (¬ ltT gx.1 fx.1 = true) := (by show ¬ _; rw [hlt]; simp)
          by_cases he : gx.1 = fx.1
          · have hqe : (gx.1.toList == fx.1.toList) = true := (by rw [txt_eq]; exact decide_eq_true he)
            have Heq := hide9 he
            clear he
            go_upto_region 5 with fail
            refine wp_region_held_drew (S := fun W' => Below wr.heap.size wr W') (by kernel_rfl) (Below.refl _ _).drew (fun hHeld => ?_)
            obtain ⟨Ue3u0, eW⟩ : ∃ X, X = wr.drew := ⟨_, rfl⟩
            have hb : Below wr.heap.size wr Ue3u0 := by rw [eW]; exact (Below.refl _ _).drew
            replace HS : Hid (OwnE strC 1 9 w.heap.size Ue3u0 (.slice oa R.length oc) (R)) := OwnE.below HS.out hb
            replace HB : Hid (Below w.heap.size w Ue3u0) := HB.out.trans (hb.mono HB.out.size)
            rw [← eW] at hHeld ⊢
            clear eW hb
            refine tkW 0 (some 19) (v := ?_) ?_ hHeld ?_
            rotate_left
            · (intro ww _; go_simp; try with_reducible rfl)
            refine tkW 1 (some 20) (v := ?_) ?_ hHeld ?_
            rotate_left
            · (intro ww _; go_simp; try with_reducible rfl)
            refine tkW 2 (some 21) (v := ?_) ?_ hHeld ?_
            rotate_left
            · (intro ww hSw; (try dsimp only at hSw); go_simp; try with_reducible rfl)
            refine tkW 3 (some 22) (v := ?_) ?_ hHeld ?_
            rotate_left
            · (intro ww hSw; (try dsimp only at hSw); go_simp; try with_reducible rfl)
            refine tkW 4 (some 23) (v := ?_) ?_ hHeld ?_
            rotate_left
            · (intro ww _; go_simp; try with_reducible rfl)
            refine tkW 5 (some 24) (v := ?_) ?_ hHeld ?_
            rotate_left
            · (intro ww _; go_simp; try with_reducible rfl)
            refine tkW 6 (some 25) (v := ?_) ?_ hHeld ?_
            rotate_left
            · (intro ww _; go_simp; try with_reducible rfl)
            refine tkW 7 (some 26) (v := ?_) ?_ hHeld ?_
            rotate_left
            · (intro ww hSw; (try dsimp only at hSw); go_simp; try with_reducible rfl)
            refine tkW 8 (some 27) (v := ?_) ?_ hHeld ?_
            rotate_left
            · (intro ww hSw; (try dsimp only at hSw); go_simp; try with_reducible rfl)
            refine tkW 9 (some 28) (v := ?_) ?_ hHeld ?_
            rotate_left
            · (intro ww _; go_simp; try with_reducible rfl)
            refine tkW 10 (some 29) (v := ?_) ?_ hHeld ?_
            rotate_left
            · (intro ww _; go_simp; try with_reducible rfl)
            refine tkW 11 (some 30) (v := ?_) ?_ hHeld ?_
            rotate_left
            · (intro ww _; go_simp; try with_reducible rfl)
            refine tkW 12 (some 31) (v := ?_) ?_ hHeld ?_
            rotate_left
            · (intro ww hSw; (try dsimp only at hSw); go_simp; try with_reducible rfl)
            refine tkW 13 (some 32) (v := ?_) ?_ hHeld ?_
            rotate_left
            · (intro ww _; go_simp; try with_reducible rfl)
            refine tkW 14 (some 33) (v := ?_) ?_ hHeld ?_
            rotate_left
            · (intro ww hSw; (try dsimp only at hSw); have q6 : ww.cell? ⟨gb, go + i * 2, none⟩ = some (.string gx.1) := (hSw.cell (p := ⟨gb, go + i * 2, none⟩) (cell_lt (p := ⟨gb, go + i * 2, none⟩) g0)).trans g0; go_simp; try with_reducible rfl)
            refine tkW 15 (some 34) (v := ?_) ?_ hHeld ?_
            rotate_left
            · (intro ww _; go_simp; try with_reducible rfl)
            refine tkW 16 (some 35) (v := ?_) ?_ hHeld ?_
            rotate_left
            · (intro ww _; go_simp; try with_reducible rfl)
            refine tkW 17 (some 36) (v := ?_) ?_ hHeld ?_
            rotate_left
            · (intro ww hSw; (try dsimp only at hSw); go_simp; try with_reducible rfl)
            refine tkW 18 (some 37) (v := ?_) ?_ hHeld ?_
            rotate_left
            · (intro ww _; go_simp; try with_reducible rfl)
            refine tkW 19 (some 38) (v := ?_) ?_ hHeld ?_
            rotate_left
            · (intro ww hSw; (try dsimp only at hSw); have q6 : ww.cell? ⟨fb, fo + k * 2, none⟩ = some (.string fx.1) := (hSw.cell (p := ⟨fb, fo + k * 2, none⟩) (cell_lt (p := ⟨fb, fo + k * 2, none⟩) f0)).trans f0; go_simp; try with_reducible rfl)
            refine tkW 20 (some 39) (v := ?_) ?_ hHeld ?_
            rotate_left
            · (intro ww hSw; (try dsimp only at hSw); go_simp; try with_reducible rfl)
            refine tkW 21 (some 40) (v := ?_) ?_ hHeld ?_
            rotate_left
            · (intro ww _; go_simp; try with_reducible rfl)
            refine tkW 22 (some 41) (v := ?_) ?_ hHeld ?_
            rotate_left
            · (intro ww _; go_simp; try with_reducible rfl)
            refine wpAnyH_done (by kernel_rfl) ?_ _
            obtain ⟨wA, ewA⟩ : ∃ X, X = Ue3u0 := ⟨_, rfl⟩
            rw [← ewA] at hHeld HS HB ⊢
            clear ewA
            have g9 := (hHeld.cell (p := ⟨gb, go + i * 2, none⟩) (cell_lt (p := ⟨gb, go + i * 2, none⟩) g0)).trans g0
            have f9 := (hHeld.cell (p := ⟨fb, fo + k * 2, none⟩) (cell_lt (p := ⟨fb, fo + k * 2, none⟩) f0)).trans f0
            clear hHeld g0 f0
            have g0 := g9
            have f0 := f9
            clear g9 f9
            go_upto_region 8 with fail
            refine wp_region_held_drew (S := fun W' => Below wA.heap.size wA W') (by kernel_rfl) (Below.refl _ _).drew (fun hHeld => ?_)
            obtain ⟨Ud14u0, eW⟩ : ∃ X, X = wA.drew := ⟨_, rfl⟩
            have hb : Below wA.heap.size wA Ud14u0 := by rw [eW]; exact (Below.refl _ _).drew
            replace HS : Hid (OwnE strC 1 9 w.heap.size Ud14u0 (.slice oa R.length oc) (R)) := OwnE.below HS.out hb
            replace HB : Hid (Below w.heap.size w Ud14u0) := HB.out.trans (hb.mono HB.out.size)
            rw [← eW] at hHeld ⊢
            clear eW hb
            refine tkW 0 (some 52) (v := ?_) ?_ hHeld ?_
            rotate_left
            · (intro ww _; go_simp; try with_reducible rfl)
            refine tkW 1 (some 53) (v := ?_) ?_ hHeld ?_
            rotate_left
            · (intro ww _; go_simp; try with_reducible rfl)
            refine tkW 2 (some 54) (v := ?_) ?_ hHeld ?_
            rotate_left
            · (intro ww hSw; (try dsimp only at hSw); go_simp; try with_reducible rfl)
            refine tkW 3 (some 55) (v := ?_) ?_ hHeld ?_
            rotate_left
            · (intro ww hSw; (try dsimp only at hSw); go_simp; try with_reducible rfl)
            refine tkW 4 (some 56) (v := ?_) ?_ hHeld ?_
            rotate_left
            · (intro ww _; go_simp; try with_reducible rfl)
            refine tkW 5 (some 57) (v := ?_) ?_ hHeld ?_
            rotate_left
            · (intro ww _; go_simp; try with_reducible rfl)
            refine tkW 6 (some 58) (v := ?_) ?_ hHeld ?_
            rotate_left
            · (intro ww _; go_simp; try with_reducible rfl)
            refine tkW 7 (some 59) (v := ?_) ?_ hHeld ?_
            rotate_left
            · (intro ww hSw; (try dsimp only at hSw); go_simp; try with_reducible rfl)
            refine tkW 8 (some 60) (v := ?_) ?_ hHeld ?_
            rotate_left
            · (intro ww _; go_simp; try with_reducible rfl)
            refine tkW 9 (some 61) (v := ?_) ?_ hHeld ?_
            rotate_left
            · (intro ww hSw; (try dsimp only at hSw); have q6 : ww.cell? ⟨gb, go + i * 2, none⟩ = some (.string gx.1) := (hSw.cell (p := ⟨gb, go + i * 2, none⟩) (cell_lt (p := ⟨gb, go + i * 2, none⟩) g0)).trans g0; go_simp; try with_reducible rfl)
            refine tkW 10 (some 62) (v := ?_) ?_ hHeld ?_
            rotate_left
            · (intro ww _; go_simp; try with_reducible rfl)
            refine tkW 11 (some 63) (v := ?_) ?_ hHeld ?_
            rotate_left
            · (intro ww _; go_simp; try with_reducible rfl)
            refine tkW 12 (some 64) (v := ?_) ?_ hHeld ?_
            rotate_left
            · (intro ww hSw; (try dsimp only at hSw); go_simp; try with_reducible rfl)
            refine tkW 13 (some 65) (v := ?_) ?_ hHeld ?_
            rotate_left
            · (intro ww _; go_simp; try with_reducible rfl)
            refine tkW 14 (some 66) (v := ?_) ?_ hHeld ?_
            rotate_left
            · (intro ww hSw; (try dsimp only at hSw); have q6 : ww.cell? ⟨fb, fo + k * 2, none⟩ = some (.string fx.1) := (hSw.cell (p := ⟨fb, fo + k * 2, none⟩) (cell_lt (p := ⟨fb, fo + k * 2, none⟩) f0)).trans f0; go_simp; try with_reducible rfl)
            refine tkW 15 (some 67) (v := ?_) ?_ hHeld ?_
            rotate_left
            · (intro ww hSw; (try dsimp only at hSw); go_simp; try with_reducible rfl)
            refine tkW 16 (some 68) (v := ?_) ?_ hHeld ?_
            rotate_left
            · (intro ww _; go_simp; try with_reducible rfl)
            refine wpAnyH_done (by kernel_rfl) ?_ _
            have g9 := (hHeld.cell (p := ⟨gb, go + i * 2, none⟩) (cell_lt (p := ⟨gb, go + i * 2, none⟩) g0)).trans g0
            have f9 := (hHeld.cell (p := ⟨fb, fo + k * 2, none⟩) (cell_lt (p := ⟨fb, fo + k * 2, none⟩) f0)).trans f0
            clear hHeld g0 f0
            have g0 := g9
            have f0 := f9
            clear g9 f9
            go_wp2_with (at_builtin; refine StpD.to ?_)
            refine StpD.of ?_
            obtain ⟨W4, eW4⟩ : ∃ X, X = Ud14u0.alloc (.cells #[.string fx.1] 9) := ⟨_, rfl⟩
            have hq : W4.heap[Ud14u0.heap.size]? = some (.cells (strC fx.1).toArray 9) := (by rw [eW4]; exact heap_alloc_new _ _)
            have hb4 : Below Ud14u0.heap.size Ud14u0 W4 := (by rw [eW4]; exact (Below.refl _ _).alloc (Nat.le_refl _) _)
            rw [← eW4]
            replace HS := hide9 (OwnE.below HS.out hb4)
            replace HB := hide9 (HB.out.trans (hb4.mono HB.out.size))
            clear eW4 hb4 g0 f0
            refine wpList_app1E (enc := strC) (n := 1) (fun _ => rfl) (T := 9) Try.underlying91 hi3 hs0 hs1 hs2 rfl (by decide) (by decide) rfl _ _ rfl w.heap.size _ R rfl HS.out Ud14u0.heap.size fx.1 rfl hq (strOne fx.1) (Nat.le_trans HRl.out (by decide)) HB.out.size ?_
            intro g c W5 ho hg
            replace HB := hide9 (HB.out.grown hg HB.out.size (fun k e => (OwnE.lt HS.out k e).1))
            replace HS := hide9 ho
            clear hq ho hg
            go_wp2
            go_roundw
            case rel => exact ⟨i + 1, k + 1, _, by go_num, by go_num, by omega, by omega, HB, HS, (by show _ = _; rw [HN.out, Hda.out, Hdb.out]; rw [namL, if_neg Hlt.out, if_pos Heq.out]; simp)⟩
            case measure => simp [intOf]; omega
          · have hqe : (gx.1.toList == fx.1.toList) = false := (by rw [txt_eq]; exact decide_eq_false he)
            have Heq : Hid (¬ gx.1 = fx.1) := he
            clear he
            go_upto_region 5 with fail
            refine wp_region_held_drew (S := fun W' => Below wr.heap.size wr W') (by kernel_rfl) (Below.refl _ _).drew (fun hHeld => ?_)
            obtain ⟨Uf5u0, eW⟩ : ∃ X, X = wr.drew := ⟨_, rfl⟩
            have hb : Below wr.heap.size wr Uf5u0 := by rw [eW]; exact (Below.refl _ _).drew
            replace HS : Hid (OwnE strC 1 9 w.heap.size Uf5u0 (.slice oa R.length oc) (R)) := OwnE.below HS.out hb
            replace HB : Hid (Below w.heap.size w Uf5u0) := HB.out.trans (hb.mono HB.out.size)
            rw [← eW] at hHeld ⊢
            clear eW hb
            refine tkW 0 (some 19) (v := ?_) ?_ hHeld ?_
            rotate_left
            · (intro ww _; go_simp; try with_reducible rfl)
            refine tkW 1 (some 20) (v := ?_) ?_ hHeld ?_
            rotate_left
            · (intro ww _; go_simp; try with_reducible rfl)
            refine tkW 2 (some 21) (v := ?_) ?_ hHeld ?_
            rotate_left
            · (intro ww hSw; (try dsimp only at hSw); go_simp; try with_reducible rfl)
            refine tkW 3 (some 22) (v := ?_) ?_ hHeld ?_
            rotate_left
            · (intro ww hSw; (try dsimp only at hSw); go_simp; try with_reducible rfl)
            refine tkW 4 (some 23) (v := ?_) ?_ hHeld ?_
            rotate_left
            · (intro ww _; go_simp; try with_reducible rfl)
            refine tkW 5 (some 24) (v := ?_) ?_ hHeld ?_
            rotate_left
            · (intro ww _; go_simp; try with_reducible rfl)
            refine tkW 6 (some 25) (v := ?_) ?_ hHeld ?_
            rotate_left
            · (intro ww _; go_simp; try with_reducible rfl)
            refine tkW 7 (some 26) (v := ?_) ?_ hHeld ?_
            rotate_left
            · (intro ww hSw; (try dsimp only at hSw); go_simp; try with_reducible rfl)
            refine tkW 8 (some 27) (v := ?_) ?_ hHeld ?_
            rotate_left
            · (intro ww hSw; (try dsimp only at hSw); go_simp; try with_reducible rfl)
            refine tkW 9 (some 28) (v := ?_) ?_ hHeld ?_
            rotate_left
            · (intro ww _; go_simp; try with_reducible rfl)
            refine tkW 10 (some 29) (v := ?_) ?_ hHeld ?_
            rotate_left
            · (intro ww _; go_simp; try with_reducible rfl)
            refine tkW 11 (some 30) (v := ?_) ?_ hHeld ?_
            rotate_left
            · (intro ww _; go_simp; try with_reducible rfl)
            refine tkW 12 (some 31) (v := ?_) ?_ hHeld ?_
            rotate_left
            · (intro ww hSw; (try dsimp only at hSw); go_simp; try with_reducible rfl)
            refine tkW 13 (some 32) (v := ?_) ?_ hHeld ?_
            rotate_left
            · (intro ww _; go_simp; try with_reducible rfl)
            refine tkW 14 (some 33) (v := ?_) ?_ hHeld ?_
            rotate_left
            · (intro ww hSw; (try dsimp only at hSw); have q6 : ww.cell? ⟨gb, go + i * 2, none⟩ = some (.string gx.1) := (hSw.cell (p := ⟨gb, go + i * 2, none⟩) (cell_lt (p := ⟨gb, go + i * 2, none⟩) g0)).trans g0; go_simp; try with_reducible rfl)
            refine tkW 15 (some 34) (v := ?_) ?_ hHeld ?_
            rotate_left
            · (intro ww _; go_simp; try with_reducible rfl)
            refine tkW 16 (some 35) (v := ?_) ?_ hHeld ?_
            rotate_left
            · (intro ww _; go_simp; try with_reducible rfl)
            refine tkW 17 (some 36) (v := ?_) ?_ hHeld ?_
            rotate_left
            · (intro ww hSw; (try dsimp only at hSw); go_simp; try with_reducible rfl)
            refine tkW 18 (some 37) (v := ?_) ?_ hHeld ?_
            rotate_left
            · (intro ww _; go_simp; try with_reducible rfl)
            refine tkW 19 (some 38) (v := ?_) ?_ hHeld ?_
            rotate_left
            · (intro ww hSw; (try dsimp only at hSw); have q6 : ww.cell? ⟨fb, fo + k * 2, none⟩ = some (.string fx.1) := (hSw.cell (p := ⟨fb, fo + k * 2, none⟩) (cell_lt (p := ⟨fb, fo + k * 2, none⟩) f0)).trans f0; go_simp; try with_reducible rfl)
            refine tkW 20 (some 39) (v := ?_) ?_ hHeld ?_
            rotate_left
            · (intro ww hSw; (try dsimp only at hSw); go_simp; try with_reducible rfl)
            refine tkW 21 (some 40) (v := ?_) ?_ hHeld ?_
            rotate_left
            · (intro ww _; go_simp; try with_reducible rfl)
            refine tkW 22 (some 41) (v := ?_) ?_ hHeld ?_
            rotate_left
            · (intro ww _; go_simp; try with_reducible rfl)
            refine wpAnyH_done (by kernel_rfl) ?_ _
            obtain ⟨wA, ewA⟩ : ∃ X, X = Uf5u0 := ⟨_, rfl⟩
            rw [← ewA] at hHeld HS HB ⊢
            clear ewA
            have g9 := (hHeld.cell (p := ⟨gb, go + i * 2, none⟩) (cell_lt (p := ⟨gb, go + i * 2, none⟩) g0)).trans g0
            have f9 := (hHeld.cell (p := ⟨fb, fo + k * 2, none⟩) (cell_lt (p := ⟨fb, fo + k * 2, none⟩) f0)).trans f0
            clear hHeld g0 f0
            have g0 := g9
            have f0 := f9
            clear g9 f9
            go_upto_region 8 with fail
            refine wp_region_held_drew (S := fun W' => Below wA.heap.size wA W') (by kernel_rfl) (Below.refl _ _).drew (fun hHeld => ?_)
            obtain ⟨Ud06u0, eW⟩ : ∃ X, X = wA.drew := ⟨_, rfl⟩
            have hb : Below wA.heap.size wA Ud06u0 := by rw [eW]; exact (Below.refl _ _).drew
            replace HS : Hid (OwnE strC 1 9 w.heap.size Ud06u0 (.slice oa R.length oc) (R)) := OwnE.below HS.out hb
            replace HB : Hid (Below w.heap.size w Ud06u0) := HB.out.trans (hb.mono HB.out.size)
            rw [← eW] at hHeld ⊢
            clear eW hb
            refine tkW 0 (some 52) (v := ?_) ?_ hHeld ?_
            rotate_left
            · (intro ww _; go_simp; try with_reducible rfl)
            refine tkW 1 (some 53) (v := ?_) ?_ hHeld ?_
            rotate_left
            · (intro ww _; go_simp; try with_reducible rfl)
            refine tkW 2 (some 54) (v := ?_) ?_ hHeld ?_
            rotate_left
            · (intro ww hSw; (try dsimp only at hSw); go_simp; try with_reducible rfl)
            refine tkW 3 (some 55) (v := ?_) ?_ hHeld ?_
            rotate_left
            · (intro ww hSw; (try dsimp only at hSw); go_simp; try with_reducible rfl)
            refine tkW 4 (some 56) (v := ?_) ?_ hHeld ?_
            rotate_left
            · (intro ww _; go_simp; try with_reducible rfl)
            refine tkW 5 (some 57) (v := ?_) ?_ hHeld ?_
            rotate_left
            · (intro ww _; go_simp; try with_reducible rfl)
            refine tkW 6 (some 58) (v := ?_) ?_ hHeld ?_
            rotate_left
            · (intro ww _; go_simp; try with_reducible rfl)
            refine tkW 7 (some 59) (v := ?_) ?_ hHeld ?_
            rotate_left
            · (intro ww hSw; (try dsimp only at hSw); go_simp; try with_reducible rfl)
            refine tkW 8 (some 60) (v := ?_) ?_ hHeld ?_
            rotate_left
            · (intro ww _; go_simp; try with_reducible rfl)
            refine tkW 9 (some 61) (v := ?_) ?_ hHeld ?_
            rotate_left
            · (intro ww hSw; (try dsimp only at hSw); have q6 : ww.cell? ⟨gb, go + i * 2, none⟩ = some (.string gx.1) := (hSw.cell (p := ⟨gb, go + i * 2, none⟩) (cell_lt (p := ⟨gb, go + i * 2, none⟩) g0)).trans g0; go_simp; try with_reducible rfl)
            refine tkW 10 (some 62) (v := ?_) ?_ hHeld ?_
            rotate_left
            · (intro ww _; go_simp; try with_reducible rfl)
            refine tkW 11 (some 63) (v := ?_) ?_ hHeld ?_
            rotate_left
            · (intro ww _; go_simp; try with_reducible rfl)
            refine tkW 12 (some 64) (v := ?_) ?_ hHeld ?_
            rotate_left
            · (intro ww hSw; (try dsimp only at hSw); go_simp; try with_reducible rfl)
            refine tkW 13 (some 65) (v := ?_) ?_ hHeld ?_
            rotate_left
            · (intro ww _; go_simp; try with_reducible rfl)
            refine tkW 14 (some 66) (v := ?_) ?_ hHeld ?_
            rotate_left
            · (intro ww hSw; (try dsimp only at hSw); have q6 : ww.cell? ⟨fb, fo + k * 2, none⟩ = some (.string fx.1) := (hSw.cell (p := ⟨fb, fo + k * 2, none⟩) (cell_lt (p := ⟨fb, fo + k * 2, none⟩) f0)).trans f0; go_simp; try with_reducible rfl)
            refine tkW 15 (some 67) (v := ?_) ?_ hHeld ?_
            rotate_left
            · (intro ww hSw; (try dsimp only at hSw); go_simp; try with_reducible rfl)
            refine tkW 16 (some 68) (v := ?_) ?_ hHeld ?_
            rotate_left
            · (intro ww _; go_simp; try with_reducible rfl)
            refine wpAnyH_done (by kernel_rfl) ?_ _
            have g9 := (hHeld.cell (p := ⟨gb, go + i * 2, none⟩) (cell_lt (p := ⟨gb, go + i * 2, none⟩) g0)).trans g0
            have f9 := (hHeld.cell (p := ⟨fb, fo + k * 2, none⟩) (cell_lt (p := ⟨fb, fo + k * 2, none⟩) f0)).trans f0
            clear hHeld g0 f0
            have g0 := g9
            have f0 := f9
            clear g9 f9
            go_wp2_with (at_builtin; refine StpD.to ?_)
            refine StpD.of ?_
            obtain ⟨W4, eW4⟩ : ∃ X, X = Ud06u0.alloc (.cells #[.string fx.1] 9) := ⟨_, rfl⟩
            have hq : W4.heap[Ud06u0.heap.size]? = some (.cells (strC fx.1).toArray 9) := (by rw [eW4]; exact heap_alloc_new _ _)
            have hb4 : Below Ud06u0.heap.size Ud06u0 W4 := (by rw [eW4]; exact (Below.refl _ _).alloc (Nat.le_refl _) _)
            rw [← eW4]
            replace HS := hide9 (OwnE.below HS.out hb4)
            replace HB := hide9 (HB.out.trans (hb4.mono HB.out.size))
            clear eW4 hb4 g0 f0
            refine wpList_app1E (enc := strC) (n := 1) (fun _ => rfl) (T := 9) Try.underlying91 hi3 hs0 hs1 hs2 rfl (by decide) (by decide) rfl _ _ rfl w.heap.size _ R rfl HS.out Ud06u0.heap.size fx.1 rfl hq (strOne fx.1) (Nat.le_trans HRl.out (by decide)) HB.out.size ?_
            intro g c W5 ho hg
            replace HB := hide9 (HB.out.grown hg HB.out.size (fun k e => (OwnE.lt HS.out k e).1))
            replace HS := hide9 ho
            clear hq ho hg
            go_wp2
            go_roundw
            case rel => exact ⟨i, k + 1, _, by go_num, by go_num, by omega, by omega, HB, HS, (by show _ = _; rw [HN.out, Hda.out, Hdb.out]; rw [namL, if_neg Hlt.out, if_neg Heq.out]; simp)⟩
            case measure => simp [intOf]; omega
      · have b1 : ¬ (k : Int) < (B.length : Int) := by omega
        have b2 : (k : Int) ≥ (B.length : Int) := by omega
        have Hdb : Hid (B.drop k = []) := List.drop_eq_nil_of_le (by omega)
        go_upto_region 5 with fail
        refine wp_region_held_drew (S := fun W' => Below wr.heap.size wr W') (by kernel_rfl) (Below.refl _ _).drew (fun hHeld => ?_)
        obtain ⟨Ua1u0, eW⟩ : ∃ X, X = wr.drew := ⟨_, rfl⟩
        have hb : Below wr.heap.size wr Ua1u0 := by rw [eW]; exact (Below.refl _ _).drew
        replace HS : Hid (OwnE strC 1 9 w.heap.size Ua1u0 (.slice oa R.length oc) (R)) := OwnE.below HS.out hb
        replace HB : Hid (Below w.heap.size w Ua1u0) := HB.out.trans (hb.mono HB.out.size)
        rw [← eW] at hHeld ⊢
        clear eW hb
        refine tkW 0 (some 19) (v := ?_) ?_ hHeld ?_
        rotate_left
        · (intro ww _; go_simp; try with_reducible rfl)
        refine tkW 1 (some 20) (v := ?_) ?_ hHeld ?_
        rotate_left
        · (intro ww _; go_simp; try with_reducible rfl)
        refine tkW 2 (some 21) (v := ?_) ?_ hHeld ?_
        rotate_left
        · (intro ww hSw; (try dsimp only at hSw); go_simp; try with_reducible rfl)
        refine tkW 3 (some 22) (v := ?_) ?_ hHeld ?_
        rotate_left
        · (intro ww hSw; (try dsimp only at hSw); go_simp; try with_reducible rfl)
        refine tkW 4 (some 23) (v := ?_) ?_ hHeld ?_
        rotate_left
        · (intro ww _; go_simp; try with_reducible rfl)
        refine tkU 5 (some 24) hHeld ?_
        refine tkU 6 (some 25) hHeld ?_
        refine tkU 7 (some 26) hHeld ?_
        refine tkU 8 (some 27) hHeld ?_
        refine tkU 9 (some 28) hHeld ?_
        refine tkU 10 (some 29) hHeld ?_
        refine tkU 11 (some 30) hHeld ?_
        refine tkU 12 (some 31) hHeld ?_
        refine tkU 13 (some 32) hHeld ?_
        refine tkU 14 (some 33) hHeld ?_
        refine tkU 15 (some 34) hHeld ?_
        refine tkU 16 (some 35) hHeld ?_
        refine tkU 17 (some 36) hHeld ?_
        refine tkU 18 (some 37) hHeld ?_
        refine tkU 19 (some 38) hHeld ?_
        refine tkU 20 (some 39) hHeld ?_
        refine tkU 21 (some 40) hHeld ?_
        refine tkW 22 (some 41) (v := ?_) ?_ hHeld ?_
        rotate_left
        · (intro ww _; go_simp; try with_reducible rfl)
        refine wpAnyH_done (by kernel_rfl) ?_ _
        have g9 := (hHeld.cell (p := ⟨gb, go + i * 2, none⟩) (cell_lt (p := ⟨gb, go + i * 2, none⟩) g0)).trans g0
        clear hHeld g0
        have g0 := g9
        clear g9
        go_wp2_with (at_builtin; refine StpD.to ?_)
        refine StpD.of ?_
        obtain ⟨W4, eW4⟩ : ∃ X, X = Ua1u0.alloc (.cells #[.string gx.1] 9) := ⟨_, rfl⟩
        have hq : W4.heap[Ua1u0.heap.size]? = some (.cells (strC gx.1).toArray 9) := (by rw [eW4]; exact heap_alloc_new _ _)
        have hb4 : Below Ua1u0.heap.size Ua1u0 W4 := (by rw [eW4]; exact (Below.refl _ _).alloc (Nat.le_refl _) _)
        rw [← eW4]
        replace HS := hide9 (OwnE.below HS.out hb4)
        replace HB := hide9 (HB.out.trans (hb4.mono HB.out.size))
        clear eW4 hb4 g0
        refine wpList_app1E (enc := strC) (n := 1) (fun _ => rfl) (T := 9) Try.underlying91 hi3 hs0 hs1 hs2 rfl (by decide) (by decide) rfl _ _ rfl w.heap.size _ R rfl HS.out Ua1u0.heap.size gx.1 rfl hq (strOne gx.1) (Nat.le_trans HRl.out (by decide)) HB.out.size ?_
        intro g c W5 ho hg
        replace HB := hide9 (HB.out.grown hg HB.out.size (fun k e => (OwnE.lt HS.out k e).1))
        replace HS := hide9 ho
        clear hq ho hg
        go_wp2
        go_roundw
        case rel => exact ⟨i + 1, k, _, by go_num, by go_num, by omega, by omega, HB, HS, (by show _ = _; rw [HN.out, Hda.out, Hdb.out]; rw [namL]; simp)⟩
        case measure => simp [intOf]; omega
    · have a1 : ¬ (i : Int) < (A.length : Int) := by omega
      have Hda : Hid (A.drop i = []) := List.drop_eq_nil_of_le (by omega)
      by_cases hkb : k < B.length
      · obtain ⟨fx, ey⟩ : ∃ x, x = B[k] := ⟨_, rfl⟩
        have hdb : B.drop k = fx :: B.drop (k + 1) := (by rw [ey]; exact List.drop_eq_getElem_cons hkb)
        obtain ⟨fb, fo, fe, fl, fh⟩ := HRlb.out.resolve_left (fun e => by rw [e] at hkb; simp at hkb)
        subst fe
        obtain ⟨fp, fq⟩ := fh k hkb
        have f0 := (HB.out.cell (p := ⟨fb, fo + k * 2, none⟩) fl).trans fp
        clear fh fp fq
        rw [← ey] at f0
        have Hdb := hide9 hdb
        clear hdb ey
        have b1 : (k : Int) < (B.length : Int) := by omega
        have b2 : ¬ (k : Int) ≥ (B.length : Int) := by omega
        go_upto_region 5 with fail
        refine wp_region_held_drew (S := fun W' => Below wr.heap.size wr W') (by kernel_rfl) (Below.refl _ _).drew (fun hHeld => ?_)
        obtain ⟨Ug7u0, eW⟩ : ∃ X, X = wr.drew := ⟨_, rfl⟩
        have hb : Below wr.heap.size wr Ug7u0 := by rw [eW]; exact (Below.refl _ _).drew
        replace HS : Hid (OwnE strC 1 9 w.heap.size Ug7u0 (.slice oa R.length oc) (R)) := OwnE.below HS.out hb
        replace HB : Hid (Below w.heap.size w Ug7u0) := HB.out.trans (hb.mono HB.out.size)
        rw [← eW] at hHeld ⊢
        clear eW hb
        refine tkW 0 (some 19) (v := ?_) ?_ hHeld ?_
        rotate_left
        · (intro ww _; go_simp; try with_reducible rfl)
        refine tkW 1 (some 20) (v := ?_) ?_ hHeld ?_
        rotate_left
        · (intro ww _; go_simp; try with_reducible rfl)
        refine tkW 2 (some 21) (v := ?_) ?_ hHeld ?_
        rotate_left
        · (intro ww hSw; (try dsimp only at hSw); go_simp; try with_reducible rfl)
        refine tkW 3 (some 22) (v := ?_) ?_ hHeld ?_
        rotate_left
        · (intro ww hSw; (try dsimp only at hSw); go_simp; try with_reducible rfl)
        refine tkW 4 (some 23) (v := ?_) ?_ hHeld ?_
        rotate_left
        · (intro ww _; go_simp; try with_reducible rfl)
        refine tkW 5 (some 24) (v := ?_) ?_ hHeld ?_
        rotate_left
        · (intro ww _; go_simp; try with_reducible rfl)
        refine tkW 6 (some 25) (v := ?_) ?_ hHeld ?_
        rotate_left
        · (intro ww _; go_simp; try with_reducible rfl)
        refine tkW 7 (some 26) (v := ?_) ?_ hHeld ?_
        rotate_left
        · (intro ww hSw; (try dsimp only at hSw); go_simp; try with_reducible rfl)
        refine tkW 8 (some 27) (v := ?_) ?_ hHeld ?_
        rotate_left
        · (intro ww hSw; (try dsimp only at hSw); go_simp; try with_reducible rfl)
        refine tkW 9 (some 28) (v := ?_) ?_ hHeld ?_
        rotate_left
        · (intro ww _; go_simp; try with_reducible rfl)
        refine tkU 10 (some 29) hHeld ?_
        refine tkU 11 (some 30) hHeld ?_
        refine tkU 12 (some 31) hHeld ?_
        refine tkU 13 (some 32) hHeld ?_
        refine tkU 14 (some 33) hHeld ?_
        refine tkU 15 (some 34) hHeld ?_
        refine tkU 16 (some 35) hHeld ?_
        refine tkU 17 (some 36) hHeld ?_
        refine tkU 18 (some 37) hHeld ?_
        refine tkU 19 (some 38) hHeld ?_
        refine tkU 20 (some 39) hHeld ?_
        refine tkW 21 (some 40) (v := ?_) ?_ hHeld ?_
        rotate_left
        · (intro ww _; go_simp; try with_reducible rfl)
        refine tkW 22 (some 41) (v := ?_) ?_ hHeld ?_
        rotate_left
        · (intro ww _; go_simp; try with_reducible rfl)
        refine wpAnyH_done (by kernel_rfl) ?_ _
        obtain ⟨wA, ewA⟩ : ∃ X, X = Ug7u0 := ⟨_, rfl⟩
        rw [← ewA] at hHeld HS HB ⊢
        clear ewA
        have f9 := (hHeld.cell (p := ⟨fb, fo + k * 2, none⟩) (cell_lt (p := ⟨fb, fo + k * 2, none⟩) f0)).trans f0
        clear hHeld f0
        have f0 := f9
        clear f9
        go_upto_region 8 with fail
        refine wp_region_held_drew (S := fun W' => Below wA.heap.size wA W') (by kernel_rfl) (Below.refl _ _).drew (fun hHeld => ?_)
        obtain ⟨Uh8u0, eW⟩ : ∃ X, X = wA.drew := ⟨_, rfl⟩
        have hb : Below wA.heap.size wA Uh8u0 := by rw [eW]; exact (Below.refl _ _).drew
        replace HS : Hid (OwnE strC 1 9 w.heap.size Uh8u0 (.slice oa R.length oc) (R)) := OwnE.below HS.out hb
        replace HB : Hid (Below w.heap.size w Uh8u0) := HB.out.trans (hb.mono HB.out.size)
        rw [← eW] at hHeld ⊢
        clear eW hb
        refine tkW 0 (some 52) (v := ?_) ?_ hHeld ?_
        rotate_left
        · (intro ww _; go_simp; try with_reducible rfl)
        refine tkW 1 (some 53) (v := ?_) ?_ hHeld ?_
        rotate_left
        · (intro ww _; go_simp; try with_reducible rfl)
        refine tkW 2 (some 54) (v := ?_) ?_ hHeld ?_
        rotate_left
        · (intro ww hSw; (try dsimp only at hSw); go_simp; try with_reducible rfl)
        refine tkW 3 (some 55) (v := ?_) ?_ hHeld ?_
        rotate_left
        · (intro ww hSw; (try dsimp only at hSw); go_simp; try with_reducible rfl)
        refine tkW 4 (some 56) (v := ?_) ?_ hHeld ?_
        rotate_left
        · (intro ww _; go_simp; try with_reducible rfl)
        refine tkU 5 (some 57) hHeld ?_
        refine tkU 6 (some 58) hHeld ?_
        refine tkU 7 (some 59) hHeld ?_
        refine tkU 8 (some 60) hHeld ?_
        refine tkU 9 (some 61) hHeld ?_
        refine tkU 10 (some 62) hHeld ?_
        refine tkU 11 (some 63) hHeld ?_
        refine tkU 12 (some 64) hHeld ?_
        refine tkU 13 (some 65) hHeld ?_
        refine tkU 14 (some 66) hHeld ?_
        refine tkU 15 (some 67) hHeld ?_
        refine tkW 16 (some 68) (v := ?_) ?_ hHeld ?_
        rotate_left
        · (intro ww _; go_simp; try with_reducible rfl)
        refine wpAnyH_done (by kernel_rfl) ?_ _
        have f9 := (hHeld.cell (p := ⟨fb, fo + k * 2, none⟩) (cell_lt (p := ⟨fb, fo + k * 2, none⟩) f0)).trans f0
        clear hHeld f0
        have f0 := f9
        clear f9
        go_wp2_with (at_builtin; refine StpD.to ?_)
        refine StpD.of ?_
        obtain ⟨W4, eW4⟩ : ∃ X, X = Uh8u0.alloc (.cells #[.string fx.1] 9) := ⟨_, rfl⟩
        have hq : W4.heap[Uh8u0.heap.size]? = some (.cells (strC fx.1).toArray 9) := (by rw [eW4]; exact heap_alloc_new _ _)
        have hb4 : Below Uh8u0.heap.size Uh8u0 W4 := (by rw [eW4]; exact (Below.refl _ _).alloc (Nat.le_refl _) _)
        rw [← eW4]
        replace HS := hide9 (OwnE.below HS.out hb4)
        replace HB := hide9 (HB.out.trans (hb4.mono HB.out.size))
        clear eW4 hb4 f0
        refine wpList_app1E (enc := strC) (n := 1) (fun _ => rfl) (T := 9) Try.underlying91 hi3 hs0 hs1 hs2 rfl (by decide) (by decide) rfl _ _ rfl w.heap.size _ R rfl HS.out Uh8u0.heap.size fx.1 rfl hq (strOne fx.1) (Nat.le_trans HRl.out (by decide)) HB.out.size ?_
        intro g c W5 ho hg
        replace HB := hide9 (HB.out.grown hg HB.out.size (fun k e => (OwnE.lt HS.out k e).1))
        replace HS := hide9 ho
        clear hq ho hg
        go_wp2
        go_roundw
        case rel => exact ⟨i, k + 1, _, by go_num, by go_num, by omega, by omega, HB, HS, (by show _ = _; rw [HN.out, Hda.out, Hdb.out]; rw [namL]; simp)⟩
        case measure => simp [intOf]; omega
      · have b1 : ¬ (k : Int) < (B.length : Int) := by omega
        have b2 : (k : Int) ≥ (B.length : Int) := by omega
        have Hdb : Hid (B.drop k = []) := List.drop_eq_nil_of_le (by omega)
        go_wp2
        (try rw [Exit.noGoto_ret])
        go_ret
        exact ⟨_, rfl, (by have h9 := HN.out; rw [Hda.out, Hdb.out, namL, List.append_nil] at h9; rw [h9]; exact HS.out), HB.out⟩
end Go.Proofs.Ythhnglpkfcmjiaa

namespace Go.Proofs.Ythhnglpkfcmjiaa
open Go.RowKit Go.Shelf
set_option linter.unusedVariables false
set_option linter.unusedSimpArgs false
attribute [local go_sem] Oper.semAt_some
theorem strC_len (x : ByteArray) : (strC x).length = 1 := rfl
/-- The row of steps and the row of names, apart from all that was there ahead. -/
structure OnS (W2 : World) (nv : Value) (NL : List ByteArray) (v : Value) (R : List Pa) (W : World) : Prop where
  ow : OwnPa W2.heap.size W v R
  nm : OwnE strC 1 9 W2.heap.size W nv NL
  bel : Below W2.heap.size W2 W
section
variable {W2 W W' : World} {nv v v' : Value} {NL : List ByteArray} {R R' : List Pa}
theorem OnS.below (h : OnS W2 nv NL v R W) (hb : Below W.heap.size W W') : OnS W2 nv NL v R W' := ⟨OwnE.below h.ow hb, OwnE.below h.nm hb, h.bel.trans (hb.mono h.bel.size)⟩
theorem OnS.ne (h : OnS W2 nv NL v R W) {k : Nat} (h1 : nv.ownBlock = some k) (h2 : v.ownBlock = some k) : False := by
  obtain ⟨c1, e1⟩ := own_cellsE h.nm h1
  obtain ⟨c2, e2⟩ := own_cellsE h.ow h2
  rw [e1] at e2
  injection e2 with e2
  injection e2 with _ e2 _
  exact absurd e2 (by decide)
theorem OnS.push (h : OnS W2 nv NL v R W) (hg : W.grownBy W' v.ownBlock) (ho : OwnPa W2.heap.size W' v' R') : OnS W2 nv NL v' R' W' := ⟨ho, OwnE.keep h.nm fun k e => hg.block k (OwnE.lt h.nm k e).2 (fun e2 => h.ne e e2.symm), h.bel.grown hg h.bel.size (fun k e => (OwnE.lt h.ow k e).1)⟩
theorem OnS.kp (h : OnS W2 nv NL v R W) (hg : W.grownBy W' v.ownBlock) : KeepsS (fun k => k < W2.heap.size ∨ some k = nv.ownBlock) W W' := ⟨hg.size, fun k q => by
  rcases q with q | q
  · exact hg.block k (Nat.lt_of_lt_of_le q h.bel.size) (fun e => by have := (OwnE.lt h.ow k e.symm).1; omega)
  · exact hg.block k (OwnE.lt h.nm k q.symm).2 (fun e => h.ne q.symm e.symm)⟩
theorem OnS.kb (h : OnS W2 nv NL v R W) (hb : Below W.heap.size W W') : KeepsS (fun k => k < W2.heap.size ∨ some k = nv.ownBlock) W W' := KeepsS.of_below hb fun k q => by
  rcases q with q | q
  · exact Nat.lt_of_lt_of_le q h.bel.size
  · exact (OwnE.lt h.nm k q.symm).2
end
theorem nam_take {k : St} {O A : List At} {L : List ByteArray} {i : Nat} (h : i < L.length) : (L.take (i + 1)).flatMap (stA k O A) = (L.take i).flatMap (stA k O A) ++ stA k O A L[i] := by
  rw [List.take_succ_eq_append_getElem h, List.flatMap_append]
  simp
theorem flat_len {k : St} {O A : List At} : ∀ L : List ByteArray, (L.flatMap (stA k O A)).length ≤ L.length
  | [] => by simp
  | x :: r => by
    rw [List.flatMap_cons, List.length_append, List.length_cons]
    have := stA_len k O A x
    have := flat_len (k := k) (O := O) (A := A) r
    omega
set_option maxRecDepth 100000 in
set_option maxHeartbeats 8000000 in
theorem ownD_any (G G2 : Nat → Prop) (a b : VT) (va vb : Value) (w : World) (ha : VIs G w va a) (hb : VIs G2 w vb b) (hsa : a.sz ≤ 1048576) (hlx : (wasT a b.k).at_.length ≤ 524288) (hlb : b.at_.length ≤ 524288) :
    Calls Try.prog 38 #[va, vb] w fun e w' => ∃ v, e = .returned v ∧ OwnPa w.heap.size w' v (ownD (hasT a b.k) (wasT a b.k) b) ∧ Below w.heap.size w w' := by
  obtain ⟨aa, ca, ak, da, e1, _⟩ := ha.form
  obtain ⟨ba, cb, bk, db, e2, fb⟩ := hb.form
  subst e1 e2
  obtain ⟨W0, eW⟩ : ∃ X, X = (w.alloc (.cells #[.int .i64 a.k.1, .int .i64 a.k.2, .string a.tg, .string a.tx, .slice aa a.at_.length ca, .slice ak a.ks.length da] 27)).alloc (.cells #[.int .i64 b.k.1, .int .i64 b.k.2, .string b.tg, .string b.tx, .slice ba b.at_.length cb, .slice bk b.ks.length db] 27) := ⟨_, rfl⟩
  have hb0 : Below w.heap.size w W0 := (by rw [eW]; exact ((Below.refl _ _).alloc (Nat.le_refl _) _).alloc (by simp) _)
  have HR1 : Hid (W0.heap[w.heap.size]? = some (.cells #[.int .i64 a.k.1, .int .i64 a.k.2, .string a.tg, .string a.tx, .slice aa a.at_.length ca, .slice ak a.ks.length da] 27)) := (by show _ = _; rw [eW, Below.heap_alloc _ _ _ (by simp)]; exact heap_alloc_new _ _)
  have HR2 : Hid (W0.heap[w.heap.size + 1]? = some (.cells #[.int .i64 b.k.1, .int .i64 b.k.2, .string b.tg, .string b.tx, .slice ba b.at_.length cb, .slice bk b.ks.length db] 27)) := (by show _ = _; rw [eW]; have h9 := heap_alloc_new (w.alloc (.cells #[.int .i64 a.k.1, .int .i64 a.k.2, .string a.tg, .string a.tx, .slice aa a.at_.length ca, .slice ak a.ks.length da] 27)) (.cells #[.int .i64 b.k.1, .int .i64 b.k.2, .string b.tg, .string b.tx, .slice ba b.at_.length cb, .slice bk b.ks.length db] 27); rw [show (w.alloc (.cells #[.int .i64 a.k.1, .int .i64 a.k.2, .string a.tg, .string a.tx, .slice aa a.at_.length ca, .slice ak a.ks.length da] 27)).heap.size = w.heap.size + 1 by simp] at h9; exact h9)
  have HBa : Hid (LsE atCells 2 G2 W0 (.slice ba b.at_.length cb) b.at_) := fb.at_.below hb0
  have HA : Hid (VIs G W0 (.agg #[.int .i64 a.k.1, .int .i64 a.k.2, .string a.tg, .string a.tx, .slice aa a.at_.length ca, .slice ak a.ks.length da]) a) := ha.below hb0
  have HB : Hid (VIs G2 W0 (.agg #[.int .i64 b.k.1, .int .i64 b.k.2, .string b.tg, .string b.tx, .slice ba b.at_.length cb, .slice bk b.ks.length db]) b) := hb.below hb0
  have HE := hide9 eW
  have HL := hide9 hb0
  clear eW hb0 ha hb
  clear fb
  go_enter Try.func38, Try.ntmps38
  go_upto_region 1 with fail
  rw [← HE.out]
  clear HE
  obtain ⟨y0, y1, y2, y3, y4, y5⟩ := row6d HR1.out
  obtain ⟨z0, z1, z2, z3, z4, z5⟩ := row6d HR2.out
  go_wp2_with fail
  clear y0 y1 y2 y3 y4 y5
  clear z0 z1 z2 z3 z4 z5
  refine (refFind_any G a b.k _ _ HA.out hsa).mono ?_
  rintro e w1 ⟨x, av, kv, rfl, hwx, fx, hb1⟩
  obtain ⟨xa, xc, ex1⟩ := fx.at_.form
  obtain ⟨xk, xd, ex2⟩ := fx.ks.form
  subst ex1 ex2
  have HXa : Hid (LsE atCells 2 (fun k => k < W0.heap.size) w1 (.slice xa x.at_.length xc) x.at_) := fx.at_
  have Hwx : Hid (wasT a b.k = x) := hwx
  have hxl : x.at_.length ≤ 524288 := (by rw [← Hwx.out]; exact hlx)
  have Hxl := hide9 hxl
  obtain ⟨old, eold⟩ : ∃ v : Bool, (fndT a b.k).isSome = v := ⟨_, rfl⟩
  rw [eold]
  have Hold : Hid (hasT a b.k = old) := eold
  replace HL := hide9 (HL.out.trans (hb1.mono HL.out.size))
  replace HR2 := hide9 ((hb1.block _ (row_lt HR2.out)).trans HR2.out)
  replace HBa := hide9 (HBa.out.below hb1)
  clear hb1 fx hwx hxl eold HA HB HR1
  have Hz : Hid ((w1.alloc (.cells #[.int .i64 0, .int .i64 0, .string ⟨#[]⟩, .string ⟨#[]⟩, .slice none 0 0, .slice none 0 0] 27)).heap[w1.heap.size]? = some (.cells #[.int .i64 0, .int .i64 0, .string ⟨#[]⟩, .string ⟨#[]⟩, .slice none 0 0, .slice none 0 0] 27)) := heap_alloc_new _ _
  obtain ⟨W2, eW⟩ : ∃ X, X = (w1.alloc (.cells #[.int .i64 0, .int .i64 0, .string ⟨#[]⟩, .string ⟨#[]⟩, .slice none 0 0, .slice none 0 0] 27)).setRow w1.heap.size #[.int .i64 x.k.1, .int .i64 x.k.2, .string x.tg, .string x.tx, .slice xa x.at_.length xc, .slice xk x.ks.length xd] := ⟨_, rfl⟩
  have hb9 : Below w1.heap.size w1 W2 := (by rw [eW]; exact ((Below.refl _ _).alloc (Nat.le_refl _) _).grown (grown_setRow _ _ _) (by simp) (fun k e => by cases e; exact Nat.le_refl _))
  obtain ⟨xb, enb⟩ : ∃ b, b = w1.heap.size := ⟨_, rfl⟩
  have Hxb : Hid (W2.heap[xb]? = some (.cells #[.int .i64 x.k.1, .int .i64 x.k.2, .string x.tg, .string x.tx, .slice xa x.at_.length xc, .slice xk x.ks.length xd] 27)) := (by show _ = _; rw [eW, enb]; exact setRow_same Hz.out)
  have HE9 := hide9 (And.intro eW enb)
  clear eW enb
  replace HL := hide9 (HL.out.trans (hb9.mono HL.out.size))
  replace HR2 := hide9 ((hb9.block _ (row_lt HR2.out)).trans HR2.out)
  replace HBa := hide9 (HBa.out.below hb9)
  replace HXa := hide9 (HXa.out.below hb9)
  clear hb9
  go_wp2_with (refine wpList_store_row rfl 27 (.tmp 5) (.tmp 19) rfl w1.heap.size 27 #[.int .i64 0, .int .i64 0, .string ⟨#[]⟩, .string ⟨#[]⟩, .slice none 0 0, .slice none 0 0] #[.int .i64 x.k.1, .int .i64 x.k.2, .string x.tg, .string x.tx, .slice xa x.at_.length xc, .slice xk x.ks.length xd] rfl rfl Hz.out sizeVy rfl (by simp [Value.oneCell']) ?_; refine StpD.to ?_)
  refine StpD.of ?_
  rw [← HE9.out.1, ← HE9.out.2]
  clear HE9 Hz
  obtain ⟨W3, eW3⟩ : ∃ X, X = W2.alloc (.cells #[] 45) := ⟨_, rfl⟩
  have hb3 : Below W2.heap.size W2 W3 := (by rw [eW3]; exact (Below.refl _ _).alloc (Nat.le_refl _) _)
  have hs : OwnPa W2.heap.size W3 (.slice (some ⟨W2.heap.size, 0, none⟩) 0 0) [] := (by rw [eW3]; exact World.ownsRow_made W2 #[] 0 (Nat.le_refl _) (by unfold maxLen; omega) (by simp))
  have HS : Hid (OnS W2 (.slice none 0 0) [] (.slice (some ⟨W2.heap.size, 0, none⟩) 0 0) ([]) W3) := ⟨hs, OwnE.nil0 _ _, hb3⟩
  have HE := hide9 eW3
  clear eW3 hb3 hs
  go_upto_region 3 with fail
  rw [← HE.out]
  clear HE
  obtain ⟨tq, etq⟩ : ∃ v : Bool, (x.tg.toList == b.tg.toList) = v := ⟨_, rfl⟩
  have Htq : Hid (decide (x.tg = b.tg) = tq) := (by rw [txt_eq] at etq; exact etq)
  obtain ⟨uq, euq⟩ : ∃ v : Bool, (x.tx.toList == b.tx.toList) = v := ⟨_, rfl⟩
  have Huq : Hid (decide (x.tx = b.tx) = uq) := (by rw [txt_eq] at euq; exact euq)
  have HX3 : Hid (W3.heap[xb]? = some (.cells #[.int .i64 x.k.1, .int .i64 x.k.2, .string x.tg, .string x.tx, .slice xa x.at_.length xc, .slice xk x.ks.length xd] 27)) := (HS.out.bel.block _ (row_lt Hxb.out)).trans Hxb.out
  have HR3 : Hid (W3.heap[w.heap.size + 1]? = some (.cells #[.int .i64 b.k.1, .int .i64 b.k.2, .string b.tg, .string b.tx, .slice ba b.at_.length cb, .slice bk b.ks.length db] 27)) := (HS.out.bel.block _ (row_lt HR2.out)).trans HR2.out
  go_cut [29] from 22 (fun v29 W => v29 = .bool (old && !tq) ∧ W = W3)
  case first =>
    cases old with
    | false =>
      go_wp2
      go_meet
      case rel => exact ⟨rfl, rfl⟩
    | true =>
      obtain ⟨y0, y1, y2, y3, y4, y5⟩ := row6d HX3.out
      obtain ⟨z0, z1, z2, z3, z4, z5⟩ := row6d HR3.out
      go_wp2
      go_meet
      case rel => exact ⟨(by first | rfl | simp), rfl⟩
  case rest =>
    obtain ⟨rfl, rfl⟩ := hcut
    obtain ⟨tb, etb⟩ : ∃ v : Bool, (old && !tq) = v := ⟨_, rfl⟩
    rw [etb]
    have Htb : Hid ((if old = true ∧ x.tg ≠ b.tg then [pTg b.k b.tg] else []) = if tb = true then [pTg b.k b.tg] else []) := (by show _ = _; rw [← etb, ← Htq.out]; cases old <;> simp)
    clear etb
    go_upto_if 29 with fail
    go_cut [7] from 22 (fun v W => ∃ (R : List Pa) (ra : Option Addr) (rc : Nat), v = .slice ra R.length rc ∧ Hid (R = if tb = true then [pTg b.k b.tg] else []) ∧ Hid (OnS W2 (.slice none 0 0) [] (.slice ra R.length rc) (R) W))
    case first =>
      cases tb with
      | false =>
        go_wp2
        go_meet
        case rel => exact ⟨[], some ⟨W2.heap.size, 0, none⟩, 0, rfl, hide9 (by simp), HS⟩
      | true =>
        obtain ⟨z0, z1, z2, z3, z4, z5⟩ := row6d HR3.out
        go_wp2_with (at_builtin; refine StpD.to ?_)
        clear z0 z1 z2 z3 z4 z5
        refine StpD.of ?_
        obtain ⟨W4, eW4⟩ : ∃ X, X = wc.alloc (.cells #[.int .i64 6, .int .i64 b.k.1, .int .i64 b.k.2, .int .i64 0, .int .i64 0, .int .i64 0, .int .i64 0, .string b.tg, .string ⟨#[]⟩] 45) := ⟨_, rfl⟩
        have hq : W4.heap[wc.heap.size]? = some (.cells (paCells (pTg b.k b.tg)).toArray 45) := (by rw [eW4]; exact heap_alloc_new _ _)
        have hb4 : Below wc.heap.size wc W4 := (by rw [eW4]; exact (Below.refl _ _).alloc (Nat.le_refl _) _)
        rw [← eW4]
        replace HS := hide9 (HS.out.below hb4)
        clear eW4 hb4
        refine wpList_app1 rfl _ _ rfl W2.heap.size _ [] rfl HS.out.ow wc.heap.size (pTg b.k b.tg) rfl hq (by simp) HS.out.bel.size ?_
        intro g c W5 ho hg
        replace HS := hide9 (HS.out.push hg ho)
        clear hq ho hg
        go_wp2
        go_meet
        case rel => exact ⟨[pTg b.k b.tg], some ⟨g, 0, none⟩, c, rfl, hide9 (by simp), HS⟩
    case rest =>
      obtain ⟨R, ra, rc, rfl, HRe, HS⟩ := hcut
      have HRl : Hid (R.length ≤ 1) := (by show _ ≤ _; rw [HRe.out]; split <;> simp)
      clear HX3 HR3
      have HX3 : Hid (wc.heap[xb]? = some (.cells #[.int .i64 x.k.1, .int .i64 x.k.2, .string x.tg, .string x.tx, .slice xa x.at_.length xc, .slice xk x.ks.length xd] 27)) := (HS.out.bel.block _ (row_lt Hxb.out)).trans Hxb.out
      have HR3 : Hid (wc.heap[w.heap.size + 1]? = some (.cells #[.int .i64 b.k.1, .int .i64 b.k.2, .string b.tg, .string b.tx, .slice ba b.at_.length cb, .slice bk b.ks.length db] 27)) := (HS.out.bel.block _ (row_lt HR2.out)).trans HR2.out
      obtain ⟨y0, y1, y2, y3, y4, y5⟩ := row6d HX3.out
      obtain ⟨z0, z1, z2, z3, z4, z5⟩ := row6d HR3.out
      go_upto_if 42 with fail
      clear y0 y1 y2 y3 y4 y5
      go_cut [7] from 22 (fun v W => ∃ (R : List Pa) (ra : Option Addr) (rc : Nat), v = .slice ra R.length rc ∧ Hid (R = (if tb = true then [pTg b.k b.tg] else []) ++ if uq = true then [] else [pTx b.k b.tx]) ∧ Hid (OnS W2 (.slice none 0 0) [] (.slice ra R.length rc) (R) W))
      case first =>
        cases uq with
        | true =>
          go_wp2
          go_meet
          case rel => exact ⟨R, ra, rc, rfl, hide9 (by rw [HRe.out]; simp), HS⟩
        | false =>
          go_wp2_with (at_builtin; refine StpD.to ?_)
          refine StpD.of ?_
          clear z0 z1 z2 z3 z4 z5
          obtain ⟨W4, eW4⟩ : ∃ X, X = wc.alloc (.cells #[.int .i64 7, .int .i64 b.k.1, .int .i64 b.k.2, .int .i64 0, .int .i64 0, .int .i64 0, .int .i64 0, .string ⟨#[]⟩, .string b.tx] 45) := ⟨_, rfl⟩
          have hq : W4.heap[wc.heap.size]? = some (.cells (paCells (pTx b.k b.tx)).toArray 45) := (by rw [eW4]; exact heap_alloc_new _ _)
          have hb4 : Below wc.heap.size wc W4 := (by rw [eW4]; exact (Below.refl _ _).alloc (Nat.le_refl _) _)
          rw [← eW4]
          replace HS := hide9 (HS.out.below hb4)
          clear eW4 hb4
          refine wpList_app1 rfl _ _ rfl W2.heap.size _ R rfl HS.out.ow wc.heap.size (pTx b.k b.tx) rfl hq (Nat.le_trans HRl.out (by decide)) HS.out.bel.size ?_
          intro g c W5 ho hg
          replace HS := hide9 (HS.out.push hg ho)
          clear hq ho hg
          go_wp2
          go_meet
          case rel => exact ⟨R ++ [pTx b.k b.tx], some ⟨g, 0, none⟩, c, (by simp), hide9 (by rw [HRe.out]; simp), (by rw [List.length_append]; exact HS)⟩
      case rest =>
        obtain ⟨R2, ra, rc, rfl, HRe2, HS⟩ := hcut
        clear HX3 HR3 HRl HRe z0 z1 z2 z3 z4 z5
        have HX3 : Hid (wc.heap[xb]? = some (.cells #[.int .i64 x.k.1, .int .i64 x.k.2, .string x.tg, .string x.tx, .slice xa x.at_.length xc, .slice xk x.ks.length xd] 27)) := (HS.out.bel.block _ (row_lt Hxb.out)).trans Hxb.out
        have HR3 : Hid (wc.heap[w.heap.size + 1]? = some (.cells #[.int .i64 b.k.1, .int .i64 b.k.2, .string b.tg, .string b.tx, .slice ba b.at_.length cb, .slice bk b.ks.length db] 27)) := (HS.out.bel.block _ (row_lt HR2.out)).trans HR2.out
        obtain ⟨y0, y1, y2, y3, y4, y5⟩ := row6d HX3.out
        obtain ⟨z0, z1, z2, z3, z4, z5⟩ := row6d HR3.out
        go_wp2_with fail
        clear y0 y1 y2 y3 y4 y5
        clear z0 z1 z2 z3 z4 z5
        refine (names_any _ _ x.at_ b.at_ _ _ _ (HXa.out.below HS.out.bel) (HBa.out.below HS.out.bel) Hxl.out hlb).mono ?_
        rintro e w7 ⟨nv, rfl, hn, hb7⟩
        obtain ⟨NL, eNL⟩ : ∃ l, l = namL x.at_ b.at_ := ⟨_, rfl⟩
        rw [← eNL] at hn
        have HNe := hide9 eNL
        obtain ⟨na, nc, en⟩ := OwnE.form hn
        subst en
        have HNl : Hid (NL.length ≤ 1048576) := (by show _ ≤ _; rw [HNe.out]; have h1 := nam_len _ x.at_ b.at_ (Nat.le_refl _); have := Hxl.out; omega)
        have HS7 : Hid (OnS W2 (.slice na NL.length nc) NL (.slice ra R2.length rc) (R2) w7) := ⟨OwnE.below HS.out.ow hb7, OwnE.low hn HS.out.bel.size, HS.out.bel.trans (hb7.mono HS.out.bel.size)⟩
        have HS := HS7
        clear HS7 eNL hn hb7 HX3 HR3
        have hnl9 : NL.length ≤ 1048576 := HNl.out
        have HRl2 : Hid (R2.length ≤ 2) := (by show _ ≤ _; rw [HRe2.out, List.length_append]; split <;> split <;> simp)
        go_wp2
        go_loopw [7, 9] (fun v iv wr => ∃ (i : Nat) (R : List Pa), iv = .int .i64 (i : Int) ∧ i ≤ NL.length ∧ Hid (OnS W2 (.slice na NL.length nc) NL v (R) wr) ∧ Hid (R = R2 ++ (NL.take i).flatMap (stA b.k x.at_ b.at_))) (fun _ iv _ => NL.length - (intOf iv).toNat)
        case atStart => exact ⟨0, R2, rfl, Nat.zero_le _, HS, hide9 (by simp)⟩
        case round =>
          clear HS
          obtain ⟨i, R, rfl, hi, HS, HRe⟩ := hrel
          obtain ⟨ra, rc, e1⟩ := OwnE.form HS.out.ow
          subst e1
          by_cases hlt : i < NL.length
          · have hrl : R.length ≤ 1048578 := (by rw [HRe.out, List.length_append]; have h1 := flat_len (k := b.k) (O := x.at_) (A := b.at_) (NL.take i); rw [List.length_take] at h1; have h2 := HRl2.out; omega)
            have HRl : Hid (R.length ≤ 1048578) := hrl
            clear hrl
            obtain ⟨m, em⟩ : ∃ m, m = NL[i] := ⟨_, rfl⟩
            have Htk : Hid (R2 ++ (NL.take (i + 1)).flatMap (stA b.k x.at_ b.at_) = R ++ stA b.k x.at_ b.at_ m) := (by show _ = _; rw [nam_take hlt, ← List.append_assoc, ← HRe.out, ← em])
            obtain ⟨ng, ncp, en, _, hnc, _⟩ := OwnE.cells strC_len HS.out.nm hlt
            injection en with en1 en2 en3
            subst en1 en3
            clear en2
            have Hnc : Hid (wr.cell? ⟨ng, i, none⟩ = some (.string m)) := (by rw [em]; have h9 := hnc 0 _ rfl; rw [Nat.mul_one, Nat.add_zero] at h9; exact h9)
            clear hnc em
            have k1 : (i : Int) < (NL.length : Int) := by omega
            have k0 : (0 : Int) ≤ (i : Int) := by omega
            obtain ⟨o9, eo9⟩ : ∃ o, attrO x.at_ m = o := ⟨_, rfl⟩
            have Ho9 := hide9 eo9
            obtain ⟨y9, ey9⟩ : ∃ o, attrO b.at_ m = o := ⟨_, rfl⟩
            have Hy9 := hide9 ey9
            clear eo9 ey9
            go_upto_region 11 with fail
            have HS0 : Hid (OnS W2 (.slice (some ⟨ng, 0, none⟩) NL.length nc) NL (.slice ra R.length rc) (R) wr) := HS
            refine wp_region_held_drew (S := fun W' => Below wr.heap.size wr W') (by kernel_rfl) (Below.refl _ _).drew (fun hHeld => ?_)
            obtain ⟨Up1u0, eW⟩ : ∃ X, X = wr.drew := ⟨_, rfl⟩
            have hb : Below wr.heap.size wr Up1u0 := by rw [eW]; exact (Below.refl _ _).drew
            replace HS : Hid (OnS W2 (.slice (some ⟨ng, 0, none⟩) NL.length nc) NL (.slice ra R.length rc) (R) Up1u0) := HS.out.below hb
            rw [← eW] at hHeld ⊢
            clear eW hb
            refine tkW 0 (some 63) (v := ?_) ?_ hHeld ?_
            rotate_left
            · (intro ww _; go_simp; try with_reducible rfl)
            refine tkW 1 (some 64) (v := ?_) ?_ hHeld ?_
            rotate_left
            · (intro ww hSw; (try dsimp only at hSw); have hr9 := ((hSw.block _ (Nat.lt_of_lt_of_le (row_lt Hxb.out) HS0.out.bel.size)).trans (HS0.out.bel.block _ (row_lt Hxb.out))).trans Hxb.out; obtain ⟨y0, y1, y2, y3, y4, y5⟩ := row6d hr9; go_simp; try with_reducible rfl)
            refine tkW 2 (some 65) (v := ?_) ?_ hHeld ?_
            rotate_left
            · (intro ww _; go_simp; try with_reducible rfl)
            refine tkW 3 (some 66) (v := ?_) ?_ hHeld ?_
            rotate_left
            · (intro ww _; go_simp; try with_reducible rfl)
            refine tkW 4 (some 67) (v := ?_) ?_ hHeld ?_
            rotate_left
            · (intro ww hSw; (try dsimp only at hSw); go_simp; try with_reducible rfl)
            refine tkW 5 (some 68) (v := ?_) ?_ hHeld ?_
            rotate_left
            · (intro ww hSw; (try dsimp only at hSw); have q6 : ww.cell? ⟨ng, i, none⟩ = some (.string m) := (hSw.cell (p := ⟨ng, i, none⟩) (cell_lt (p := ⟨ng, i, none⟩) Hnc.out)).trans Hnc.out; go_simp; try with_reducible rfl)
            refine wpAnyH_ready (rs := [6]) (by kernel_rfl) (by simp) ?_
            refine AllReadyH.cons (o := ⟨some 69, _, _, _, _, _⟩) rfl (fun K hK => ?_) AllReadyH.nil
            go_simp
            refine (attr_any _ x.at_ m _ _ (HXa.out.below HS.out.bel)).mono ?_
            rintro e Up1u1 ⟨rfl, hb⟩
            rw [Ho9.out]
            have hkp := hHeld.trans (hb.mono hHeld.size)
            replace HS := hide9 (HS.out.below hb)
            clear hb
            (try go_wp2_with fail)
            refine hK.out _ _ (hkp) (fun hHeld2 => ?_)
            clear hK K hHeld
            have hHeld := hHeld2
            clear hHeld2
            (try simp only [Act.put, List.setIfInBounds_toArray, List.set_cons_zero, List.set_cons_succ])
            clear hkp
            refine tkW 7 (some 62) (v := ?_) ?_ hHeld ?_
            rotate_left
            · (intro ww _; go_simp; try with_reducible rfl)
            refine tkW 8 (some 70) (v := ?_) ?_ hHeld ?_
            rotate_left
            · (intro ww _; go_simp; try with_reducible rfl)
            refine tkW 9 (some 71) (v := ?_) ?_ hHeld ?_
            rotate_left
            · (intro ww _; go_simp; try with_reducible rfl)
            refine tkW 10 (some 10) (v := ?_) ?_ hHeld ?_
            rotate_left
            · (intro ww _; go_simp; try with_reducible rfl)
            refine tkW 11 (some 11) (v := ?_) ?_ hHeld ?_
            rotate_left
            · (intro ww _; go_simp; try with_reducible rfl)
            refine wpAnyH_done (by kernel_rfl) ?_ _
            obtain ⟨wA, ewA⟩ : ∃ X, X = Up1u1 := ⟨_, rfl⟩
            rw [← ewA] at hHeld HS ⊢
            clear ewA HS0
            replace Hnc : Hid (wA.cell? ⟨ng, i, none⟩ = some (.string m)) := (hHeld.cell (p := ⟨ng, i, none⟩) (cell_lt (p := ⟨ng, i, none⟩) Hnc.out)).trans Hnc.out
            clear hHeld
            go_upto_region 12 with fail
            have HS0 : Hid (OnS W2 (.slice (some ⟨ng, 0, none⟩) NL.length nc) NL (.slice ra R.length rc) (R) wA) := HS
            refine wp_region_held_drew (S := fun W' => Below wA.heap.size wA W') (by kernel_rfl) (Below.refl _ _).drew (fun hHeld => ?_)
            obtain ⟨Uq2u0, eW⟩ : ∃ X, X = wA.drew := ⟨_, rfl⟩
            have hb : Below wA.heap.size wA Uq2u0 := by rw [eW]; exact (Below.refl _ _).drew
            replace HS : Hid (OnS W2 (.slice (some ⟨ng, 0, none⟩) NL.length nc) NL (.slice ra R.length rc) (R) Uq2u0) := HS.out.below hb
            rw [← eW] at hHeld ⊢
            clear eW hb
            refine tkW 0 (some 73) (v := ?_) ?_ hHeld ?_
            rotate_left
            · (intro ww _; go_simp; try with_reducible rfl)
            refine tkW 1 (some 74) (v := ?_) ?_ hHeld ?_
            rotate_left
            · (intro ww hSw; (try dsimp only at hSw); have hr9 := ((hSw.block _ (Nat.lt_of_lt_of_le (row_lt HR2.out) HS0.out.bel.size)).trans (HS0.out.bel.block _ (row_lt HR2.out))).trans HR2.out; obtain ⟨y0, y1, y2, y3, y4, y5⟩ := row6d hr9; go_simp; try with_reducible rfl)
            refine tkW 2 (some 75) (v := ?_) ?_ hHeld ?_
            rotate_left
            · (intro ww _; go_simp; try with_reducible rfl)
            refine tkW 3 (some 76) (v := ?_) ?_ hHeld ?_
            rotate_left
            · (intro ww _; go_simp; try with_reducible rfl)
            refine tkW 4 (some 77) (v := ?_) ?_ hHeld ?_
            rotate_left
            · (intro ww hSw; (try dsimp only at hSw); go_simp; try with_reducible rfl)
            refine tkW 5 (some 78) (v := ?_) ?_ hHeld ?_
            rotate_left
            · (intro ww hSw; (try dsimp only at hSw); have q6 : ww.cell? ⟨ng, i, none⟩ = some (.string m) := (hSw.cell (p := ⟨ng, i, none⟩) (cell_lt (p := ⟨ng, i, none⟩) Hnc.out)).trans Hnc.out; go_simp; try with_reducible rfl)
            refine wpAnyH_ready (rs := [6]) (by kernel_rfl) (by simp) ?_
            refine AllReadyH.cons (o := ⟨some 79, _, _, _, _, _⟩) rfl (fun K hK => ?_) AllReadyH.nil
            go_simp
            refine (attr_any _ b.at_ m _ _ (HBa.out.below HS.out.bel)).mono ?_
            rintro e Uq2u1 ⟨rfl, hb⟩
            rw [Hy9.out]
            have hkp := hHeld.trans (hb.mono hHeld.size)
            replace HS := hide9 (HS.out.below hb)
            clear hb
            (try go_wp2_with fail)
            refine hK.out _ _ (hkp) (fun hHeld2 => ?_)
            clear hK K hHeld
            have hHeld := hHeld2
            clear hHeld2
            (try simp only [Act.put, List.setIfInBounds_toArray, List.set_cons_zero, List.set_cons_succ])
            clear hkp
            refine tkW 7 (some 72) (v := ?_) ?_ hHeld ?_
            rotate_left
            · (intro ww _; go_simp; try with_reducible rfl)
            refine tkW 8 (some 80) (v := ?_) ?_ hHeld ?_
            rotate_left
            · (intro ww _; go_simp; try with_reducible rfl)
            refine tkW 9 (some 81) (v := ?_) ?_ hHeld ?_
            rotate_left
            · (intro ww _; go_simp; try with_reducible rfl)
            refine tkW 10 (some 12) (v := ?_) ?_ hHeld ?_
            rotate_left
            · (intro ww _; go_simp; try with_reducible rfl)
            refine tkW 11 (some 13) (v := ?_) ?_ hHeld ?_
            rotate_left
            · (intro ww _; go_simp; try with_reducible rfl)
            refine wpAnyH_done (by kernel_rfl) ?_ _
            obtain ⟨wB, ewB⟩ : ∃ X, X = Uq2u1 := ⟨_, rfl⟩
            rw [← ewB] at hHeld HS ⊢
            clear ewB HS0
            replace Hnc : Hid (wB.cell? ⟨ng, i, none⟩ = some (.string m)) := (hHeld.cell (p := ⟨ng, i, none⟩) (cell_lt (p := ⟨ng, i, none⟩) Hnc.out)).trans Hnc.out
            clear hHeld
            cases y9 with
            | none =>
              go_upto_region 14 with fail
              have HS0 : Hid (OnS W2 (.slice (some ⟨ng, 0, none⟩) NL.length nc) NL (.slice ra R.length rc) (R) wB) := HS
              refine wp_region_held_drew (S := fun W' => KeepsS (fun k => k < W2.heap.size ∨ some k = (Value.slice (some ⟨ng, 0, none⟩) NL.length nc).ownBlock) wB W') (by kernel_rfl) (HS.out.kb (Below.refl _ _).drew) (fun hHeld => ?_)
              obtain ⟨Ur3u0, eW⟩ : ∃ X, X = wB.drew := ⟨_, rfl⟩
              have hb : Below wB.heap.size wB Ur3u0 := by rw [eW]; exact (Below.refl _ _).drew
              replace HS : Hid (OnS W2 (.slice (some ⟨ng, 0, none⟩) NL.length nc) NL (.slice ra R.length rc) (R) Ur3u0) := HS.out.below hb
              rw [← eW] at hHeld ⊢
              clear eW hb
              refine tkW 0 (some 84) (v := ?_) ?_ hHeld ?_
              rotate_left
              · (intro ww _; go_simp; try with_reducible rfl)
              refine tkW 1 (some 85) (v := ?_) ?_ hHeld ?_
              rotate_left
              · (intro ww _; go_simp; try with_reducible rfl)
              refine tkW 2 (some 86) (v := ?_) ?_ hHeld ?_
              rotate_left
              · (intro ww hSw; (try dsimp only at hSw); have hr9 := ((hSw.2 _ (.inl (row_lt HR2.out))).trans (HS0.out.bel.block _ (row_lt HR2.out))).trans HR2.out; obtain ⟨y0, y1, y2, y3, y4, y5⟩ := row6d hr9; go_simp; try with_reducible rfl)
              refine tkW 3 (some 87) (v := ?_) ?_ hHeld ?_
              rotate_left
              · (intro ww _; go_simp; try with_reducible rfl)
              refine tkW 4 (some 88) (v := ?_) ?_ hHeld ?_
              rotate_left
              · (intro ww _; go_simp; try with_reducible rfl)
              refine tkW 5 (some 89) (v := ?_) ?_ hHeld ?_
              rotate_left
              · (intro ww hSw; (try dsimp only at hSw); go_simp; try with_reducible rfl)
              refine tkW 6 (some 90) (v := ?_) ?_ hHeld ?_
              rotate_left
              · (intro ww hSw; (try dsimp only at hSw); have q6 : ww.cell? ⟨ng, i, none⟩ = some (.string m) := (hSw.cell (p := ⟨ng, i, none⟩) (.inr rfl)).trans Hnc.out; go_simp; try with_reducible rfl)
              refine tkW 7 (some 91) (v := ?_) ?_ hHeld ?_
              rotate_left
              · (intro ww hSw; (try dsimp only at hSw); go_simp; try with_reducible rfl)
              refine wpAnyH_ready (rs := [8]) (by kernel_rfl) (by simp) ?_
              refine AllReadyH.cons (o := ⟨some 92, _, _, _, _, _⟩) rfl (fun K hK => ?_) AllReadyH.nil
              have hbx : Below Ur3u0.heap.size Ur3u0 (Ur3u0.alloc (.cells #[.int .i64 9, .int .i64 b.k.1, .int .i64 b.k.2, .int .i64 0, .int .i64 0, .int .i64 0, .int .i64 0, .string m, .string ⟨#[]⟩] 45)) := (Below.refl _ _).alloc (Nat.le_refl _) _
              go_simp
              refine hK.out _ _ (hHeld.trans (HS.out.kb hbx)) (fun hHeld2 => ?_)
              clear hK K hHeld
              have hHeld := hHeld2
              clear hHeld2
              (try simp only [Act.put, List.setIfInBounds_toArray, List.set_cons_zero, List.set_cons_succ])
              obtain ⟨Ur3u1, eW⟩ : ∃ X, X = Ur3u0.alloc (.cells #[.int .i64 9, .int .i64 b.k.1, .int .i64 b.k.2, .int .i64 0, .int .i64 0, .int .i64 0, .int .i64 0, .string m, .string ⟨#[]⟩] 45) := ⟨_, rfl⟩
              have hb : Below Ur3u0.heap.size Ur3u0 Ur3u1 := by rw [eW]; exact (Below.refl _ _).alloc (Nat.le_refl _) _
              replace HS : Hid (OnS W2 (.slice (some ⟨ng, 0, none⟩) NL.length nc) NL (.slice ra R.length rc) (R) Ur3u1) := HS.out.below hb
              clear hbx
              have HVb : Hid (Ur3u1.heap[Ur3u0.heap.size]? = some (.cells (paCells (⟨9, b.k, (0, 0), (0, 0), m, ⟨#[]⟩⟩)).toArray 45)) := by rw [eW]; exact heap_alloc_new _ _
              rw [← eW] at hHeld ⊢
              clear eW
              obtain ⟨qb, eqb⟩ : ∃ b, b = Ur3u0.heap.size := ⟨_, rfl⟩
              rw [← eqb] at HVb ⊢
              clear eqb
              clear hb
              refine wpAnyH_ready (rs := [9]) (by kernel_rfl) (by simp) ?_
              refine AllReadyH.cons (o := ⟨some 93, _, _, _, _, _⟩) rfl (fun K hK => ?_) AllReadyH.nil
              refine step_app1 rfl _ _ (by rfl) W2.heap.size _ R (by rfl) HS.out.ow qb (⟨9, b.k, (0, 0), (0, 0), m, ⟨#[]⟩⟩) (by rfl) HVb.out (Nat.le_trans HRl.out (by decide)) HS.out.bel.size ?_
              intro g3 c3 Ur3u2 ho3 hg3
              have hkp := hHeld.trans (HS.out.kp hg3)
              have HS2 := hide9 (HS.out.push hg3 ho3)
              clear ho3 hg3
              refine hK.out _ _ (hkp) (fun hHeld2 => ?_)
              clear hK K hHeld
              have hHeld := hHeld2
              clear hHeld2
              (try simp only [Act.put, List.setIfInBounds_toArray, List.set_cons_zero, List.set_cons_succ])
              clear hkp HS HVb
              refine tkW 10 (some 7) (v := ?_) ?_ hHeld ?_
              rotate_left
              · (intro ww _; go_simp; try with_reducible rfl)
              refine wpAnyH_done (by kernel_rfl) ?_ _
              have HS := HS2
              clear HS2
              clear hHeld HS0 Hnc
              go_wp2
              go_roundw
              case rel => exact ⟨i + 1, _, by go_num, by omega, HS, hide9 (by rw [Htk.out]; unfold stA; rw [Hy9.out])⟩
              case measure => simp [intOf]; omega
            | some y9 =>
              cases o9 with
              | none =>
                go_upto_region 16 with fail
                have HS0 : Hid (OnS W2 (.slice (some ⟨ng, 0, none⟩) NL.length nc) NL (.slice ra R.length rc) (R) wB) := HS
                refine wp_region_held_drew (S := fun W' => KeepsS (fun k => k < W2.heap.size ∨ some k = (Value.slice (some ⟨ng, 0, none⟩) NL.length nc).ownBlock) wB W') (by kernel_rfl) (HS.out.kb (Below.refl _ _).drew) (fun hHeld => ?_)
                obtain ⟨Us4u0, eW⟩ : ∃ X, X = wB.drew := ⟨_, rfl⟩
                have hb : Below wB.heap.size wB Us4u0 := by rw [eW]; exact (Below.refl _ _).drew
                replace HS : Hid (OnS W2 (.slice (some ⟨ng, 0, none⟩) NL.length nc) NL (.slice ra R.length rc) (R) Us4u0) := HS.out.below hb
                rw [← eW] at hHeld ⊢
                clear eW hb
                refine tkW 0 (some 101) (v := ?_) ?_ hHeld ?_
                rotate_left
                · (intro ww _; go_simp; try with_reducible rfl)
                refine tkW 1 (some 102) (v := ?_) ?_ hHeld ?_
                rotate_left
                · (intro ww _; go_simp; try with_reducible rfl)
                refine tkW 2 (some 103) (v := ?_) ?_ hHeld ?_
                rotate_left
                · (intro ww hSw; (try dsimp only at hSw); have hr9 := ((hSw.2 _ (.inl (row_lt HR2.out))).trans (HS0.out.bel.block _ (row_lt HR2.out))).trans HR2.out; obtain ⟨y0, y1, y2, y3, y4, y5⟩ := row6d hr9; go_simp; try with_reducible rfl)
                refine tkW 3 (some 104) (v := ?_) ?_ hHeld ?_
                rotate_left
                · (intro ww _; go_simp; try with_reducible rfl)
                refine tkW 4 (some 105) (v := ?_) ?_ hHeld ?_
                rotate_left
                · (intro ww _; go_simp; try with_reducible rfl)
                refine tkW 5 (some 106) (v := ?_) ?_ hHeld ?_
                rotate_left
                · (intro ww hSw; (try dsimp only at hSw); go_simp; try with_reducible rfl)
                refine tkW 6 (some 107) (v := ?_) ?_ hHeld ?_
                rotate_left
                · (intro ww hSw; (try dsimp only at hSw); have q6 : ww.cell? ⟨ng, i, none⟩ = some (.string m) := (hSw.cell (p := ⟨ng, i, none⟩) (.inr rfl)).trans Hnc.out; go_simp; try with_reducible rfl)
                refine tkW 7 (some 108) (v := ?_) ?_ hHeld ?_
                rotate_left
                · (intro ww _; go_simp; try with_reducible rfl)
                refine tkW 8 (some 109) (v := ?_) ?_ hHeld ?_
                rotate_left
                · (intro ww hSw; (try dsimp only at hSw); go_simp; try with_reducible rfl)
                refine wpAnyH_ready (rs := [9]) (by kernel_rfl) (by simp) ?_
                refine AllReadyH.cons (o := ⟨some 110, _, _, _, _, _⟩) rfl (fun K hK => ?_) AllReadyH.nil
                have hbx : Below Us4u0.heap.size Us4u0 (Us4u0.alloc (.cells #[.int .i64 8, .int .i64 b.k.1, .int .i64 b.k.2, .int .i64 0, .int .i64 0, .int .i64 0, .int .i64 0, .string m, .string y9] 45)) := (Below.refl _ _).alloc (Nat.le_refl _) _
                go_simp
                refine hK.out _ _ (hHeld.trans (HS.out.kb hbx)) (fun hHeld2 => ?_)
                clear hK K hHeld
                have hHeld := hHeld2
                clear hHeld2
                (try simp only [Act.put, List.setIfInBounds_toArray, List.set_cons_zero, List.set_cons_succ])
                obtain ⟨Us4u1, eW⟩ : ∃ X, X = Us4u0.alloc (.cells #[.int .i64 8, .int .i64 b.k.1, .int .i64 b.k.2, .int .i64 0, .int .i64 0, .int .i64 0, .int .i64 0, .string m, .string y9] 45) := ⟨_, rfl⟩
                have hb : Below Us4u0.heap.size Us4u0 Us4u1 := by rw [eW]; exact (Below.refl _ _).alloc (Nat.le_refl _) _
                replace HS : Hid (OnS W2 (.slice (some ⟨ng, 0, none⟩) NL.length nc) NL (.slice ra R.length rc) (R) Us4u1) := HS.out.below hb
                clear hbx
                have HVb : Hid (Us4u1.heap[Us4u0.heap.size]? = some (.cells (paCells (⟨8, b.k, (0, 0), (0, 0), m, y9⟩)).toArray 45)) := by rw [eW]; exact heap_alloc_new _ _
                rw [← eW] at hHeld ⊢
                clear eW
                obtain ⟨qb, eqb⟩ : ∃ b, b = Us4u0.heap.size := ⟨_, rfl⟩
                rw [← eqb] at HVb ⊢
                clear eqb
                clear hb
                refine wpAnyH_ready (rs := [10]) (by kernel_rfl) (by simp) ?_
                refine AllReadyH.cons (o := ⟨some 111, _, _, _, _, _⟩) rfl (fun K hK => ?_) AllReadyH.nil
                refine step_app1 rfl _ _ (by rfl) W2.heap.size _ R (by rfl) HS.out.ow qb (⟨8, b.k, (0, 0), (0, 0), m, y9⟩) (by rfl) HVb.out (Nat.le_trans HRl.out (by decide)) HS.out.bel.size ?_
                intro g3 c3 Us4u2 ho3 hg3
                have hkp := hHeld.trans (HS.out.kp hg3)
                have HS2 := hide9 (HS.out.push hg3 ho3)
                clear ho3 hg3
                refine hK.out _ _ (hkp) (fun hHeld2 => ?_)
                clear hK K hHeld
                have hHeld := hHeld2
                clear hHeld2
                (try simp only [Act.put, List.setIfInBounds_toArray, List.set_cons_zero, List.set_cons_succ])
                clear hkp HS HVb
                refine tkW 11 (some 7) (v := ?_) ?_ hHeld ?_
                rotate_left
                · (intro ww _; go_simp; try with_reducible rfl)
                refine wpAnyH_done (by kernel_rfl) ?_ _
                have HS := HS2
                clear HS2
                clear hHeld HS0 Hnc
                go_wp2
                go_roundw
                case rel => exact ⟨i + 1, _, by go_num, by omega, HS, hide9 (by rw [Htk.out]; unfold stA; rw [Hy9.out, Ho9.out])⟩
                case measure => simp [intOf]; omega
              | some x9 =>
                by_cases he : x9 = y9
                · have hqe : (x9.toList == y9.toList) = true := (by rw [txt_eq]; exact decide_eq_true he)
                  have Heq := hide9 he
                  clear he Hnc
                  go_wp2
                  go_roundw
                  case rel => exact ⟨i + 1, _, by go_num, by omega, HS, hide9 (by rw [Htk.out]; unfold stA; rw [Hy9.out, Ho9.out]; simp only [if_pos Heq.out, List.append_nil])⟩
                  case measure => simp [intOf]; omega
                · have hqe : (x9.toList == y9.toList) = false := (by rw [txt_eq]; exact decide_eq_false he)
                  have Heq : Hid (¬ x9 = y9) := he
                  clear he
                  go_upto_region 16 with fail
                  have HS0 : Hid (OnS W2 (.slice (some ⟨ng, 0, none⟩) NL.length nc) NL (.slice ra R.length rc) (R) wB) := HS
                  refine wp_region_held_drew (S := fun W' => KeepsS (fun k => k < W2.heap.size ∨ some k = (Value.slice (some ⟨ng, 0, none⟩) NL.length nc).ownBlock) wB W') (by kernel_rfl) (HS.out.kb (Below.refl _ _).drew) (fun hHeld => ?_)
                  obtain ⟨Ut5u0, eW⟩ : ∃ X, X = wB.drew := ⟨_, rfl⟩
                  have hb : Below wB.heap.size wB Ut5u0 := by rw [eW]; exact (Below.refl _ _).drew
                  replace HS : Hid (OnS W2 (.slice (some ⟨ng, 0, none⟩) NL.length nc) NL (.slice ra R.length rc) (R) Ut5u0) := HS.out.below hb
                  rw [← eW] at hHeld ⊢
                  clear eW hb
                  refine tkW 0 (some 101) (v := ?_) ?_ hHeld ?_
                  rotate_left
                  · (intro ww _; go_simp; try with_reducible rfl)
                  refine tkW 1 (some 102) (v := ?_) ?_ hHeld ?_
                  rotate_left
                  · (intro ww _; go_simp; try with_reducible rfl)
                  refine tkW 2 (some 103) (v := ?_) ?_ hHeld ?_
                  rotate_left
                  · (intro ww hSw; (try dsimp only at hSw); have hr9 := ((hSw.2 _ (.inl (row_lt HR2.out))).trans (HS0.out.bel.block _ (row_lt HR2.out))).trans HR2.out; obtain ⟨y0, y1, y2, y3, y4, y5⟩ := row6d hr9; go_simp; try with_reducible rfl)
                  refine tkW 3 (some 104) (v := ?_) ?_ hHeld ?_
                  rotate_left
                  · (intro ww _; go_simp; try with_reducible rfl)
                  refine tkW 4 (some 105) (v := ?_) ?_ hHeld ?_
                  rotate_left
                  · (intro ww _; go_simp; try with_reducible rfl)
                  refine tkW 5 (some 106) (v := ?_) ?_ hHeld ?_
                  rotate_left
                  · (intro ww hSw; (try dsimp only at hSw); go_simp; try with_reducible rfl)
                  refine tkW 6 (some 107) (v := ?_) ?_ hHeld ?_
                  rotate_left
                  · (intro ww hSw; (try dsimp only at hSw); have q6 : ww.cell? ⟨ng, i, none⟩ = some (.string m) := (hSw.cell (p := ⟨ng, i, none⟩) (.inr rfl)).trans Hnc.out; go_simp; try with_reducible rfl)
                  refine tkW 7 (some 108) (v := ?_) ?_ hHeld ?_
                  rotate_left
                  · (intro ww _; go_simp; try with_reducible rfl)
                  refine tkW 8 (some 109) (v := ?_) ?_ hHeld ?_
                  rotate_left
                  · (intro ww hSw; (try dsimp only at hSw); go_simp; try with_reducible rfl)
                  refine wpAnyH_ready (rs := [9]) (by kernel_rfl) (by simp) ?_
                  refine AllReadyH.cons (o := ⟨some 110, _, _, _, _, _⟩) rfl (fun K hK => ?_) AllReadyH.nil
                  have hbx : Below Ut5u0.heap.size Ut5u0 (Ut5u0.alloc (.cells #[.int .i64 8, .int .i64 b.k.1, .int .i64 b.k.2, .int .i64 0, .int .i64 0, .int .i64 0, .int .i64 0, .string m, .string y9] 45)) := (Below.refl _ _).alloc (Nat.le_refl _) _
                  go_simp
                  refine hK.out _ _ (hHeld.trans (HS.out.kb hbx)) (fun hHeld2 => ?_)
                  clear hK K hHeld
                  have hHeld := hHeld2
                  clear hHeld2
                  (try simp only [Act.put, List.setIfInBounds_toArray, List.set_cons_zero, List.set_cons_succ])
                  obtain ⟨Ut5u1, eW⟩ : ∃ X, X = Ut5u0.alloc (.cells #[.int .i64 8, .int .i64 b.k.1, .int .i64 b.k.2, .int .i64 0, .int .i64 0, .int .i64 0, .int .i64 0, .string m, .string y9] 45) := ⟨_, rfl⟩
                  have hb : Below Ut5u0.heap.size Ut5u0 Ut5u1 := by rw [eW]; exact (Below.refl _ _).alloc (Nat.le_refl _) _
                  replace HS : Hid (OnS W2 (.slice (some ⟨ng, 0, none⟩) NL.length nc) NL (.slice ra R.length rc) (R) Ut5u1) := HS.out.below hb
                  clear hbx
                  have HVb : Hid (Ut5u1.heap[Ut5u0.heap.size]? = some (.cells (paCells (⟨8, b.k, (0, 0), (0, 0), m, y9⟩)).toArray 45)) := by rw [eW]; exact heap_alloc_new _ _
                  rw [← eW] at hHeld ⊢
                  clear eW
                  obtain ⟨qb, eqb⟩ : ∃ b, b = Ut5u0.heap.size := ⟨_, rfl⟩
                  rw [← eqb] at HVb ⊢
                  clear eqb
                  clear hb
                  refine wpAnyH_ready (rs := [10]) (by kernel_rfl) (by simp) ?_
                  refine AllReadyH.cons (o := ⟨some 111, _, _, _, _, _⟩) rfl (fun K hK => ?_) AllReadyH.nil
                  refine step_app1 rfl _ _ (by rfl) W2.heap.size _ R (by rfl) HS.out.ow qb (⟨8, b.k, (0, 0), (0, 0), m, y9⟩) (by rfl) HVb.out (Nat.le_trans HRl.out (by decide)) HS.out.bel.size ?_
                  intro g3 c3 Ut5u2 ho3 hg3
                  have hkp := hHeld.trans (HS.out.kp hg3)
                  have HS2 := hide9 (HS.out.push hg3 ho3)
                  clear ho3 hg3
                  refine hK.out _ _ (hkp) (fun hHeld2 => ?_)
                  clear hK K hHeld
                  have hHeld := hHeld2
                  clear hHeld2
                  (try simp only [Act.put, List.setIfInBounds_toArray, List.set_cons_zero, List.set_cons_succ])
                  clear hkp HS HVb
                  refine tkW 11 (some 7) (v := ?_) ?_ hHeld ?_
                  rotate_left
                  · (intro ww _; go_simp; try with_reducible rfl)
                  refine wpAnyH_done (by kernel_rfl) ?_ _
                  have HS := HS2
                  clear HS2
                  clear hHeld HS0 Hnc
                  go_wp2
                  go_roundw
                  case rel => exact ⟨i + 1, _, by go_num, by omega, HS, hide9 (by rw [Htk.out]; unfold stA; rw [Hy9.out, Ho9.out]; simp only [if_neg Heq.out])⟩
                  case measure => simp [intOf]; omega
          · have k1 : ¬ (i : Int) < (NL.length : Int) := by omega
            go_wp2
            (try rw [Exit.noGoto_ret])
            go_ret
            exact ⟨_, rfl, OwnE.low (by rw [Hold.out, Hwx.out]; unfold ownD; rw [Htb.out, show (if x.tx ≠ b.tx then [pTx b.k b.tx] else []) = (if uq = true then [] else [pTx b.k b.tx]) by rw [← Huq.out]; by_cases h : x.tx = b.tx <;> simp [h], ← HRe2.out, ← HNe.out]; have h9 := HRe.out; rw [List.take_of_length_le (by omega)] at h9; rw [← h9]; exact HS.out.ow) HL.out.size, HL.out.trans (HS.out.bel.mono HL.out.size)⟩
end Go.Proofs.Ythhnglpkfcmjiaa

namespace Go.Proofs.Ythhnglpkfcmjiaa
open Go.RowKit Go.Shelf
set_option linter.unusedVariables false
set_option linter.unusedSimpArgs false
attribute [local go_sem] Oper.semAt_some
/-- The row of steps, the row of those that are shifted, the last key in its box. -/
structure KdS (W0 : World) (mv : Value) (M : List St) (fb : Nat) (v : Value) (R : List Pa) (s : St) (W : World) : Prop where
  ow : OwnPa W0.heap.size W v R
  mo : OwnSt W0.heap.size W mv M
  af : W.heap[fb]? = some (.cells #[.int .i64 s.1, .int .i64 s.2] 23)
  ne : ∀ k, mv.ownBlock = some k → k ≠ fb
  lo : W0.heap.size ≤ fb
  bel : Below W0.heap.size W0 W
section
variable {W0 W W' : World} {mv v v' : Value} {M : List St} {fb : Nat} {R R' : List Pa} {s s' : St}
theorem KdS.below (h : KdS W0 mv M fb v R s W) (hb : Below W.heap.size W W') : KdS W0 mv M fb v R s W' := ⟨OwnE.below h.ow hb, OwnE.below h.mo hb, (hb.block _ (row_lt h.af)).trans h.af, h.ne, h.lo, h.bel.trans (hb.mono h.bel.size)⟩
/-- A block of another type is no row of steps. -/
theorem KdS.keep (h : KdS W0 mv M fb v R s W) (hg : W.grownBy W' v.ownBlock) {k : Nat} {c : Array Value} {T : TypeId} (hk : W.heap[k]? = some (.cells c T)) (hT : T ≠ 45) : W'.heap[k]? = W.heap[k]? := hg.block k (row_lt hk) fun e => own_ne h.ow hk hT e.symm
theorem KdS.push (h : KdS W0 mv M fb v R s W) (hg : W.grownBy W' v.ownBlock) (ho : OwnPa W0.heap.size W' v' R') : KdS W0 mv M fb v' R' s W' := ⟨ho, OwnE.keep h.mo fun k e => by
  obtain ⟨c, hc⟩ := own_cellsE h.mo e
  exact h.keep hg hc (by decide), (h.keep hg h.af (by decide)).trans h.af, h.ne, h.lo, h.bel.grown hg h.bel.size (fun k e => (OwnE.lt h.ow k e).1)⟩
theorem KdS.set (h : KdS W0 mv M fb v R s W) (u : St) : KdS W0 mv M fb v R u (W.setRow fb #[.int .i64 u.1, .int .i64 u.2]) := by
  have ho : ∀ k, k ≠ fb → (W.setRow fb #[.int .i64 u.1, .int .i64 u.2]).heap[k]? = W.heap[k]? := fun k q => setRow_other W fb k _ q
  refine ⟨OwnE.keep h.ow fun k e => ho k fun e2 => ?_, OwnE.keep h.mo fun k e => ho k (h.ne k e), setRow_same h.af, h.ne, h.lo, h.bel.grown (grown_setRow _ _ _) h.bel.size (fun k e => by cases e; exact h.lo)⟩
  subst e2
  exact own_ne h.ow h.af (by decide) e
end
theorem kdL_take (a b : VT) (M : List St) (p : St) : ∀ (l : List VT) (i : Nat) (s : St), (kdL a b M p s (l.take i)).length ≤ (kdL a b M p s l).length
  | [], i, s => by simp [kdL]
  | x :: r, 0, s => by simp [kdL]
  | x :: r, i + 1, s => by
    rw [List.take_succ_cons, kdL, kdL, List.length_append, List.length_append]
    have := kdL_take a b M p r i x.k
    omega
theorem fil_take {M : List St} {k s : St} {j : Nat} (h : j < M.length) : ((M.take (j + 1)).filter fun m => decide (m = k)).map (fun _ => pH k s) = ((M.take j).filter fun m => decide (m = k)).map (fun _ => pH k s) ++ if M[j] = k then [pH k s] else [] := by
  rw [List.take_succ_eq_append_getElem h, List.filter_append, List.map_append]
  by_cases e : M[j] = k
  · simp [e]
  · simp [e]
theorem fil_len (M : List St) (k s : St) (j : Nat) : (((M.take j).filter fun m => decide (m = k)).map (fun _ => pH k s)).length ≤ ((M.filter fun m => decide (m = k)).map (fun _ => pH k s)).length := by
  rw [List.length_map, List.length_map]
  exact List.Sublist.length_le (List.Sublist.filter _ (List.take_sublist j M))
set_option maxRecDepth 100000 in
set_option maxHeartbeats 8000000 in
theorem kidsD_any (G G2 G3 : Nat → Prop) (a b n : VT) (va vb vn : Value) (w : World) (ha : VIs G w va a) (hb : VIs G2 w vb b) (hn : VIs G3 w vn n) (hsa : a.sz ≤ 1048576) (hsb : b.sz ≤ 1048576) (hsn : n.sz ≤ 1048576) (hpl : (plD a b (wasT a n.k) n.ks).length ≤ 1048576) (hlen : (plD a b (wasT a n.k) n.ks).length = (stK a b n.ks).length) (hkl : (kdL a b (shD a b n) n.k (0, 0) n.ks).length ≤ 1048576) :
    Calls Try.prog 39 #[va, vb, vn] w fun e w' => ∃ v, e = .returned v ∧ OwnPa w.heap.size w' v (kdL a b (shD a b n) n.k (0, 0) n.ks) ∧ Below w.heap.size w w' := by
  obtain ⟨na, cn, nk, dn, e3, fn⟩ := hn.form
  subst e3
  obtain ⟨aa, ca, ak, da, e1, _⟩ := ha.form
  obtain ⟨ba, cb, bk, db, e2, _⟩ := hb.form
  subst e1 e2
  obtain ⟨W0, eW⟩ : ∃ X, X = ((w.alloc (.cells #[.int .i64 a.k.1, .int .i64 a.k.2, .string a.tg, .string a.tx, .slice aa a.at_.length ca, .slice ak a.ks.length da] 27)).alloc (.cells #[.int .i64 b.k.1, .int .i64 b.k.2, .string b.tg, .string b.tx, .slice ba b.at_.length cb, .slice bk b.ks.length db] 27)).alloc (.cells #[.int .i64 n.k.1, .int .i64 n.k.2, .string n.tg, .string n.tx, .slice na n.at_.length cn, .slice nk n.ks.length dn] 27) := ⟨_, rfl⟩
  have hb0 : Below w.heap.size w W0 := (by rw [eW]; exact (((Below.refl _ _).alloc (Nat.le_refl _) _).alloc (by simp) _).alloc (by simp; omega) _)
  have HR1 : Hid (W0.heap[w.heap.size]? = some (.cells #[.int .i64 a.k.1, .int .i64 a.k.2, .string a.tg, .string a.tx, .slice aa a.at_.length ca, .slice ak a.ks.length da] 27)) := (by show _ = _; rw [eW, Below.heap_alloc _ _ _ (by simp; omega), Below.heap_alloc _ _ _ (by simp)]; exact heap_alloc_new _ _)
  have HR2 : Hid (W0.heap[w.heap.size + 1]? = some (.cells #[.int .i64 b.k.1, .int .i64 b.k.2, .string b.tg, .string b.tx, .slice ba b.at_.length cb, .slice bk b.ks.length db] 27)) := (by show _ = _; rw [eW, Below.heap_alloc _ _ _ (by simp)]; have h9 := heap_alloc_new (w.alloc (.cells #[.int .i64 a.k.1, .int .i64 a.k.2, .string a.tg, .string a.tx, .slice aa a.at_.length ca, .slice ak a.ks.length da] 27)) (.cells #[.int .i64 b.k.1, .int .i64 b.k.2, .string b.tg, .string b.tx, .slice ba b.at_.length cb, .slice bk b.ks.length db] 27); rw [show (w.alloc (.cells #[.int .i64 a.k.1, .int .i64 a.k.2, .string a.tg, .string a.tx, .slice aa a.at_.length ca, .slice ak a.ks.length da] 27)).heap.size = w.heap.size + 1 by simp] at h9; exact h9)
  have HR3 : Hid (W0.heap[w.heap.size + 2]? = some (.cells #[.int .i64 n.k.1, .int .i64 n.k.2, .string n.tg, .string n.tx, .slice na n.at_.length cn, .slice nk n.ks.length dn] 27)) := (by show _ = _; rw [eW]; have h9 := heap_alloc_new ((w.alloc (.cells #[.int .i64 a.k.1, .int .i64 a.k.2, .string a.tg, .string a.tx, .slice aa a.at_.length ca, .slice ak a.ks.length da] 27)).alloc (.cells #[.int .i64 b.k.1, .int .i64 b.k.2, .string b.tg, .string b.tx, .slice ba b.at_.length cb, .slice bk b.ks.length db] 27)) (.cells #[.int .i64 n.k.1, .int .i64 n.k.2, .string n.tg, .string n.tx, .slice na n.at_.length cn, .slice nk n.ks.length dn] 27); rw [show ((w.alloc (.cells #[.int .i64 a.k.1, .int .i64 a.k.2, .string a.tg, .string a.tx, .slice aa a.at_.length ca, .slice ak a.ks.length da] 27)).alloc (.cells #[.int .i64 b.k.1, .int .i64 b.k.2, .string b.tg, .string b.tx, .slice ba b.at_.length cb, .slice bk b.ks.length db] 27)).heap.size = w.heap.size + 2 by simp] at h9; exact h9)
  have Hnk : Hid (KsIs G3 W0 (.slice nk n.ks.length dn) n.ks) := fn.ks.below hb0
  have HN : Hid (VIs G3 W0 (.agg #[.int .i64 n.k.1, .int .i64 n.k.2, .string n.tg, .string n.tx, .slice na n.at_.length cn, .slice nk n.ks.length dn]) n) := hn.below hb0
  have HA : Hid (VIs G W0 (.agg #[.int .i64 a.k.1, .int .i64 a.k.2, .string a.tg, .string a.tx, .slice aa a.at_.length ca, .slice ak a.ks.length da]) a) := ha.below hb0
  have HB : Hid (VIs G2 W0 (.agg #[.int .i64 b.k.1, .int .i64 b.k.2, .string b.tg, .string b.tx, .slice ba b.at_.length cb, .slice bk b.ks.length db]) b) := hb.below hb0
  have HE := hide9 eW
  have HL := hide9 hb0
  clear eW hb0 ha hb hn fn
  go_enter Try.func39, Try.ntmps39
  go_upto_region 1 with fail
  rw [← HE.out]
  clear HE
  obtain ⟨W1, eW1⟩ : ∃ X, X = W0.alloc (.cells #[] 45) := ⟨_, rfl⟩
  have hb1 : Below W0.heap.size W0 W1 := (by rw [eW1]; exact (Below.refl _ _).alloc (Nat.le_refl _) _)
  have hs : OwnPa W0.heap.size W1 (.slice (some ⟨W0.heap.size, 0, none⟩) 0 0) [] := (by rw [eW1]; exact World.ownsRow_made W0 #[] 0 (Nat.le_refl _) (by unfold maxLen; omega) (by simp))
  have Hs := hide9 hs
  have HE := hide9 eW1
  have HB1 := hide9 hb1
  clear eW1 hb1 hs
  have hr1 := (HB1.out.block _ (row_lt HR1.out)).trans HR1.out
  have hr2 := (HB1.out.block _ (row_lt HR2.out)).trans HR2.out
  have hr3 := (HB1.out.block _ (row_lt HR3.out)).trans HR3.out
  obtain ⟨y0, y1, y2, y3, y4, y5⟩ := row6d hr1
  obtain ⟨z0, z1, z2, z3, z4, z5⟩ := row6d hr2
  obtain ⟨x0, x1, x2, x3, x4, x5⟩ := row6d hr3
  clear hr1 hr2 hr3
  go_upto_region 2 with fail
  rw [← HE.out]
  clear HE
  go_wp2_with fail
  clear y0 y1 y2 y3 y4 y5
  clear z0 z1 z2 z3 z4 z5
  clear x0 x1 x2 x3 x4 x5
  refine (refShifted_any G G2 G3 a b n _ _ _ _ (HA.out.below HB1.out) (HB.out.below HB1.out) (HN.out.below HB1.out) hsa hsb hsn hpl hlen).mono ?_
  rintro e w2 ⟨mv, rfl, hm, hb2⟩
  obtain ⟨M, eM⟩ : ∃ M, M = shD a b n := ⟨_, rfl⟩
  rw [← eM] at hm hkl
  have HMe := hide9 eM
  obtain ⟨ma, mc, em⟩ := OwnE.form hm
  subst em
  have Hz : Hid ((w2.alloc (.cells #[.int .i64 0, .int .i64 0] 23)).heap[w2.heap.size]? = some (.cells #[.int .i64 0, .int .i64 0] 23)) := heap_alloc_new _ _
  obtain ⟨W3, eW⟩ : ∃ X, X = (w2.alloc (.cells #[.int .i64 0, .int .i64 0] 23)).setRow w2.heap.size #[.int .i64 0, .int .i64 0] := ⟨_, rfl⟩
  have hb9 : Below w2.heap.size w2 W3 := (by rw [eW]; exact ((Below.refl _ _).alloc (Nat.le_refl _) _).grown (grown_setRow _ _ _) (by simp) (fun k e => by cases e; exact Nat.le_refl _))
  obtain ⟨fb, enb⟩ : ∃ b, b = w2.heap.size := ⟨_, rfl⟩
  have Hfb : Hid (W3.heap[fb]? = some (.cells #[.int .i64 0, .int .i64 0] 23)) := (by show _ = _; rw [eW, enb]; exact setRow_same Hz.out)
  have HE9 := hide9 (And.intro eW enb)
  clear eW enb
  have HS : Hid (KdS W0 (.slice ma M.length mc) M fb (.slice (some ⟨W0.heap.size, 0, none⟩) 0 0) ([]) (0, 0) W3) := ⟨OwnE.below (OwnE.below Hs.out hb2) hb9, OwnE.low (OwnE.below hm hb9) HB1.out.size, Hfb.out, fun k e => by have := (OwnE.lt hm k e).2; have := HE9.out.2; omega, by have := HE9.out.2; have := hb2.size; have := HB1.out.size; omega, HB1.out.trans ((hb2.trans (hb9.mono hb2.size)).mono HB1.out.size)⟩
  have HML : Hid (M.length ≤ 1048576) := (by show _ ≤ _; rw [eM]; unfold shD; rw [List.length_map]; exact Nat.le_trans (oth_len _ _ _) hpl)
  clear hb9 hb2 hm Hs HB1 HN eM hpl hlen Hfb
  go_wp2_with (refine wpList_store_row rfl 23 (.tmp 9) (.tmp 18) rfl w2.heap.size 23 #[.int .i64 0, .int .i64 0] #[.int .i64 0, .int .i64 0] rfl rfl Hz.out sizeStamp rfl (by simp [Value.oneCell']) ?_; refine StpD.to ?_)
  refine StpD.of ?_
  rw [← HE9.out.1, ← HE9.out.2]
  clear HE9 Hz
  have hml9 := HML.out
  have Hkl := hide9 hkl
  clear hkl
  have hnl9 : n.ks.length ≤ 1048576 := (by have h1 := szs_len n.ks; have h2 := n.sz_eq; omega)
  go_wp2
  go_loopw [7, 10] (fun v iv wr => ∃ (i : Nat) (R : List Pa), iv = .int .i64 (i : Int) ∧ i ≤ n.ks.length ∧ Hid (KdS W0 (.slice ma M.length mc) M fb v (R) (lstK (0, 0) (n.ks.take i)) wr) ∧ Hid (R = kdL a b M n.k (0, 0) (n.ks.take i))) (fun _ iv _ => n.ks.length - (intOf iv).toNat)
  case atStart => exact ⟨0, [], rfl, Nat.zero_le _, HS, rfl⟩
  case round =>
    clear HS
    obtain ⟨i, R, rfl, hi, HS, HRe⟩ := hrel
    obtain ⟨ra, rc, e1⟩ := OwnE.form HS.out.ow
    subst e1
    have HN3 : Hid (wr.heap[w.heap.size + 2]? = some (.cells #[.int .i64 n.k.1, .int .i64 n.k.2, .string n.tg, .string n.tx, .slice na n.at_.length cn, .slice nk n.ks.length dn] 27)) := (HS.out.bel.block _ (row_lt HR3.out)).trans HR3.out
    by_cases hlt : i < n.ks.length
    · obtain ⟨b1, o1, es, hg1, hl1, hv1⟩ := Hnk.out.kid hlt
      subst es
      obtain ⟨y, ey⟩ : ∃ y, y = n.ks[i] := ⟨_, rfl⟩
      rw [← ey] at hv1
      obtain ⟨_, _, _, _, p0, p1, p2, _⟩ := hv1.cells
      have Hkc : Hid (b1 < W0.heap.size ∧ W0.cell? ⟨b1, o1 + i * 6, none⟩ = some (.int .i64 y.k.1) ∧ W0.cell? ⟨b1, o1 + i * 6 + 1, none⟩ = some (.int .i64 y.k.2) ∧ W0.cell? ⟨b1, o1 + i * 6 + 2, none⟩ = some (.string y.tg)) := ⟨hl1, p0, p1, p2⟩
      obtain ⟨s, es9⟩ : ∃ s, s = lstK (0, 0) (n.ks.take i) := ⟨_, rfl⟩
      rw [← es9] at HS
      have Htk : Hid (kdL a b M n.k (0, 0) (n.ks.take (i + 1)) = R ++ kdK a b M n.k s y) := (by show _ = _; rw [List.take_succ_eq_append_getElem hlt, kdL_snoc, ← es9, ← ey, HRe.out])
      have Hlk : Hid (lstK (0, 0) (n.ks.take (i + 1)) = y.k) := (by show _ = _; rw [List.take_succ_eq_append_getElem hlt, lstK_snoc, ey])
      have HRl : Hid ((R ++ kdK a b M n.k s y).length ≤ 1048576) := (by show _ ≤ _; rw [← Htk.out]; exact Nat.le_trans (kdL_take a b M n.k n.ks (i + 1) (0, 0)) Hkl.out)
      clear p0 p1 p2 hv1 hg1 hl1 ey es9
      have k1 : (i : Int) < (n.ks.length : Int) := by omega
      have k0 : (0 : Int) ≤ (i : Int) := by omega
      have d0 := (HS.out.bel.cell (p := ⟨b1, o1 + i * 6, none⟩) Hkc.out.1).trans Hkc.out.2.1
      have d1 := (HS.out.bel.cell (p := ⟨b1, o1 + i * 6 + 1, none⟩) Hkc.out.1).trans Hkc.out.2.2.1
      obtain ⟨v0, v1, v2, v3, v4, v5⟩ := row6d HN3.out
      have HFl : Hid (fb < wr.heap.size) := row_lt HS.out.af
      have Hz : Hid ((wr.alloc (.cells #[.int .i64 0, .int .i64 0] 23)).heap[wr.heap.size]? = some (.cells #[.int .i64 0, .int .i64 0] 23)) := heap_alloc_new _ _
      obtain ⟨W1, eW⟩ : ∃ X, X = (wr.alloc (.cells #[.int .i64 0, .int .i64 0] 23)).setRow wr.heap.size #[.int .i64 y.k.1, .int .i64 y.k.2] := ⟨_, rfl⟩
      have hb9 : Below wr.heap.size wr W1 := (by rw [eW]; exact ((Below.refl _ _).alloc (Nat.le_refl _) _).grown (grown_setRow _ _ _) (by simp) (fun k e => by cases e; exact Nat.le_refl _))
      obtain ⟨kb, enb⟩ : ∃ b, b = wr.heap.size := ⟨_, rfl⟩
      have Hkb : Hid (W1.heap[kb]? = some (.cells #[.int .i64 y.k.1, .int .i64 y.k.2] 23)) := (by show _ = _; rw [eW, enb]; exact setRow_same Hz.out)
      have HE9 := hide9 (And.intro eW enb)
      clear eW enb
      replace HS := hide9 (HS.out.below hb9)
      have Hkf : Hid (kb ≠ fb) := (by have h1 := row_lt HS.out.af; have h2 := HE9.out.2; have h3 : fb < wr.heap.size := (by have h9 := hb9; exact HFl.out); show _ ≠ _; omega)
      clear hb9
      go_wp2_with (refine wpList_store_row rfl 23 (.tmp 11) (.tmp 31) rfl wr.heap.size 23 #[.int .i64 0, .int .i64 0] #[.int .i64 y.k.1, .int .i64 y.k.2] rfl rfl Hz.out sizeStamp rfl (by simp [Value.oneCell']) ?_; refine StpD.to ?_)
      refine StpD.of ?_
      rw [← HE9.out.1, ← HE9.out.2]
      clear HE9 Hz
      clear d0 d1 v0 v1 v2 v3 v4 v5 HN3
      have hra := (HS.out.bel.block _ (row_lt HR1.out)).trans HR1.out
      obtain ⟨y0, y1, y2, y3, y4, y5⟩ := row6d hra
      obtain ⟨z0, z1⟩ := row2d Hkb.out
      clear hra
      go_wp2_with fail
      clear y0 y1 y2 y3 y4 y5 z0 z1
      refine (in_any G a y.k _ _ (HA.out.below HS.out.bel) hsa).mono ?_
      rintro e w3 ⟨rfl, hb1⟩
      obtain ⟨ha9, eha⟩ : ∃ v : Bool, hasT a y.k = v := ⟨_, rfl⟩
      rw [eha]
      have Hha := hide9 eha
      replace HS := hide9 (HS.out.below hb1)
      replace Hkb := hide9 ((hb1.block _ (row_lt Hkb.out)).trans Hkb.out)
      clear hb1 eha
      go_upto_if 35 with fail
      go_cut [7] from 19 to 78 (fun v W => ∃ (Q : List Pa) (qa : Option Addr) (qc : Nat), v = .slice qa Q.length qc ∧ Hid (Q = R ++ if ha9 = true then [] else [pM y.k y.tg]) ∧ Hid (KdS W0 (.slice ma M.length mc) M fb (.slice qa Q.length qc) (Q) s W) ∧ Hid (W.heap[kb]? = some (.cells #[.int .i64 y.k.1, .int .i64 y.k.2] 23)))
      case first =>
        cases ha9 with
        | true =>
          go_wp2
          go_meet
          case rel => exact ⟨R, ra, rc, rfl, hide9 (by simp), HS, Hkb⟩
        | false =>
          go_upto_region 9 with fail
          have HS0 : Hid (KdS W0 (.slice ma M.length mc) M fb (.slice ra R.length rc) (R) s w3) := HS
          have HK0 := Hkb
          refine wp_region_held_drew (S := fun W' => KeepsS (fun k => k < W0.heap.size ∨ k = kb) w3 W') (by kernel_rfl) (KeepsS.of_below (Below.refl _ _).drew fun j q => by rcases q with q | rfl; exact Nat.lt_of_lt_of_le q HS.out.bel.size; exact row_lt Hkb.out) (fun hHeld => ?_)
          obtain ⟨Um1u0, eW⟩ : ∃ X, X = w3.drew := ⟨_, rfl⟩
          have hb : Below w3.heap.size w3 Um1u0 := by rw [eW]; exact (Below.refl _ _).drew
          replace HS : Hid (KdS W0 (.slice ma M.length mc) M fb (.slice ra R.length rc) (R) s Um1u0) := HS.out.below hb
          replace Hkb : Hid (Um1u0.heap[kb]? = some (.cells #[.int .i64 y.k.1, .int .i64 y.k.2] 23)) := (hb.block _ (row_lt Hkb.out)).trans Hkb.out
          rw [← eW] at hHeld ⊢
          clear eW hb
          refine tkW 0 (some 36) (v := ?_) ?_ hHeld ?_
          rotate_left
          · (intro ww _; go_simp; try with_reducible rfl)
          refine tkW 1 (some 37) (v := ?_) ?_ hHeld ?_
          rotate_left
          · (intro ww hSw; (try dsimp only at hSw); obtain ⟨z0, z1⟩ := row2d ((hSw.2 kb (.inr rfl)).trans HK0.out); go_simp; try with_reducible rfl)
          refine tkW 2 (some 38) (v := ?_) ?_ hHeld ?_
          rotate_left
          · (intro ww _; go_simp; try with_reducible rfl)
          refine tkW 3 (some 39) (v := ?_) ?_ hHeld ?_
          rotate_left
          · (intro ww hSw; (try dsimp only at hSw); have hr9 := ((hSw.2 _ (.inl (row_lt HR3.out))).trans (HS0.out.bel.block _ (row_lt HR3.out))).trans HR3.out; obtain ⟨y0, y1, y2, y3, y4, y5⟩ := row6d hr9; go_simp; try with_reducible rfl)
          refine tkW 4 (some 40) (v := ?_) ?_ hHeld ?_
          rotate_left
          · (intro ww _; go_simp; try with_reducible rfl)
          refine tkW 5 (some 41) (v := ?_) ?_ hHeld ?_
          rotate_left
          · (intro ww hSw; (try dsimp only at hSw); go_simp; try with_reducible rfl)
          refine tkW 6 (some 42) (v := ?_) ?_ hHeld ?_
          rotate_left
          · (intro ww _; go_simp; try with_reducible rfl)
          refine tkW 7 (some 43) (v := ?_) ?_ hHeld ?_
          rotate_left
          · (intro ww hSw; (try dsimp only at hSw); have q6 : ww.cell? ⟨b1, o1 + i * 6 + 2, none⟩ = some (.string y.tg) := ((hSw.cell (p := ⟨b1, o1 + i * 6 + 2, none⟩) (.inl Hkc.out.1)).trans (HS0.out.bel.cell (p := ⟨b1, o1 + i * 6 + 2, none⟩) Hkc.out.1)).trans Hkc.out.2.2.2; go_simp; try with_reducible rfl)
          refine tkW 8 (some 44) (v := ?_) ?_ hHeld ?_
          rotate_left
          · (intro ww hSw; (try dsimp only at hSw); go_simp; try with_reducible rfl)
          refine wpAnyH_ready (rs := [9]) (by kernel_rfl) (by simp) ?_
          refine AllReadyH.cons (o := ⟨some 45, _, _, _, _, _⟩) rfl (fun K hK => ?_) AllReadyH.nil
          have hbx : Below Um1u0.heap.size Um1u0 (Um1u0.alloc (.cells #[.int .i64 3, .int .i64 y.k.1, .int .i64 y.k.2, .int .i64 0, .int .i64 0, .int .i64 0, .int .i64 0, .string y.tg, .string ⟨#[]⟩] 45)) := (Below.refl _ _).alloc (Nat.le_refl _) _
          go_simp
          refine hK.out _ _ (hHeld.trans (KeepsS.of_below hbx fun j q => by rcases q with q | rfl; exact Nat.lt_of_lt_of_le q HS.out.bel.size; exact row_lt Hkb.out)) (fun hHeld2 => ?_)
          clear hK K hHeld
          have hHeld := hHeld2
          clear hHeld2
          (try simp only [Act.put, List.setIfInBounds_toArray, List.set_cons_zero, List.set_cons_succ])
          obtain ⟨Um1u1, eW⟩ : ∃ X, X = Um1u0.alloc (.cells #[.int .i64 3, .int .i64 y.k.1, .int .i64 y.k.2, .int .i64 0, .int .i64 0, .int .i64 0, .int .i64 0, .string y.tg, .string ⟨#[]⟩] 45) := ⟨_, rfl⟩
          have hb : Below Um1u0.heap.size Um1u0 Um1u1 := by rw [eW]; exact (Below.refl _ _).alloc (Nat.le_refl _) _
          replace HS : Hid (KdS W0 (.slice ma M.length mc) M fb (.slice ra R.length rc) (R) s Um1u1) := HS.out.below hb
          replace Hkb : Hid (Um1u1.heap[kb]? = some (.cells #[.int .i64 y.k.1, .int .i64 y.k.2] 23)) := (hb.block _ (row_lt Hkb.out)).trans Hkb.out
          clear hbx
          have HVb : Hid (Um1u1.heap[Um1u0.heap.size]? = some (.cells (paCells (pM y.k y.tg)).toArray 45)) := by rw [eW]; exact heap_alloc_new _ _
          rw [← eW] at hHeld ⊢
          clear eW
          obtain ⟨qb, eqb⟩ : ∃ b, b = Um1u0.heap.size := ⟨_, rfl⟩
          rw [← eqb] at HVb ⊢
          clear eqb
          clear hb
          refine wpAnyH_ready (rs := [10]) (by kernel_rfl) (by simp) ?_
          refine AllReadyH.cons (o := ⟨some 46, _, _, _, _, _⟩) rfl (fun K hK => ?_) AllReadyH.nil
          refine step_app1 rfl _ _ (by rfl) W0.heap.size _ R (by rfl) HS.out.ow qb (pM y.k y.tg) (by rfl) HVb.out (Nat.le_trans (by have h9 := HRl.out; rw [List.length_append] at h9; omega : R.length ≤ 1048576) (by decide)) HS.out.bel.size ?_
          intro g3 c3 Um1u2 ho3 hg3
          have hkp := hHeld.trans (show KeepsS (fun k => k < W0.heap.size ∨ k = kb) _ _ from ⟨hg3.size, fun j q => by rcases q with q | rfl; exact hg3.block j (Nat.lt_of_lt_of_le q HS.out.bel.size) (fun e => by have := (OwnE.lt HS.out.ow j e.symm).1; omega); exact HS.out.keep hg3 Hkb.out (by decide)⟩)
          replace Hkb := hide9 ((HS.out.keep hg3 Hkb.out (by decide)).trans Hkb.out)
          have HS2 := hide9 (HS.out.push hg3 ho3)
          clear ho3 hg3
          refine hK.out _ _ (hkp) (fun hHeld2 => ?_)
          clear hK K hHeld
          have hHeld := hHeld2
          clear hHeld2
          (try simp only [Act.put, List.setIfInBounds_toArray, List.set_cons_zero, List.set_cons_succ])
          clear hkp HS HVb
          refine tkW 11 (some 7) (v := ?_) ?_ hHeld ?_
          rotate_left
          · (intro ww _; go_simp; try with_reducible rfl)
          refine wpAnyH_done (by kernel_rfl) ?_ _
          have HS := HS2
          clear HS2 hHeld HS0 HK0
          go_wp2
          go_meet
          case rel => exact ⟨R ++ [pM y.k y.tg], some ⟨g3, 0, none⟩, c3, (by simp), hide9 (by simp), (by rw [List.length_append]; exact HS), Hkb⟩
      case rest =>
        obtain ⟨Q, qa, qc, rfl, HQe, HS, Hkb⟩ := hcut
        have hra := (HS.out.bel.block _ (row_lt HR1.out)).trans HR1.out
        have hrb := (HS.out.bel.block _ (row_lt HR2.out)).trans HR2.out
        obtain ⟨y0, y1, y2, y3, y4, y5⟩ := row6d hra
        obtain ⟨x0, x1, x2, x3, x4, x5⟩ := row6d hrb
        obtain ⟨z0, z1⟩ := row2d Hkb.out
        clear hra hrb
        go_wp2_with fail
        clear y0 y1 y2 y3 y4 y5 x0 x1 x2 x3 x4 x5 z0 z1
        refine (stayed_any G G2 a b y.k _ _ _ (HA.out.below HS.out.bel) (HB.out.below HS.out.bel) hsa hsb).mono ?_
        rintro e w4 ⟨rfl, hb1⟩
        obtain ⟨sd9, esd⟩ : ∃ v : Bool, stdB a b y.k = v := ⟨_, rfl⟩
        rw [esd]
        have Hsd := hide9 esd
        replace HS := hide9 (HS.out.below hb1)
        replace Hkb := hide9 ((hb1.block _ (row_lt Hkb.out)).trans Hkb.out)
        clear hb1 esd
        go_upto_if 51 with fail
        go_cut [7] from 19 to 78 (fun v W => ∃ (P : List Pa) (pa : Option Addr) (pc : Nat), v = .slice pa P.length pc ∧ Hid (P = Q ++ if sd9 = true then [] else [pP y.k n.k s]) ∧ Hid (KdS W0 (.slice ma M.length mc) M fb (.slice pa P.length pc) (P) s W) ∧ Hid (W.heap[kb]? = some (.cells #[.int .i64 y.k.1, .int .i64 y.k.2] 23)))
        case first =>
          cases sd9 with
          | true =>
            go_wp2
            go_meet
            case rel => exact ⟨Q, qa, qc, rfl, hide9 (by simp), HS, Hkb⟩
          | false =>
            have hrn := (HS.out.bel.block _ (row_lt HR3.out)).trans HR3.out
            obtain ⟨x0, x1, x2, x3, x4, x5⟩ := row6d hrn
            obtain ⟨z0, z1⟩ := row2d Hkb.out
            obtain ⟨f0, f1⟩ := row2d HS.out.af
            clear hrn
            go_wp2_with (at_builtin; refine StpD.to ?_)
            refine StpD.of ?_
            clear x0 x1 x2 x3 x4 x5 z0 z1 f0 f1
            obtain ⟨W4, eW4⟩ : ∃ X, X = w4.alloc (.cells #[.int .i64 4, .int .i64 y.k.1, .int .i64 y.k.2, .int .i64 n.k.1, .int .i64 n.k.2, .int .i64 s.1, .int .i64 s.2, .string ⟨#[]⟩, .string ⟨#[]⟩] 45) := ⟨_, rfl⟩
            have hq : W4.heap[w4.heap.size]? = some (.cells (paCells (pP y.k n.k s)).toArray 45) := (by rw [eW4]; exact heap_alloc_new _ _)
            have hb4 : Below w4.heap.size w4 W4 := (by rw [eW4]; exact (Below.refl _ _).alloc (Nat.le_refl _) _)
            rw [← eW4]
            replace HS := hide9 (HS.out.below hb4)
            replace Hkb := hide9 ((hb4.block _ (row_lt Hkb.out)).trans Hkb.out)
            clear eW4 hb4
            refine wpList_app1 rfl _ _ rfl W0.heap.size _ Q rfl HS.out.ow w4.heap.size (pP y.k n.k s) rfl hq (Nat.le_trans (by have h9 := HRl.out; unfold kdK at h9; simp only [List.length_append] at h9 ⊢; rw [HQe.out, List.length_append, ← Hha.out]; omega : Q.length ≤ 1048576) (by decide)) HS.out.bel.size ?_
            intro g c W5 ho hg
            replace Hkb := hide9 ((HS.out.keep hg Hkb.out (by decide)).trans Hkb.out)
            replace HS := hide9 (HS.out.push hg ho)
            clear hq ho hg
            go_wp2
            go_meet
            case rel => exact ⟨Q ++ [pP y.k n.k s], some ⟨g, 0, none⟩, c, (by simp), hide9 (by simp), (by rw [List.length_append]; exact HS), Hkb⟩
        case rest =>
          obtain ⟨P, pa, pc, rfl, HPe, HS, Hkb⟩ := hcut
          go_wp2
          go_loopw [7, 12] (fun v jv wr => ∃ (j : Nat) (T : List Pa), jv = .int .i64 (j : Int) ∧ j ≤ M.length ∧ Hid (KdS W0 (.slice ma M.length mc) M fb v (T) s wr) ∧ Hid (wr.heap[kb]? = some (.cells #[.int .i64 y.k.1, .int .i64 y.k.2] 23)) ∧ Hid (T = P ++ ((M.take j).filter fun m => decide (m = y.k)).map fun _ => pH y.k s)) (fun _ jv _ => M.length - (intOf jv).toNat)
          case atStart => exact ⟨0, P, rfl, Nat.zero_le _, HS, Hkb, hide9 (by simp)⟩
          case round =>
            clear HS Hkb
            obtain ⟨j, T, rfl, hj, HS, Hkb, HTe⟩ := hrel
            obtain ⟨ta, tc, e1⟩ := OwnE.form HS.out.ow
            subst e1
            have HTl : Hid (T.length ≤ 1048576) := (by have h9 := HRl.out; unfold kdK at h9; simp only [List.length_append] at h9; have h8 := fil_len M y.k s j; show _ ≤ _; rw [HTe.out, HPe.out, HQe.out]; simp only [List.length_append]; rw [← Hha.out, ← Hsd.out]; omega)
            by_cases hjt : j < M.length
            · obtain ⟨mg, mcp, em, _, hmc, _⟩ := OwnE.cells stCells_len HS.out.mo hjt
              injection em with em1 em2 em3
              subst em1 em3
              clear em2
              obtain ⟨mm, emm⟩ : ∃ m, m = M[j] := ⟨_, rfl⟩
              have hc0 := hmc 0 _ rfl
              have hc1 := hmc 1 _ rfl
              rw [Nat.add_zero] at hc0
              rw [← emm] at hc0 hc1
              have Hmc : Hid (mg < wr.heap.size ∧ wr.cell? ⟨mg, j * 2, none⟩ = some (.int .i64 mm.1) ∧ wr.cell? ⟨mg, j * 2 + 1, none⟩ = some (.int .i64 mm.2)) := ⟨cell_lt (p := ⟨mg, j * 2, none⟩) hc0, hc0, hc1⟩
              have Hft : Hid (P ++ ((M.take (j + 1)).filter fun m => decide (m = y.k)).map (fun _ => pH y.k s) = T ++ if mm = y.k then [pH y.k s] else []) := (by show _ = _; rw [fil_take hjt, ← List.append_assoc, ← HTe.out, emm])
              clear hmc hc0 hc1 emm
              have m1 : (j : Int) < (M.length : Int) := by omega
              have m0 : (0 : Int) ≤ (j : Int) := by omega
              obtain ⟨eb, heb⟩ : ∃ v : Bool, decide ((mm.1, mm.2) = (y.k.1, y.k.2)) = v := ⟨_, rfl⟩
              have hq : ∀ w9 : World, (binOp .eql 23 (.agg #[.int .i64 mm.1, .int .i64 mm.2]) (.agg #[.int .i64 y.k.1, .int .i64 y.k.2])).run Try.prog w9 = .ok (.bool eb) w9 := fun w9 => by rw [eqlSt, heb]
              go_upto_region 15 with fail
              cases eb with
              | false =>
                have Hne : Hid (¬ mm = y.k) := (by intro e; have h9 := of_decide_eq_false heb; exact h9 (by rw [e]))
                clear heb
                have HK0 := Hkb
                refine wp_region_held_drew (S := fun W' => Below wr.heap.size wr W') (by kernel_rfl) (Below.refl _ _).drew (fun hHeld => ?_)
                obtain ⟨Ui02u0, eW⟩ : ∃ X, X = wr.drew := ⟨_, rfl⟩
                have hb : Below wr.heap.size wr Ui02u0 := by rw [eW]; exact (Below.refl _ _).drew
                replace HS : Hid (KdS W0 (.slice (some ⟨mg, 0, none⟩) M.length mc) M fb (.slice ta T.length tc) (T) s Ui02u0) := HS.out.below hb
                replace Hkb : Hid (Ui02u0.heap[kb]? = some (.cells #[.int .i64 y.k.1, .int .i64 y.k.2] 23)) := (hb.block _ (row_lt Hkb.out)).trans Hkb.out
                rw [← eW] at hHeld ⊢
                clear eW hb
                refine tkW 0 (some 66) (v := ?_) ?_ hHeld ?_
                rotate_left
                · (intro ww _; go_simp; try with_reducible rfl)
                refine tkW 1 (some 67) (v := ?_) ?_ hHeld ?_
                rotate_left
                · (intro ww _; go_simp; try with_reducible rfl)
                refine tkW 2 (some 68) (v := ?_) ?_ hHeld ?_
                rotate_left
                · (intro ww hSw; (try dsimp only at hSw); go_simp; try with_reducible rfl)
                refine tkW 3 (some 69) (v := ?_) ?_ hHeld ?_
                rotate_left
                · (intro ww hSw; (try dsimp only at hSw); have q6 : ww.cell? ⟨mg, j * 2, none⟩ = some (.int .i64 mm.1) := (hSw.cell (p := ⟨mg, j * 2, none⟩) Hmc.out.1).trans Hmc.out.2.1; have q7 : ww.cell? ⟨mg, j * 2 + 1, none⟩ = some (.int .i64 mm.2) := (hSw.cell (p := ⟨mg, j * 2 + 1, none⟩) Hmc.out.1).trans Hmc.out.2.2; go_simp; try with_reducible rfl)
                refine tkW 4 (some 70) (v := ?_) ?_ hHeld ?_
                rotate_left
                · (intro ww hSw; (try dsimp only at hSw); obtain ⟨z0, z1⟩ := row2d ((hSw.block kb (row_lt HK0.out)).trans HK0.out); go_simp; try with_reducible rfl)
                refine tkW 5 (some 71) (v := ?_) ?_ hHeld ?_
                rotate_left
                · (intro ww hSw; (try dsimp only at hSw); go_simp; try with_reducible rfl)
                refine wpAnyH_done (by kernel_rfl) ?_ _
                clear hHeld hq HK0 Hmc
                go_wp2
                go_roundw
                case rel => exact ⟨j + 1, _, by go_num, by omega, HS, Hkb, hide9 (by rw [Hft.out, if_neg Hne.out, List.append_nil])⟩
                case measure => simp [intOf]; omega
              | true =>
                have Heq : Hid (mm = y.k) := (by show _ = _; have h9 := of_decide_eq_true heb; exact Prod.ext (congrArg Prod.fst h9) (congrArg Prod.snd h9))
                clear heb
                have HK0 := Hkb
                refine wp_region_held_drew (S := fun W' => Below wr.heap.size wr W') (by kernel_rfl) (Below.refl _ _).drew (fun hHeld => ?_)
                obtain ⟨Ui13u0, eW⟩ : ∃ X, X = wr.drew := ⟨_, rfl⟩
                have hb : Below wr.heap.size wr Ui13u0 := by rw [eW]; exact (Below.refl _ _).drew
                replace HS : Hid (KdS W0 (.slice (some ⟨mg, 0, none⟩) M.length mc) M fb (.slice ta T.length tc) (T) s Ui13u0) := HS.out.below hb
                replace Hkb : Hid (Ui13u0.heap[kb]? = some (.cells #[.int .i64 y.k.1, .int .i64 y.k.2] 23)) := (hb.block _ (row_lt Hkb.out)).trans Hkb.out
                rw [← eW] at hHeld ⊢
                clear eW hb
                refine tkW 0 (some 66) (v := ?_) ?_ hHeld ?_
                rotate_left
                · (intro ww _; go_simp; try with_reducible rfl)
                refine tkW 1 (some 67) (v := ?_) ?_ hHeld ?_
                rotate_left
                · (intro ww _; go_simp; try with_reducible rfl)
                refine tkW 2 (some 68) (v := ?_) ?_ hHeld ?_
                rotate_left
                · (intro ww hSw; (try dsimp only at hSw); go_simp; try with_reducible rfl)
                refine tkW 3 (some 69) (v := ?_) ?_ hHeld ?_
                rotate_left
                · (intro ww hSw; (try dsimp only at hSw); have q6 : ww.cell? ⟨mg, j * 2, none⟩ = some (.int .i64 mm.1) := (hSw.cell (p := ⟨mg, j * 2, none⟩) Hmc.out.1).trans Hmc.out.2.1; have q7 : ww.cell? ⟨mg, j * 2 + 1, none⟩ = some (.int .i64 mm.2) := (hSw.cell (p := ⟨mg, j * 2 + 1, none⟩) Hmc.out.1).trans Hmc.out.2.2; go_simp; try with_reducible rfl)
                refine tkW 4 (some 70) (v := ?_) ?_ hHeld ?_
                rotate_left
                · (intro ww hSw; (try dsimp only at hSw); obtain ⟨z0, z1⟩ := row2d ((hSw.block kb (row_lt HK0.out)).trans HK0.out); go_simp; try with_reducible rfl)
                refine tkW 5 (some 71) (v := ?_) ?_ hHeld ?_
                rotate_left
                · (intro ww hSw; (try dsimp only at hSw); go_simp; try with_reducible rfl)
                refine wpAnyH_done (by kernel_rfl) ?_ _
                clear hHeld hq HK0 Hmc
                obtain ⟨z0, z1⟩ := row2d Hkb.out
                obtain ⟨f0, f1⟩ := row2d HS.out.af
                go_wp2_with (at_builtin; refine StpD.to ?_)
                refine StpD.of ?_
                clear z0 z1 f0 f1
                obtain ⟨W4, eW4⟩ : ∃ X, X = Ui13u0.alloc (.cells #[.int .i64 5, .int .i64 y.k.1, .int .i64 y.k.2, .int .i64 0, .int .i64 0, .int .i64 s.1, .int .i64 s.2, .string ⟨#[]⟩, .string ⟨#[]⟩] 45) := ⟨_, rfl⟩
                have hq : W4.heap[Ui13u0.heap.size]? = some (.cells (paCells (pH y.k s)).toArray 45) := (by rw [eW4]; exact heap_alloc_new _ _)
                have hb4 : Below Ui13u0.heap.size Ui13u0 W4 := (by rw [eW4]; exact (Below.refl _ _).alloc (Nat.le_refl _) _)
                rw [← eW4]
                replace HS := hide9 (HS.out.below hb4)
                replace Hkb := hide9 ((hb4.block _ (row_lt Hkb.out)).trans Hkb.out)
                clear eW4 hb4
                refine wpList_app1 rfl _ _ rfl W0.heap.size _ T rfl HS.out.ow Ui13u0.heap.size (pH y.k s) rfl hq (Nat.le_trans HTl.out (by decide)) HS.out.bel.size ?_
                intro g c W5 ho hg
                replace Hkb := hide9 ((HS.out.keep hg Hkb.out (by decide)).trans Hkb.out)
                replace HS := hide9 (HS.out.push hg ho)
                clear hq ho hg
                go_wp2
                go_roundw
                case rel => exact ⟨j + 1, _, by go_num, by omega, HS, Hkb, hide9 (by rw [Hft.out, if_pos Heq.out])⟩
                case measure => simp [intOf]; omega
            · have m1 : ¬ (j : Int) < (M.length : Int) := by omega
              have hR : R ++ kdK a b M n.k s y = T := (by unfold kdK; rw [HTe.out, HPe.out, HQe.out, Hha.out, Hsd.out, List.take_of_length_le (by omega)]; simp only [List.append_assoc])
              have HR9 := hide9 hR
              obtain ⟨z0, z1⟩ := row2d Hkb.out
              have hsetS := HS.out.set y.k
              have HS9 := hide9 hsetS
              clear hR hsetS
              go_wp2_with (refine wpList_store_row rfl 23 (.tmp 9) (.tmp 78) rfl fb 23 #[.int .i64 s.1, .int .i64 s.2] #[.int .i64 y.k.1, .int .i64 y.k.2] rfl rfl HS.out.af sizeStamp rfl (by simp [Value.oneCell']) ?_; refine StpD.to ?_)
              refine StpD.of ?_
              clear z0 z1 HS
              obtain ⟨W9, eW9⟩ : ∃ X, X = wr.setRow fb #[.int .i64 y.k.1, .int .i64 y.k.2] := ⟨_, rfl⟩
              rw [← eW9] at HS9 ⊢
              clear eW9
              go_wp2
              go_roundw
              case rel => exact ⟨i + 1, T, by go_num, by omega, (by rw [Hlk.out]; exact HS9), hide9 (by rw [Htk.out, HR9.out])⟩
              case measure => simp [intOf]; omega
    · have k1 : ¬ (i : Int) < (n.ks.length : Int) := by omega
      obtain ⟨y0, y1, y2, y3, y4, y5⟩ := row6d HN3.out
      go_wp2
      clear y0 y1 y2 y3 y4 y5
      (try rw [Exit.noGoto_ret])
      go_ret
      exact ⟨_, rfl, OwnE.low (by have h9 := HRe.out; rw [List.take_of_length_le (by omega)] at h9; rw [← HMe.out, ← h9]; exact HS.out.ow) HL.out.size, HL.out.trans (HS.out.bel.mono HL.out.size)⟩
end Go.Proofs.Ythhnglpkfcmjiaa

namespace Go.Proofs.Ythhnglpkfcmjiaa
open Go.RowKit Go.Shelf
set_option linter.unusedVariables false
set_option linter.unusedSimpArgs false
attribute [local go_sem] Oper.semAt_some
theorem wpList_appPs {G : Nat → Prop} {ops : Array Oper} {rest : List Oper} {o : Oper} {a : Act} {w : World} {Q : Exit → Act → World → Prop} (hgd : o.guard = none) (s x : Operand)
    (ho : o.op = .call { callee := .builtin .append, args := #[s, x], argTypes := #[31, 31] }) (base : Nat) (v xv : Value) (D E : List Pa) (hs : a.eval s = v) (hown : OwnPa base w v D) (hx : a.eval x = xv) (hE : LsE paCells 9 G w xv E) (hl : D.length + E.length ≤ 1048576000) (hbase : base ≤ w.heap.size)
    (h : ∀ v' w', OwnPa base w' v' (D ++ E) → w.grownBy w' v.ownBlock → wpList Try.prog ops Q rest (a.put o.dst v') w') : wpList Try.prog ops Q (o :: rest) a w :=
  wpList_plain hgd fun K hK => by
    have h9 := step_appPs (ops := ops) (K := K) (Q := Q) (P9 := True) hgd s x ho base v xv D E hs hown hx hE hl hbase fun v' w' h1 h2 => hK _ _ (h v' w' h1 h2)
    rw [if_pos (by simp [Region.wanted, hgd])] at h9
    exact h9
/-- The row of steps, the row of keys, the row of nodes. -/
structure QfS (W0 : World) (kv : Value) (KL : List St) (nv : Value) (E : List (VT × Value × Value)) (v : Value) (R : List Pa) (W : World) : Prop where
  ow : OwnPa W0.heap.size W v R
  ks : OwnSt W0.heap.size W kv KL
  ns : OwnVn W0.heap.size W nv E
  fs : ∀ x ∈ E, FdIs (fun k => k < W0.heap.size) W x.2.1 x.2.2 x.1.at_ x.1.ks
  bel : Below W0.heap.size W0 W
section
variable {W0 W W' : World} {kv nv v v' : Value} {KL : List St} {E : List (VT × Value × Value)} {R R' : List Pa}
theorem QfS.below (h : QfS W0 kv KL nv E v R W) (hb : Below W.heap.size W W') : QfS W0 kv KL nv E v R W' := ⟨OwnE.below h.ow hb, OwnE.below h.ks hb, OwnE.below h.ns hb, fun x hx => (h.fs x hx).below hb, h.bel.trans (hb.mono h.bel.size)⟩
theorem QfS.push (h : QfS W0 kv KL nv E v R W) (hg : W.grownBy W' v.ownBlock) (ho : OwnPa W0.heap.size W' v' R') : QfS W0 kv KL nv E v' R' W' := by
  have key : ∀ {k : Nat} {c : Array Value} {T : TypeId}, W.heap[k]? = some (.cells c T) → T ≠ 45 → W'.heap[k]? = W.heap[k]? := fun {k c T} hk hT => hg.block k (row_lt hk) fun e => own_ne h.ow hk hT e.symm
  refine ⟨ho, OwnE.keep h.ks fun k e => ?_, OwnE.keep h.ns fun k e => ?_, fun x hx => (h.fs x hx).turn hg.size fun k q _ => ⟨q, hg.block k (Nat.lt_of_lt_of_le q h.bel.size) (fun e => by have := (OwnE.lt h.ow k e.symm).1; omega)⟩, h.bel.grown hg h.bel.size (fun k e => (OwnE.lt h.ow k e).1)⟩
  · obtain ⟨c, hc⟩ := own_cellsE h.ks e
    exact key hc (by decide)
  · obtain ⟨c, hc⟩ := own_cellsE h.ns e
    exact key hc (by decide)
end
theorem flat_le {f : St → List Pa} (hf : ∀ s, (f s).length ≤ 1) : ∀ l : List St, (l.flatMap f).length ≤ l.length
  | [] => by simp
  | x :: r => by rw [List.flatMap_cons, List.length_append, List.length_cons]; have := hf x; have := flat_le hf r; omega
theorem tkD_len (a b : VT) (s : St) : (tkD a b s).length ≤ 1 := by unfold tkD; split <;> simp
theorem dpD_len (b : VT) (s : St) : (dpD b s).length ≤ 1 := by unfold dpD; split <;> simp
theorem flat_take {f : St → List Pa} {l : List St} {i : Nat} (h : i < l.length) : (l.take (i + 1)).flatMap f = (l.take i).flatMap f ++ f l[i] := by
  rw [List.take_succ_eq_append_getElem h, List.flatMap_append]
  simp
theorem flat_takeV {f : VT → List Pa} {l : List VT} {i : Nat} (h : i < l.length) : (l.take (i + 1)).flatMap f = (l.take i).flatMap f ++ f l[i] := by
  rw [List.take_succ_eq_append_getElem h, List.flatMap_append]
  simp
theorem flat_leV (f : VT → List Pa) (l : List VT) (i : Nat) : ((l.take i).flatMap f).length ≤ (l.flatMap f).length := by
  have h : l.flatMap f = (l.take i).flatMap f ++ (l.drop i).flatMap f := by rw [← List.flatMap_append, List.take_append_drop]
  rw [h, List.length_append]
  omega
theorem ofD_len {a b : VT} (hy : whyD a b = 0) : (ofD a b).length ≤ 1048576000 := by
  rw [of_eq (w := default) (Ba := 0) (Bb := 0) hy]
  obtain ⟨_, ⟨h1, h2⟩, h3, h4⟩ := why_facts hy
  have hA : ∀ y ∈ flatS default a (0, 0) 0 0 0, y.t.at_.length ≤ 4096 := fun y hy => h3 _ (by rw [← flatS_t default a (0, 0) 0 0 0]; exact List.mem_map.2 ⟨y, hy, rfl⟩)
  have hB : ∀ y ∈ flatS default b (0, 0) 0 0 0, y.t.at_.length ≤ 4096 ∧ y.t.ks.length ≤ 8192 := fun y hy => h4 _ (by rw [← flatS_t default b (0, 0) 0 0 0]; exact List.mem_map.2 ⟨y, hy, rfl⟩)
  have h5 := ofP_len hA _ hB
  have h6 := lvL_len (flatS default a (0, 0) 0 0 0) (flatS default b (0, 0) 0 0 0)
  rw [flatS_len] at h5 h6
  unfold ofL
  rw [List.length_append]
  omega
/-- What a node's steps ask. -/
theorem nod_facts {a b n : VT} (hy : whyD a b = 0) (hn : n ∈ flT b) : n.sz ≤ b.sz ∧ n.at_.length ≤ 524288 ∧ (wasT a n.k).at_.length ≤ 524288 ∧ (plD a b (wasT a n.k) n.ks).length = (stK a b n.ks).length ∧ (plD a b (wasT a n.k) n.ks).length ≤ 1048576 ∧ (kdL a b (shD a b n) n.k (0, 0) n.ks).length ≤ 1048576 ∧ (ownD (hasT a n.k) (wasT a n.k) n).length ≤ 8796093022208 := by
  obtain ⟨g1, g2, hk⟩ := why_right hy
  obtain ⟨hna, ⟨s1, s2⟩, h3, h4⟩ := why_facts hy
  have hnb := right_nodup g2
  have hl := plD_len hna hnb hk hn
  have hks := (h4 n hn).2
  have hst := stK_len a b n.ks
  have hn2 := hn
  rw [← flatS_t default b (0, 0) 0 0 0] at hn2
  obtain ⟨x, hx, rfl⟩ := List.mem_map.1 hn2
  refine ⟨flT_sz hn, by have := (h4 _ hn).1; omega, ?_, hl, by omega, ?_, ?_⟩
  · rcases was_cases (w := default) (Ba := 0) hna x.t.k with ⟨_, _, e⟩ | ⟨y, _, _, e, hy2⟩
    · rw [e]; exact Nat.zero_le _
    · rw [e]; have := h3 _ hy2; omega
  · rw [kids_eq (w := default) (Ba := 0) hna hnb hk hx x.t.ks (0, 0) fun _ h => h]
    have := plL_len (flatS default a (0, 0) 0 0 0) (shL (flatS default a (0, 0) 0 0 0) x.t) x.t.k (0, 0) x.t.ks
    omega
  · rw [own_eq (w := default) (Ba := 0) hna (right_up g1) (right_up g2 _ hn)]
    have hA : ∀ y ∈ flatS default a (0, 0) 0 0 0, y.t.at_.length ≤ 4096 := fun y hy => h3 _ (by rw [← flatS_t default a (0, 0) 0 0 0]; exact List.mem_map.2 ⟨y, hy, rfl⟩)
    have := (ofS_len hA (h4 _ hn)).1
    omega
/-- What Of answers. -/
def RofP (a b : VT) (w : World) (v : Value) (c : Int) (w' : World) : Prop := if whyD a b = 0 then c = 0 ∧ OwnPa w.heap.size w' v (ofD a b) else c = whyD a b ∧ v = .slice none 0 0
theorem own_vn {B : Nat} {W W' : World} {v nv : Value} {R : List Pa} {E : List (VT × Value × Value)} {g : Nat} (ho : OwnPa B W v R) (hn : OwnVn B W nv E) (hg : W.grownBy W' v.ownBlock) (e : nv.ownBlock = some g) : W'.heap[g]? = W.heap[g]? := by
  obtain ⟨c, hc⟩ := own_cellsE hn e
  exact hg.block g (row_lt hc) fun e2 => own_ne ho hc (by decide) e2.symm
set_option maxRecDepth 100000 in
set_option maxHeartbeats 8000000 in
theorem refOf_any (G G2 : Nat → Prop) (a b : VT) (va vb : Value) (w : World) (ha : VIs G w va a) (hb : VIs G2 w vb b) (hsa : a.sz ≤ 1048576) (hba : BnA a) (hsb : b.sz ≤ 1048576) (hbb : BnA b) :
    Calls Try.prog 13 #[va, vb] w fun e w' => ∃ v c, e = .returned (.tuple #[v, .int .i64 c]) ∧ RofP a b w v c w' ∧ Below w.heap.size w w' := by
  replace ha := ha.turn (G' := fun k => k < w.heap.size) (Nat.le_refl _) fun k _ q => ⟨q, rfl⟩
  replace hb := hb.turn (G' := fun k => k < w.heap.size) (Nat.le_refl _) fun k _ q => ⟨q, rfl⟩
  obtain ⟨aa, ca, ak, da, e1, _⟩ := ha.form
  obtain ⟨ba, cb, bk, db, e2, _⟩ := hb.form
  subst e1 e2
  obtain ⟨W0, eW⟩ : ∃ X, X = (w.alloc (.cells #[.int .i64 a.k.1, .int .i64 a.k.2, .string a.tg, .string a.tx, .slice aa a.at_.length ca, .slice ak a.ks.length da] 27)).alloc (.cells #[.int .i64 b.k.1, .int .i64 b.k.2, .string b.tg, .string b.tx, .slice ba b.at_.length cb, .slice bk b.ks.length db] 27) := ⟨_, rfl⟩
  have hb0 : Below w.heap.size w W0 := (by rw [eW]; exact ((Below.refl _ _).alloc (Nat.le_refl _) _).alloc (by simp) _)
  have HR1 : Hid (W0.heap[w.heap.size]? = some (.cells #[.int .i64 a.k.1, .int .i64 a.k.2, .string a.tg, .string a.tx, .slice aa a.at_.length ca, .slice ak a.ks.length da] 27)) := (by show _ = _; rw [eW, Below.heap_alloc _ _ _ (by simp)]; exact heap_alloc_new _ _)
  have HR2 : Hid (W0.heap[w.heap.size + 1]? = some (.cells #[.int .i64 b.k.1, .int .i64 b.k.2, .string b.tg, .string b.tx, .slice ba b.at_.length cb, .slice bk b.ks.length db] 27)) := (by show _ = _; rw [eW]; have h9 := heap_alloc_new (w.alloc (.cells #[.int .i64 a.k.1, .int .i64 a.k.2, .string a.tg, .string a.tx, .slice aa a.at_.length ca, .slice ak a.ks.length da] 27)) (.cells #[.int .i64 b.k.1, .int .i64 b.k.2, .string b.tg, .string b.tx, .slice ba b.at_.length cb, .slice bk b.ks.length db] 27); rw [show (w.alloc (.cells #[.int .i64 a.k.1, .int .i64 a.k.2, .string a.tg, .string a.tx, .slice aa a.at_.length ca, .slice ak a.ks.length da] 27)).heap.size = w.heap.size + 1 by simp] at h9; exact h9)
  have HA : Hid (VIs (fun k => k < w.heap.size) W0 (.agg #[.int .i64 a.k.1, .int .i64 a.k.2, .string a.tg, .string a.tx, .slice aa a.at_.length ca, .slice ak a.ks.length da]) a) := ha.below hb0
  have HB : Hid (VIs (fun k => k < w.heap.size) W0 (.agg #[.int .i64 b.k.1, .int .i64 b.k.2, .string b.tg, .string b.tx, .slice ba b.at_.length cb, .slice bk b.ks.length db]) b) := hb.below hb0
  have HE := hide9 eW
  have HL := hide9 hb0
  clear eW hb0 ha hb
  go_enter Try.func13, Try.ntmps13
  go_upto_region 1 with fail
  rw [← HE.out]
  clear HE
  obtain ⟨y0, y1, y2, y3, y4, y5⟩ := row6d HR1.out
  obtain ⟨z0, z1, z2, z3, z4, z5⟩ := row6d HR2.out
  go_wp2_with fail
  clear y0 y1 y2 y3 y4 y5
  clear z0 z1 z2 z3 z4 z5
  refine (refWhy_any _ _ a b _ _ _ HA.out HB.out hsa hba hsb hbb).mono ?_
  rintro e w1 ⟨rfl, hb1⟩
  obtain ⟨cx, ecx⟩ : ∃ x, x = whyD a b := ⟨_, rfl⟩
  rw [← ecx]
  have Hcx := hide9 ecx
  replace HL := hide9 (HL.out.trans (hb1.mono HL.out.size))
  replace HA := hide9 (HA.out.below hb1)
  replace HB := hide9 (HB.out.below hb1)
  replace HR1 := hide9 ((hb1.block _ (row_lt HR1.out)).trans HR1.out)
  replace HR2 := hide9 ((hb1.block _ (row_lt HR2.out)).trans HR2.out)
  clear hb1 ecx
  by_cases hx : cx = 0
  · subst hx
    have Hw : Hid (whyD a b = 0) := Hcx.out.symm
    clear Hcx
    obtain ⟨W0, eW0⟩ : ∃ X, X = w1 := ⟨_, rfl⟩
    rw [← eW0] at HL HA HB HR1 HR2 ⊢
    clear eW0
    obtain ⟨W1, eW1⟩ : ∃ X, X = W0.alloc (.cells #[] 45) := ⟨_, rfl⟩
    have hb1 : Below W0.heap.size W0 W1 := (by rw [eW1]; exact (Below.refl _ _).alloc (Nat.le_refl _) _)
    have hs : OwnPa W0.heap.size W1 (.slice (some ⟨W0.heap.size, 0, none⟩) 0 0) [] := (by rw [eW1]; exact World.ownsRow_made W0 #[] 0 (Nat.le_refl _) (by unfold maxLen; omega) (by simp))
    have Hs := hide9 hs
    have HE := hide9 eW1
    have HB1 := hide9 hb1
    clear eW1 hb1 hs
    have hr1 := (HB1.out.block _ (row_lt HR1.out)).trans HR1.out
    obtain ⟨y0, y1, y2, y3, y4, y5⟩ := row6d hr1
    clear hr1
    go_upto_region 4 with fail
    rw [← HE.out]
    clear HE
    go_wp2_with fail
    clear y0 y1 y2 y3 y4 y5
    refine (refKeys_any _ a _ _ (HA.out.below HB1.out) hsa).mono ?_
    rintro e w2 ⟨kv, rfl, hk, hb2⟩
    obtain ⟨KL, eKL⟩ : ∃ l, l = (flT a).map VT.k := ⟨_, rfl⟩
    rw [← eKL] at hk
    have HKe := hide9 eKL
    have hkl9 : KL.length ≤ 1048576 := (by rw [eKL, List.length_map, flT_len]; exact hsa)
    obtain ⟨ka, kc, e1⟩ := OwnE.form hk
    subst e1
    have HS : Hid (QfS W0 (.slice ka KL.length kc) KL (.slice none 0 0) [] (.slice (some ⟨W0.heap.size, 0, none⟩) 0 0) ([]) w2) := ⟨OwnE.below Hs.out hb2, OwnE.low hk HB1.out.size, OwnE.nil0 _ _, fun x hx => by simp at hx, HB1.out.trans (hb2.mono HB1.out.size)⟩
    clear Hs HB1 hk hb2 eKL
    go_wp2
    go_loopw [6, 8] (fun v iv wr => ∃ (i : Nat) (R : List Pa), iv = .int .i64 (i : Int) ∧ i ≤ KL.length ∧ Hid (QfS W0 (.slice ka KL.length kc) KL (.slice none 0 0) [] v (R) wr) ∧ Hid (R = (KL.take i).flatMap (tkD a b))) (fun _ iv _ => KL.length - (intOf iv).toNat)
    case atStart => exact ⟨0, [], rfl, Nat.zero_le _, HS, rfl⟩
    case round =>
      clear HS
      obtain ⟨i, R, rfl, hi, HS, HRe⟩ := hrel
      obtain ⟨ra, rc, e1⟩ := OwnE.form HS.out.ow
      subst e1
      have HRl : Hid (R.length ≤ 2097152) := (by have h1 := flat_le (tkD_len a b) (KL.take i); rw [List.length_take] at h1; show _ ≤ _; rw [HRe.out]; omega)
      by_cases hlt : i < KL.length
      · obtain ⟨kg, kcp, ek, _, hkc, _⟩ := OwnE.cells stCells_len HS.out.ks hlt
        injection ek with ek1 ek2 ek3
        subst ek1 ek3
        clear ek2
        obtain ⟨s, es⟩ : ∃ s, s = KL[i] := ⟨_, rfl⟩
        have hc0 := hkc 0 _ rfl
        have hc1 := hkc 1 _ rfl
        rw [Nat.add_zero] at hc0
        rw [← es] at hc0 hc1
        have Hkc : Hid (kg < wr.heap.size ∧ wr.cell? ⟨kg, i * 2, none⟩ = some (.int .i64 s.1) ∧ wr.cell? ⟨kg, i * 2 + 1, none⟩ = some (.int .i64 s.2)) := ⟨cell_lt (p := ⟨kg, i * 2, none⟩) hc0, hc0, hc1⟩
        clear hkc hc0 hc1
        have k1 : (i : Int) < (KL.length : Int) := by omega
        have k0 : (0 : Int) ≤ (i : Int) := by omega
        obtain ⟨hb9, ehb⟩ : ∃ v : Bool, hasT b s = v := ⟨_, rfl⟩
        have Hhb := hide9 ehb
        clear ehb
        have Htk : Hid ((KL.take (i + 1)).flatMap (tkD a b) = R ++ tkD a b s) := (by show _ = _; rw [flat_take hlt, ← HRe.out, ← es])
        clear es
        go_upto_region 8 with fail
        cases hb9 with
        | false =>
          have HS0 : Hid (QfS W0 (.slice (some ⟨kg, 0, none⟩) KL.length kc) KL (.slice none 0 0) [] (.slice ra R.length rc) (R) wr) := HS
          refine wp_region_held_drew (S := fun W' => Below wr.heap.size wr W') (by kernel_rfl) (Below.refl _ _).drew (fun hHeld => ?_)
          obtain ⟨Ua5u0, eW⟩ : ∃ X, X = wr.drew := ⟨_, rfl⟩
          have hb : Below wr.heap.size wr Ua5u0 := by rw [eW]; exact (Below.refl _ _).drew
          replace HS : Hid (QfS W0 (.slice (some ⟨kg, 0, none⟩) KL.length kc) KL (.slice none 0 0) [] (.slice ra R.length rc) (R) Ua5u0) := HS.out.below hb
          rw [← eW] at hHeld ⊢
          clear eW hb
          refine tkW 0 (some 30) (v := ?_) ?_ hHeld ?_
          rotate_left
          · (intro ww hSw; (try dsimp only at hSw); have hr9 := ((hSw.block _ (Nat.lt_of_lt_of_le (row_lt HR2.out) HS0.out.bel.size)).trans (HS0.out.bel.block _ (row_lt HR2.out))).trans HR2.out; obtain ⟨y0, y1, y2, y3, y4, y5⟩ := row6d hr9; go_simp; try with_reducible rfl)
          refine tkW 1 (some 31) (v := ?_) ?_ hHeld ?_
          rotate_left
          · (intro ww _; go_simp; try with_reducible rfl)
          refine tkW 2 (some 32) (v := ?_) ?_ hHeld ?_
          rotate_left
          · (intro ww _; go_simp; try with_reducible rfl)
          refine tkW 3 (some 33) (v := ?_) ?_ hHeld ?_
          rotate_left
          · (intro ww hSw; (try dsimp only at hSw); go_simp; try with_reducible rfl)
          refine tkW 4 (some 34) (v := ?_) ?_ hHeld ?_
          rotate_left
          · (intro ww hSw; (try dsimp only at hSw); have q6 : ww.cell? ⟨kg, i * 2, none⟩ = some (.int .i64 s.1) := (hSw.cell (p := ⟨kg, i * 2, none⟩) Hkc.out.1).trans Hkc.out.2.1; have q7 : ww.cell? ⟨kg, i * 2 + 1, none⟩ = some (.int .i64 s.2) := (hSw.cell (p := ⟨kg, i * 2 + 1, none⟩) Hkc.out.1).trans Hkc.out.2.2; go_simp; try with_reducible rfl)
          refine wpAnyH_ready (rs := [5]) (by kernel_rfl) (by simp) ?_
          refine AllReadyH.cons (o := ⟨some 35, _, _, _, _, _⟩) rfl (fun K hK => ?_) AllReadyH.nil
          go_simp
          refine (in_any _ b s _ _ (HB.out.below HS.out.bel) hsb).mono ?_
          rintro e Ua5u1 ⟨rfl, hb⟩
          rw [Hhb.out]
          have hkp := hHeld.trans (hb.mono hHeld.size)
          replace HS := hide9 (HS.out.below hb)
          clear hb
          (try go_wp2_with fail)
          refine hK.out _ _ (hkp) (fun hHeld2 => ?_)
          clear hK K hHeld
          have hHeld := hHeld2
          clear hHeld2
          (try simp only [Act.put, List.setIfInBounds_toArray, List.set_cons_zero, List.set_cons_succ])
          clear hkp
          refine tkW 6 (some 36) (v := ?_) ?_ hHeld ?_
          rotate_left
          · (intro ww _; go_simp; try with_reducible rfl)
          refine tkW 7 (some 37) (v := ?_) ?_ hHeld ?_
          rotate_left
          · (intro ww _; go_simp; try with_reducible rfl)
          refine tkU 8 (some 38) hHeld ?_
          refine tkU 9 (some 39) hHeld ?_
          refine tkU 10 (some 40) hHeld ?_
          refine tkU 11 (some 41) hHeld ?_
          refine tkU 12 (some 42) hHeld ?_
          refine tkU 13 (some 43) hHeld ?_
          refine tkU 14 (some 44) hHeld ?_
          refine tkW 15 (some 45) (v := ?_) ?_ hHeld ?_
          rotate_left
          · (intro ww _; go_simp; try with_reducible rfl)
          refine wpAnyH_done (by kernel_rfl) ?_ _
          obtain ⟨wA, ewA⟩ : ∃ X, X = Ua5u1 := ⟨_, rfl⟩
          rw [← ewA] at hHeld HS ⊢
          have d0 := (hHeld.cell (p := ⟨kg, i * 2, none⟩) Hkc.out.1).trans Hkc.out.2.1
          have d1 := (hHeld.cell (p := ⟨kg, i * 2 + 1, none⟩) Hkc.out.1).trans Hkc.out.2.2
          clear ewA hHeld HS0 Hkc
          go_wp2_with (at_builtin; refine StpD.to ?_)
          refine StpD.of ?_
          clear d0 d1
          obtain ⟨W4, eW4⟩ : ∃ X, X = wA.alloc (.cells #[.int .i64 1, .int .i64 s.1, .int .i64 s.2, .int .i64 0, .int .i64 0, .int .i64 0, .int .i64 0, .string ⟨#[]⟩, .string ⟨#[]⟩] 45) := ⟨_, rfl⟩
          have hq : W4.heap[wA.heap.size]? = some (.cells (paCells (pK 1 s)).toArray 45) := (by rw [eW4]; exact heap_alloc_new _ _)
          have hb4 : Below wA.heap.size wA W4 := (by rw [eW4]; exact (Below.refl _ _).alloc (Nat.le_refl _) _)
          rw [← eW4]
          replace HS := hide9 (HS.out.below hb4)
          clear eW4 hb4
          refine wpList_app1 rfl _ _ rfl W0.heap.size _ R rfl HS.out.ow wA.heap.size (pK 1 s) rfl hq (Nat.le_trans HRl.out (by decide)) HS.out.bel.size ?_
          intro g c W5 ho hg
          replace HS := hide9 (HS.out.push hg ho)
          clear hq ho hg
          go_wp2
          go_roundw
          case rel => exact ⟨i + 1, _, by go_num, by omega, HS, hide9 (by rw [Htk.out]; unfold tkD; rw [if_pos (.inl Hhb.out)])⟩
          case measure => simp [intOf]; omega
        | true =>
          obtain ⟨st9, est⟩ : ∃ v : Bool, strB a b s = v := ⟨_, rfl⟩
          have Hst := hide9 est
          clear est
          cases st9 with
          | false =>
            have HS0 : Hid (QfS W0 (.slice (some ⟨kg, 0, none⟩) KL.length kc) KL (.slice none 0 0) [] (.slice ra R.length rc) (R) wr) := HS
            refine wp_region_held_drew (S := fun W' => Below wr.heap.size wr W') (by kernel_rfl) (Below.refl _ _).drew (fun hHeld => ?_)
            obtain ⟨Ub6u0, eW⟩ : ∃ X, X = wr.drew := ⟨_, rfl⟩
            have hb : Below wr.heap.size wr Ub6u0 := by rw [eW]; exact (Below.refl _ _).drew
            replace HS : Hid (QfS W0 (.slice (some ⟨kg, 0, none⟩) KL.length kc) KL (.slice none 0 0) [] (.slice ra R.length rc) (R) Ub6u0) := HS.out.below hb
            rw [← eW] at hHeld ⊢
            clear eW hb
            refine tkW 0 (some 30) (v := ?_) ?_ hHeld ?_
            rotate_left
            · (intro ww hSw; (try dsimp only at hSw); have hr9 := ((hSw.block _ (Nat.lt_of_lt_of_le (row_lt HR2.out) HS0.out.bel.size)).trans (HS0.out.bel.block _ (row_lt HR2.out))).trans HR2.out; obtain ⟨y0, y1, y2, y3, y4, y5⟩ := row6d hr9; go_simp; try with_reducible rfl)
            refine tkW 1 (some 31) (v := ?_) ?_ hHeld ?_
            rotate_left
            · (intro ww _; go_simp; try with_reducible rfl)
            refine tkW 2 (some 32) (v := ?_) ?_ hHeld ?_
            rotate_left
            · (intro ww _; go_simp; try with_reducible rfl)
            refine tkW 3 (some 33) (v := ?_) ?_ hHeld ?_
            rotate_left
            · (intro ww hSw; (try dsimp only at hSw); go_simp; try with_reducible rfl)
            refine tkW 4 (some 34) (v := ?_) ?_ hHeld ?_
            rotate_left
            · (intro ww hSw; (try dsimp only at hSw); have q6 : ww.cell? ⟨kg, i * 2, none⟩ = some (.int .i64 s.1) := (hSw.cell (p := ⟨kg, i * 2, none⟩) Hkc.out.1).trans Hkc.out.2.1; have q7 : ww.cell? ⟨kg, i * 2 + 1, none⟩ = some (.int .i64 s.2) := (hSw.cell (p := ⟨kg, i * 2 + 1, none⟩) Hkc.out.1).trans Hkc.out.2.2; go_simp; try with_reducible rfl)
            refine wpAnyH_ready (rs := [5]) (by kernel_rfl) (by simp) ?_
            refine AllReadyH.cons (o := ⟨some 35, _, _, _, _, _⟩) rfl (fun K hK => ?_) AllReadyH.nil
            go_simp
            refine (in_any _ b s _ _ (HB.out.below HS.out.bel) hsb).mono ?_
            rintro e Ub6u1 ⟨rfl, hb⟩
            rw [Hhb.out]
            have hkp := hHeld.trans (hb.mono hHeld.size)
            replace HS := hide9 (HS.out.below hb)
            clear hb
            (try go_wp2_with fail)
            refine hK.out _ _ (hkp) (fun hHeld2 => ?_)
            clear hK K hHeld
            have hHeld := hHeld2
            clear hHeld2
            (try simp only [Act.put, List.setIfInBounds_toArray, List.set_cons_zero, List.set_cons_succ])
            clear hkp
            refine tkW 6 (some 36) (v := ?_) ?_ hHeld ?_
            rotate_left
            · (intro ww _; go_simp; try with_reducible rfl)
            refine tkW 7 (some 37) (v := ?_) ?_ hHeld ?_
            rotate_left
            · (intro ww _; go_simp; try with_reducible rfl)
            refine tkW 8 (some 38) (v := ?_) ?_ hHeld ?_
            rotate_left
            · (intro ww hSw; (try dsimp only at hSw); have hr9 := ((hSw.block _ (Nat.lt_of_lt_of_le (row_lt HR1.out) HS0.out.bel.size)).trans (HS0.out.bel.block _ (row_lt HR1.out))).trans HR1.out; obtain ⟨y0, y1, y2, y3, y4, y5⟩ := row6d hr9; go_simp; try with_reducible rfl)
            refine tkW 9 (some 39) (v := ?_) ?_ hHeld ?_
            rotate_left
            · (intro ww hSw; (try dsimp only at hSw); have hr9 := ((hSw.block _ (Nat.lt_of_lt_of_le (row_lt HR2.out) HS0.out.bel.size)).trans (HS0.out.bel.block _ (row_lt HR2.out))).trans HR2.out; obtain ⟨y0, y1, y2, y3, y4, y5⟩ := row6d hr9; go_simp; try with_reducible rfl)
            refine tkW 10 (some 40) (v := ?_) ?_ hHeld ?_
            rotate_left
            · (intro ww _; go_simp; try with_reducible rfl)
            refine tkW 11 (some 41) (v := ?_) ?_ hHeld ?_
            rotate_left
            · (intro ww _; go_simp; try with_reducible rfl)
            refine tkW 12 (some 42) (v := ?_) ?_ hHeld ?_
            rotate_left
            · (intro ww hSw; (try dsimp only at hSw); go_simp; try with_reducible rfl)
            refine tkW 13 (some 43) (v := ?_) ?_ hHeld ?_
            rotate_left
            · (intro ww hSw; (try dsimp only at hSw); have q6 : ww.cell? ⟨kg, i * 2, none⟩ = some (.int .i64 s.1) := (hSw.cell (p := ⟨kg, i * 2, none⟩) Hkc.out.1).trans Hkc.out.2.1; have q7 : ww.cell? ⟨kg, i * 2 + 1, none⟩ = some (.int .i64 s.2) := (hSw.cell (p := ⟨kg, i * 2 + 1, none⟩) Hkc.out.1).trans Hkc.out.2.2; go_simp; try with_reducible rfl)
            refine wpAnyH_ready (rs := [14]) (by kernel_rfl) (by simp) ?_
            refine AllReadyH.cons (o := ⟨some 44, _, _, _, _, _⟩) rfl (fun K hK => ?_) AllReadyH.nil
            go_simp
            refine (strange_any _ _ a b s _ _ _ (HA.out.below HS.out.bel) (HB.out.below HS.out.bel) hsa hsb).mono ?_
            rintro e Ub6u2 ⟨rfl, hb⟩
            rw [Hst.out]
            have hkp := hHeld.trans (hb.mono hHeld.size)
            replace HS := hide9 (HS.out.below hb)
            clear hb
            (try go_wp2_with fail)
            refine hK.out _ _ (hkp) (fun hHeld2 => ?_)
            clear hK K hHeld
            have hHeld := hHeld2
            clear hHeld2
            (try simp only [Act.put, List.setIfInBounds_toArray, List.set_cons_zero, List.set_cons_succ])
            clear hkp
            refine tkW 15 (some 45) (v := ?_) ?_ hHeld ?_
            rotate_left
            · (intro ww _; go_simp; try with_reducible rfl)
            refine wpAnyH_done (by kernel_rfl) ?_ _
            clear hHeld HS0 Hkc
            go_wp2
            go_roundw
            case rel => exact ⟨i + 1, _, by go_num, by omega, HS, hide9 (by rw [Htk.out]; unfold tkD; rw [if_neg (by rw [Hhb.out, Hst.out]; simp), List.append_nil])⟩
            case measure => simp [intOf]; omega
          | true =>
            have HS0 : Hid (QfS W0 (.slice (some ⟨kg, 0, none⟩) KL.length kc) KL (.slice none 0 0) [] (.slice ra R.length rc) (R) wr) := HS
            refine wp_region_held_drew (S := fun W' => Below wr.heap.size wr W') (by kernel_rfl) (Below.refl _ _).drew (fun hHeld => ?_)
            obtain ⟨Uc7u0, eW⟩ : ∃ X, X = wr.drew := ⟨_, rfl⟩
            have hb : Below wr.heap.size wr Uc7u0 := by rw [eW]; exact (Below.refl _ _).drew
            replace HS : Hid (QfS W0 (.slice (some ⟨kg, 0, none⟩) KL.length kc) KL (.slice none 0 0) [] (.slice ra R.length rc) (R) Uc7u0) := HS.out.below hb
            rw [← eW] at hHeld ⊢
            clear eW hb
            refine tkW 0 (some 30) (v := ?_) ?_ hHeld ?_
            rotate_left
            · (intro ww hSw; (try dsimp only at hSw); have hr9 := ((hSw.block _ (Nat.lt_of_lt_of_le (row_lt HR2.out) HS0.out.bel.size)).trans (HS0.out.bel.block _ (row_lt HR2.out))).trans HR2.out; obtain ⟨y0, y1, y2, y3, y4, y5⟩ := row6d hr9; go_simp; try with_reducible rfl)
            refine tkW 1 (some 31) (v := ?_) ?_ hHeld ?_
            rotate_left
            · (intro ww _; go_simp; try with_reducible rfl)
            refine tkW 2 (some 32) (v := ?_) ?_ hHeld ?_
            rotate_left
            · (intro ww _; go_simp; try with_reducible rfl)
            refine tkW 3 (some 33) (v := ?_) ?_ hHeld ?_
            rotate_left
            · (intro ww hSw; (try dsimp only at hSw); go_simp; try with_reducible rfl)
            refine tkW 4 (some 34) (v := ?_) ?_ hHeld ?_
            rotate_left
            · (intro ww hSw; (try dsimp only at hSw); have q6 : ww.cell? ⟨kg, i * 2, none⟩ = some (.int .i64 s.1) := (hSw.cell (p := ⟨kg, i * 2, none⟩) Hkc.out.1).trans Hkc.out.2.1; have q7 : ww.cell? ⟨kg, i * 2 + 1, none⟩ = some (.int .i64 s.2) := (hSw.cell (p := ⟨kg, i * 2 + 1, none⟩) Hkc.out.1).trans Hkc.out.2.2; go_simp; try with_reducible rfl)
            refine wpAnyH_ready (rs := [5]) (by kernel_rfl) (by simp) ?_
            refine AllReadyH.cons (o := ⟨some 35, _, _, _, _, _⟩) rfl (fun K hK => ?_) AllReadyH.nil
            go_simp
            refine (in_any _ b s _ _ (HB.out.below HS.out.bel) hsb).mono ?_
            rintro e Uc7u1 ⟨rfl, hb⟩
            rw [Hhb.out]
            have hkp := hHeld.trans (hb.mono hHeld.size)
            replace HS := hide9 (HS.out.below hb)
            clear hb
            (try go_wp2_with fail)
            refine hK.out _ _ (hkp) (fun hHeld2 => ?_)
            clear hK K hHeld
            have hHeld := hHeld2
            clear hHeld2
            (try simp only [Act.put, List.setIfInBounds_toArray, List.set_cons_zero, List.set_cons_succ])
            clear hkp
            refine tkW 6 (some 36) (v := ?_) ?_ hHeld ?_
            rotate_left
            · (intro ww _; go_simp; try with_reducible rfl)
            refine tkW 7 (some 37) (v := ?_) ?_ hHeld ?_
            rotate_left
            · (intro ww _; go_simp; try with_reducible rfl)
            refine tkW 8 (some 38) (v := ?_) ?_ hHeld ?_
            rotate_left
            · (intro ww hSw; (try dsimp only at hSw); have hr9 := ((hSw.block _ (Nat.lt_of_lt_of_le (row_lt HR1.out) HS0.out.bel.size)).trans (HS0.out.bel.block _ (row_lt HR1.out))).trans HR1.out; obtain ⟨y0, y1, y2, y3, y4, y5⟩ := row6d hr9; go_simp; try with_reducible rfl)
            refine tkW 9 (some 39) (v := ?_) ?_ hHeld ?_
            rotate_left
            · (intro ww hSw; (try dsimp only at hSw); have hr9 := ((hSw.block _ (Nat.lt_of_lt_of_le (row_lt HR2.out) HS0.out.bel.size)).trans (HS0.out.bel.block _ (row_lt HR2.out))).trans HR2.out; obtain ⟨y0, y1, y2, y3, y4, y5⟩ := row6d hr9; go_simp; try with_reducible rfl)
            refine tkW 10 (some 40) (v := ?_) ?_ hHeld ?_
            rotate_left
            · (intro ww _; go_simp; try with_reducible rfl)
            refine tkW 11 (some 41) (v := ?_) ?_ hHeld ?_
            rotate_left
            · (intro ww _; go_simp; try with_reducible rfl)
            refine tkW 12 (some 42) (v := ?_) ?_ hHeld ?_
            rotate_left
            · (intro ww hSw; (try dsimp only at hSw); go_simp; try with_reducible rfl)
            refine tkW 13 (some 43) (v := ?_) ?_ hHeld ?_
            rotate_left
            · (intro ww hSw; (try dsimp only at hSw); have q6 : ww.cell? ⟨kg, i * 2, none⟩ = some (.int .i64 s.1) := (hSw.cell (p := ⟨kg, i * 2, none⟩) Hkc.out.1).trans Hkc.out.2.1; have q7 : ww.cell? ⟨kg, i * 2 + 1, none⟩ = some (.int .i64 s.2) := (hSw.cell (p := ⟨kg, i * 2 + 1, none⟩) Hkc.out.1).trans Hkc.out.2.2; go_simp; try with_reducible rfl)
            refine wpAnyH_ready (rs := [14]) (by kernel_rfl) (by simp) ?_
            refine AllReadyH.cons (o := ⟨some 44, _, _, _, _, _⟩) rfl (fun K hK => ?_) AllReadyH.nil
            go_simp
            refine (strange_any _ _ a b s _ _ _ (HA.out.below HS.out.bel) (HB.out.below HS.out.bel) hsa hsb).mono ?_
            rintro e Uc7u2 ⟨rfl, hb⟩
            rw [Hst.out]
            have hkp := hHeld.trans (hb.mono hHeld.size)
            replace HS := hide9 (HS.out.below hb)
            clear hb
            (try go_wp2_with fail)
            refine hK.out _ _ (hkp) (fun hHeld2 => ?_)
            clear hK K hHeld
            have hHeld := hHeld2
            clear hHeld2
            (try simp only [Act.put, List.setIfInBounds_toArray, List.set_cons_zero, List.set_cons_succ])
            clear hkp
            refine tkW 15 (some 45) (v := ?_) ?_ hHeld ?_
            rotate_left
            · (intro ww _; go_simp; try with_reducible rfl)
            refine wpAnyH_done (by kernel_rfl) ?_ _
            obtain ⟨wA, ewA⟩ : ∃ X, X = Uc7u2 := ⟨_, rfl⟩
            rw [← ewA] at hHeld HS ⊢
            have d0 := (hHeld.cell (p := ⟨kg, i * 2, none⟩) Hkc.out.1).trans Hkc.out.2.1
            have d1 := (hHeld.cell (p := ⟨kg, i * 2 + 1, none⟩) Hkc.out.1).trans Hkc.out.2.2
            clear ewA hHeld HS0 Hkc
            go_wp2_with (at_builtin; refine StpD.to ?_)
            refine StpD.of ?_
            clear d0 d1
            obtain ⟨W4, eW4⟩ : ∃ X, X = wA.alloc (.cells #[.int .i64 1, .int .i64 s.1, .int .i64 s.2, .int .i64 0, .int .i64 0, .int .i64 0, .int .i64 0, .string ⟨#[]⟩, .string ⟨#[]⟩] 45) := ⟨_, rfl⟩
            have hq : W4.heap[wA.heap.size]? = some (.cells (paCells (pK 1 s)).toArray 45) := (by rw [eW4]; exact heap_alloc_new _ _)
            have hb4 : Below wA.heap.size wA W4 := (by rw [eW4]; exact (Below.refl _ _).alloc (Nat.le_refl _) _)
            rw [← eW4]
            replace HS := hide9 (HS.out.below hb4)
            clear eW4 hb4
            refine wpList_app1 rfl _ _ rfl W0.heap.size _ R rfl HS.out.ow wA.heap.size (pK 1 s) rfl hq (Nat.le_trans HRl.out (by decide)) HS.out.bel.size ?_
            intro g c W5 ho hg
            replace HS := hide9 (HS.out.push hg ho)
            clear hq ho hg
            go_wp2
            go_roundw
            case rel => exact ⟨i + 1, _, by go_num, by omega, HS, hide9 (by rw [Htk.out]; unfold tkD; rw [if_pos (.inr Hst.out)])⟩
            case measure => simp [intOf]; omega
      · have k1 : ¬ (i : Int) < (KL.length : Int) := by omega
        have hR1 : R = KL.flatMap (tkD a b) := (by rw [HRe.out, List.take_of_length_le (by omega)])
        have HR1e := hide9 hR1
        clear hR1 HRe
        obtain ⟨R1, eR1⟩ : ∃ r, r = R := ⟨_, rfl⟩
        rw [← eR1] at HS HR1e HRl ⊢
        clear eR1
        go_wp2
        go_loopw [6, 9] (fun v iv wr => ∃ (i : Nat) (R : List Pa), iv = .int .i64 (i : Int) ∧ i ≤ KL.length ∧ Hid (QfS W0 (.slice ka KL.length kc) KL (.slice none 0 0) [] v (R) wr) ∧ Hid (R = R1 ++ (KL.take i).flatMap (dpD b))) (fun _ iv _ => KL.length - (intOf iv).toNat)
        case atStart => exact ⟨0, R1, rfl, Nat.zero_le _, HS, hide9 (by simp)⟩
        case round =>
          clear HS
          obtain ⟨i, R, rfl, hi, HS, HRe⟩ := hrel
          obtain ⟨ra, rc, e1⟩ := OwnE.form HS.out.ow
          subst e1
          have HRl2 : Hid (R.length ≤ 4194304) := (by have h1 := flat_le (dpD_len b) (KL.take i); rw [List.length_take] at h1; have h2 := HRl.out; show _ ≤ _; rw [HRe.out, List.length_append]; omega)
          by_cases hlt : i < KL.length
          · obtain ⟨kg, kcp, ek, _, hkc, _⟩ := OwnE.cells stCells_len HS.out.ks hlt
            injection ek with ek1 ek2 ek3
            subst ek1 ek3
            clear ek2
            obtain ⟨s, es⟩ : ∃ s, s = KL[i] := ⟨_, rfl⟩
            have hc0 := hkc 0 _ rfl
            have hc1 := hkc 1 _ rfl
            rw [Nat.add_zero] at hc0
            rw [← es] at hc0 hc1
            have Hkc : Hid (kg < wr.heap.size ∧ wr.cell? ⟨kg, i * 2, none⟩ = some (.int .i64 s.1) ∧ wr.cell? ⟨kg, i * 2 + 1, none⟩ = some (.int .i64 s.2)) := ⟨cell_lt (p := ⟨kg, i * 2, none⟩) hc0, hc0, hc1⟩
            clear hkc hc0 hc1
            have k1 : (i : Int) < (KL.length : Int) := by omega
            have k0 : (0 : Int) ≤ (i : Int) := by omega
            obtain ⟨hb9, ehb⟩ : ∃ v : Bool, hasT b s = v := ⟨_, rfl⟩
            have Hhb := hide9 ehb
            clear ehb
            have Htk : Hid (R1 ++ (KL.take (i + 1)).flatMap (dpD b) = R ++ dpD b s) := (by show _ = _; rw [flat_take hlt, ← List.append_assoc, ← HRe.out, ← es])
            clear es
            go_upto_region 13 with fail
            cases hb9 with
            | false =>
              have HS0 : Hid (QfS W0 (.slice (some ⟨kg, 0, none⟩) KL.length kc) KL (.slice none 0 0) [] (.slice ra R.length rc) (R) wr) := HS
              refine wp_region_held_drew (S := fun W' => Below wr.heap.size wr W') (by kernel_rfl) (Below.refl _ _).drew (fun hHeld => ?_)
              obtain ⟨Ua3u0, eW⟩ : ∃ X, X = wr.drew := ⟨_, rfl⟩
              have hb : Below wr.heap.size wr Ua3u0 := by rw [eW]; exact (Below.refl _ _).drew
              replace HS : Hid (QfS W0 (.slice (some ⟨kg, 0, none⟩) KL.length kc) KL (.slice none 0 0) [] (.slice ra R.length rc) (R) Ua3u0) := HS.out.below hb
              rw [← eW] at hHeld ⊢
              clear eW hb
              refine tkW 0 (some 60) (v := ?_) ?_ hHeld ?_
              rotate_left
              · (intro ww hSw; (try dsimp only at hSw); have hr9 := ((hSw.block _ (Nat.lt_of_lt_of_le (row_lt HR2.out) HS0.out.bel.size)).trans (HS0.out.bel.block _ (row_lt HR2.out))).trans HR2.out; obtain ⟨y0, y1, y2, y3, y4, y5⟩ := row6d hr9; go_simp; try with_reducible rfl)
              refine tkW 1 (some 61) (v := ?_) ?_ hHeld ?_
              rotate_left
              · (intro ww _; go_simp; try with_reducible rfl)
              refine tkW 2 (some 62) (v := ?_) ?_ hHeld ?_
              rotate_left
              · (intro ww _; go_simp; try with_reducible rfl)
              refine tkW 3 (some 63) (v := ?_) ?_ hHeld ?_
              rotate_left
              · (intro ww hSw; (try dsimp only at hSw); go_simp; try with_reducible rfl)
              refine tkW 4 (some 64) (v := ?_) ?_ hHeld ?_
              rotate_left
              · (intro ww hSw; (try dsimp only at hSw); have q6 : ww.cell? ⟨kg, i * 2, none⟩ = some (.int .i64 s.1) := (hSw.cell (p := ⟨kg, i * 2, none⟩) Hkc.out.1).trans Hkc.out.2.1; have q7 : ww.cell? ⟨kg, i * 2 + 1, none⟩ = some (.int .i64 s.2) := (hSw.cell (p := ⟨kg, i * 2 + 1, none⟩) Hkc.out.1).trans Hkc.out.2.2; go_simp; try with_reducible rfl)
              refine wpAnyH_ready (rs := [5]) (by kernel_rfl) (by simp) ?_
              refine AllReadyH.cons (o := ⟨some 65, _, _, _, _, _⟩) rfl (fun K hK => ?_) AllReadyH.nil
              go_simp
              refine (in_any _ b s _ _ (HB.out.below HS.out.bel) hsb).mono ?_
              rintro e Ua3u1 ⟨rfl, hb⟩
              rw [Hhb.out]
              have hkp := hHeld.trans (hb.mono hHeld.size)
              replace HS := hide9 (HS.out.below hb)
              clear hb
              (try go_wp2_with fail)
              refine hK.out _ _ (hkp) (fun hHeld2 => ?_)
              clear hK K hHeld
              have hHeld := hHeld2
              clear hHeld2
              (try simp only [Act.put, List.setIfInBounds_toArray, List.set_cons_zero, List.set_cons_succ])
              clear hkp
              refine tkW 6 (some 66) (v := ?_) ?_ hHeld ?_
              rotate_left
              · (intro ww _; go_simp; try with_reducible rfl)
              refine wpAnyH_done (by kernel_rfl) ?_ _
              obtain ⟨wA, ewA⟩ : ∃ X, X = Ua3u1 := ⟨_, rfl⟩
              rw [← ewA] at hHeld HS ⊢
              have d0 := (hHeld.cell (p := ⟨kg, i * 2, none⟩) Hkc.out.1).trans Hkc.out.2.1
              have d1 := (hHeld.cell (p := ⟨kg, i * 2 + 1, none⟩) Hkc.out.1).trans Hkc.out.2.2
              clear ewA hHeld HS0 Hkc
              go_wp2_with (at_builtin; refine StpD.to ?_)
              refine StpD.of ?_
              clear d0 d1
              obtain ⟨W4, eW4⟩ : ∃ X, X = wA.alloc (.cells #[.int .i64 2, .int .i64 s.1, .int .i64 s.2, .int .i64 0, .int .i64 0, .int .i64 0, .int .i64 0, .string ⟨#[]⟩, .string ⟨#[]⟩] 45) := ⟨_, rfl⟩
              have hq : W4.heap[wA.heap.size]? = some (.cells (paCells (pK 2 s)).toArray 45) := (by rw [eW4]; exact heap_alloc_new _ _)
              have hb4 : Below wA.heap.size wA W4 := (by rw [eW4]; exact (Below.refl _ _).alloc (Nat.le_refl _) _)
              rw [← eW4]
              replace HS := hide9 (HS.out.below hb4)
              clear eW4 hb4
              refine wpList_app1 rfl _ _ rfl W0.heap.size _ R rfl HS.out.ow wA.heap.size (pK 2 s) rfl hq (Nat.le_trans HRl2.out (by decide)) HS.out.bel.size ?_
              intro g c W5 ho hg
              replace HS := hide9 (HS.out.push hg ho)
              clear hq ho hg
              go_wp2
              go_roundw
              case rel => exact ⟨i + 1, _, by go_num, by omega, HS, hide9 (by rw [Htk.out]; unfold dpD; rw [if_pos Hhb.out])⟩
              case measure => simp [intOf]; omega
            | true =>
              have HS0 : Hid (QfS W0 (.slice (some ⟨kg, 0, none⟩) KL.length kc) KL (.slice none 0 0) [] (.slice ra R.length rc) (R) wr) := HS
              refine wp_region_held_drew (S := fun W' => Below wr.heap.size wr W') (by kernel_rfl) (Below.refl _ _).drew (fun hHeld => ?_)
              obtain ⟨Ub4u0, eW⟩ : ∃ X, X = wr.drew := ⟨_, rfl⟩
              have hb : Below wr.heap.size wr Ub4u0 := by rw [eW]; exact (Below.refl _ _).drew
              replace HS : Hid (QfS W0 (.slice (some ⟨kg, 0, none⟩) KL.length kc) KL (.slice none 0 0) [] (.slice ra R.length rc) (R) Ub4u0) := HS.out.below hb
              rw [← eW] at hHeld ⊢
              clear eW hb
              refine tkW 0 (some 60) (v := ?_) ?_ hHeld ?_
              rotate_left
              · (intro ww hSw; (try dsimp only at hSw); have hr9 := ((hSw.block _ (Nat.lt_of_lt_of_le (row_lt HR2.out) HS0.out.bel.size)).trans (HS0.out.bel.block _ (row_lt HR2.out))).trans HR2.out; obtain ⟨y0, y1, y2, y3, y4, y5⟩ := row6d hr9; go_simp; try with_reducible rfl)
              refine tkW 1 (some 61) (v := ?_) ?_ hHeld ?_
              rotate_left
              · (intro ww _; go_simp; try with_reducible rfl)
              refine tkW 2 (some 62) (v := ?_) ?_ hHeld ?_
              rotate_left
              · (intro ww _; go_simp; try with_reducible rfl)
              refine tkW 3 (some 63) (v := ?_) ?_ hHeld ?_
              rotate_left
              · (intro ww hSw; (try dsimp only at hSw); go_simp; try with_reducible rfl)
              refine tkW 4 (some 64) (v := ?_) ?_ hHeld ?_
              rotate_left
              · (intro ww hSw; (try dsimp only at hSw); have q6 : ww.cell? ⟨kg, i * 2, none⟩ = some (.int .i64 s.1) := (hSw.cell (p := ⟨kg, i * 2, none⟩) Hkc.out.1).trans Hkc.out.2.1; have q7 : ww.cell? ⟨kg, i * 2 + 1, none⟩ = some (.int .i64 s.2) := (hSw.cell (p := ⟨kg, i * 2 + 1, none⟩) Hkc.out.1).trans Hkc.out.2.2; go_simp; try with_reducible rfl)
              refine wpAnyH_ready (rs := [5]) (by kernel_rfl) (by simp) ?_
              refine AllReadyH.cons (o := ⟨some 65, _, _, _, _, _⟩) rfl (fun K hK => ?_) AllReadyH.nil
              go_simp
              refine (in_any _ b s _ _ (HB.out.below HS.out.bel) hsb).mono ?_
              rintro e Ub4u1 ⟨rfl, hb⟩
              rw [Hhb.out]
              have hkp := hHeld.trans (hb.mono hHeld.size)
              replace HS := hide9 (HS.out.below hb)
              clear hb
              (try go_wp2_with fail)
              refine hK.out _ _ (hkp) (fun hHeld2 => ?_)
              clear hK K hHeld
              have hHeld := hHeld2
              clear hHeld2
              (try simp only [Act.put, List.setIfInBounds_toArray, List.set_cons_zero, List.set_cons_succ])
              clear hkp
              refine tkW 6 (some 66) (v := ?_) ?_ hHeld ?_
              rotate_left
              · (intro ww _; go_simp; try with_reducible rfl)
              refine wpAnyH_done (by kernel_rfl) ?_ _
              clear hHeld HS0 Hkc
              go_wp2
              go_roundw
              case rel => exact ⟨i + 1, _, by go_num, by omega, HS, hide9 (by rw [Htk.out]; unfold dpD; rw [if_neg (by rw [Hhb.out]; simp), List.append_nil])⟩
              case measure => simp [intOf]; omega
          · have k1 : ¬ (i : Int) < (KL.length : Int) := by omega
            have hR2 : R = KL.flatMap (tkD a b) ++ KL.flatMap (dpD b) := (by rw [HRe.out, List.take_of_length_le (by omega), HR1e.out])
            have HR2e := hide9 hR2
            clear hR2 HRe
            obtain ⟨R2, eR2⟩ : ∃ r, r = R := ⟨_, rfl⟩
            rw [← eR2] at HS HR2e HRl2 ⊢
            clear eR2
            have hr2 := (HS.out.bel.block _ (row_lt HR2.out)).trans HR2.out
            obtain ⟨z0, z1, z2, z3, z4, z5⟩ := row6d hr2
            clear hr2
            go_wp2_with fail
            clear z0 z1 z2 z3 z4 z5
            refine (flatN_any W0.heap.size b _ _ HS.out.bel.size ((HB.out.below HS.out.bel).turn (Nat.le_refl _) fun k q _ => ⟨Nat.lt_of_lt_of_le q HL.out.size, rfl⟩) hsb).mono ?_
            rintro e w5 ⟨nv, E, rfl, hE, hEm, hEf, hb5⟩
            obtain ⟨la, lc, e1⟩ := OwnE.form hE
            subst e1
            have HEm := hide9 hEm
            have hel9 : E.length ≤ 1048576 := (by have h9 := congrArg List.length hEm; rw [List.length_map, flT_len] at h9; omega)
            have HQl : Hid ((R2 ++ (flT b).flatMap (nodD a b)).length ≤ 1048576000) := (by have h9 := ofD_len Hw.out; show _ ≤ _; rw [HR2e.out, HKe.out]; exact h9)
            have HS5 : Hid (QfS W0 (.slice ka KL.length kc) KL (.slice la E.length lc) E (.slice ra R2.length rc) (R2) w5) := ⟨OwnE.below HS.out.ow hb5, OwnE.below HS.out.ks hb5, OwnE.low hE (Nat.le_refl _), hEf, HS.out.bel.trans (hb5.mono HS.out.bel.size)⟩
            have HS := HS5
            clear HS5 hE hEm hEf hb5
            go_wp2
            go_loopw [6, 11] (fun v iv wr => ∃ (i : Nat) (R : List Pa), iv = .int .i64 (i : Int) ∧ i ≤ E.length ∧ Hid (QfS W0 (.slice ka KL.length kc) KL (.slice la E.length lc) E v (R) wr) ∧ Hid (R = R2 ++ ((flT b).take i).flatMap (nodD a b))) (fun _ iv _ => E.length - (intOf iv).toNat)
            case atStart => exact ⟨0, R2, rfl, Nat.zero_le _, HS, hide9 (by simp)⟩
            case round =>
              clear HS
              obtain ⟨i, R, rfl, hi, HS, HRe⟩ := hrel
              obtain ⟨ra, rc, e1⟩ := OwnE.form HS.out.ow
              subst e1
              by_cases hlt : i < E.length
              · obtain ⟨gl, cpl, egl, _, hcl, _⟩ := OwnE.cells vnC_len HS.out.ns hlt
                injection egl with el1 e91 e92
                subst el1 e92
                clear e91
                have hif : i < (flT b).length := (by rw [← HEm.out, List.length_map]; exact hlt)
                have hnx : (flT b)[i] = E[i].1 := (by simp only [← HEm.out, List.getElem_map])
                have htk := flat_takeV (f := nodD a b) hif
                have hqt := flat_leV (nodD a b) (flT b) (i + 1)
                obtain ⟨nx, enx⟩ : ∃ y, y = E[i] := ⟨_, rfl⟩
                have hfn := HS.out.fs _ (List.getElem_mem hlt)
                have hnm : E[i].1 ∈ flT b := hnx ▸ List.getElem_mem hif
                rw [hnx] at htk
                have p0 := hcl 0 _ rfl
                have p1 := hcl 1 _ rfl
                have p2 := hcl 2 _ rfl
                have p3 := hcl 3 _ rfl
                have p4 := hcl 4 _ rfl
                have p5 := hcl 5 _ rfl
                rw [← enx] at hfn hnm htk p0 p1 p2 p3 p4 p5
                obtain ⟨n, nav, nkv⟩ := nx
                obtain ⟨na, nc, e1⟩ := hfn.at_.form
                obtain ⟨nk, nd, e2⟩ := hfn.ks.form
                dsimp only at e1 e2 hfn hnm htk p0 p1 p2 p3 p4 p5
                subst e1 e2
                have HXc : Hid (gl < wr.heap.size ∧ wr.cell? ⟨gl, i * 6, none⟩ = some (.int .i64 n.k.1) ∧ wr.cell? ⟨gl, i * 6 + 1, none⟩ = some (.int .i64 n.k.2) ∧ wr.cell? ⟨gl, i * 6 + 2, none⟩ = some (.string n.tg) ∧ wr.cell? ⟨gl, i * 6 + 3, none⟩ = some (.string n.tx) ∧ wr.cell? ⟨gl, i * 6 + 4, none⟩ = some (.slice na n.at_.length nc) ∧ wr.cell? ⟨gl, i * 6 + 5, none⟩ = some (.slice nk n.ks.length nd)) := ⟨cell_lt (p := ⟨gl, i * 6 + 1, none⟩) p1, p0, p1, p2, p3, p4, p5⟩
                obtain ⟨q1, q2, q3, q4, q5, q6, q7⟩ := nod_facts Hw.out hnm
                have HNf : Hid (FdIs (fun k => k < W0.heap.size) wr (.slice na n.at_.length nc) (.slice nk n.ks.length nd) n.at_ n.ks) := hfn
                have Hnf := hide9 (And.intro q1 (And.intro q2 (And.intro q3 (And.intro q4 (And.intro q5 (And.intro q6 q7))))))
                have hns : n.sz ≤ 1048576 := Nat.le_trans q1 hsb
                have Hns := hide9 hns
                have Htk : Hid (R2 ++ ((flT b).take (i + 1)).flatMap (nodD a b) = (R ++ ownD (hasT a n.k) (wasT a n.k) n) ++ kdL a b (shD a b n) n.k (0, 0) n.ks) := (by show _ = _; rw [htk, ← List.append_assoc, ← HRe.out]; unfold nodD; rw [List.append_assoc])
                have HQi : Hid (((R ++ ownD (hasT a n.k) (wasT a n.k) n) ++ kdL a b (shD a b n) n.k (0, 0) n.ks).length ≤ 1048576000) := (by show _ ≤ _; rw [← Htk.out, List.length_append]; have h9 := HQl.out; rw [List.length_append] at h9; omega)
                clear hcl hif hnx htk hqt enx hfn hnm p0 p1 p2 p3 p4 p5 q1 q2 q3 q4 q5 q6 q7 hns
                have k1 : (i : Int) < (E.length : Int) := by omega
                have k0 : (0 : Int) ≤ (i : Int) := by omega
                go_upto_region 19 with fail
                have HS0 : Hid (QfS W0 (.slice ka KL.length kc) KL (.slice (some ⟨gl, 0, none⟩) E.length lc) E (.slice ra R.length rc) (R) wr) := HS
                refine wp_region_held_drew (S := fun W' => Below wr.heap.size wr W') (by kernel_rfl) (Below.refl _ _).drew (fun hHeld => ?_)
                obtain ⟨Uo1u0, eW⟩ : ∃ X, X = wr.drew := ⟨_, rfl⟩
                have hb : Below wr.heap.size wr Uo1u0 := by rw [eW]; exact (Below.refl _ _).drew
                replace HS : Hid (QfS W0 (.slice ka KL.length kc) KL (.slice (some ⟨gl, 0, none⟩) E.length lc) E (.slice ra R.length rc) (R) Uo1u0) := HS.out.below hb
                rw [← eW] at hHeld ⊢
                clear eW hb
                refine tkW 0 (some 83) (v := ?_) ?_ hHeld ?_
                rotate_left
                · (intro ww hSw; (try dsimp only at hSw); have hr9 := ((hSw.block _ (Nat.lt_of_lt_of_le (row_lt HR1.out) HS0.out.bel.size)).trans (HS0.out.bel.block _ (row_lt HR1.out))).trans HR1.out; obtain ⟨y0, y1, y2, y3, y4, y5⟩ := row6d hr9; go_simp; try with_reducible rfl)
                refine tkW 1 (some 84) (v := ?_) ?_ hHeld ?_
                rotate_left
                · (intro ww _; go_simp; try with_reducible rfl)
                refine tkW 2 (some 85) (v := ?_) ?_ hHeld ?_
                rotate_left
                · (intro ww _; go_simp; try with_reducible rfl)
                refine tkW 3 (some 86) (v := ?_) ?_ hHeld ?_
                rotate_left
                · (intro ww hSw; (try dsimp only at hSw); go_simp; try with_reducible rfl)
                refine tkW 4 (some 87) (v := ?_) ?_ hHeld ?_
                rotate_left
                · (intro ww hSw; (try dsimp only at hSw); have q0 := (hSw.cell (p := ⟨gl, i * 6, none⟩) HXc.out.1).trans HXc.out.2.1; have q1 := (hSw.cell (p := ⟨gl, i * 6 + 1, none⟩) HXc.out.1).trans HXc.out.2.2.1; have q2 := (hSw.cell (p := ⟨gl, i * 6 + 2, none⟩) HXc.out.1).trans HXc.out.2.2.2.1; have q3 := (hSw.cell (p := ⟨gl, i * 6 + 3, none⟩) HXc.out.1).trans HXc.out.2.2.2.2.1; have q4 := (hSw.cell (p := ⟨gl, i * 6 + 4, none⟩) HXc.out.1).trans HXc.out.2.2.2.2.2.1; have q5 := (hSw.cell (p := ⟨gl, i * 6 + 5, none⟩) HXc.out.1).trans HXc.out.2.2.2.2.2.2; go_simp; try with_reducible rfl)
                refine wpAnyH_ready (rs := [5]) (by kernel_rfl) (by simp) ?_
                refine AllReadyH.cons (o := ⟨some 88, _, _, _, _, _⟩) rfl (fun K hK => ?_) AllReadyH.nil
                go_simp
                refine (ownD_any _ _ a n _ _ _ (HA.out.below HS.out.bel) (VIs.of (HNf.out.below hHeld)) hsa Hnf.out.2.2.1 Hnf.out.2.1).mono ?_
                rintro e Uo1u1 ⟨ov, rfl, ho, hb⟩
                obtain ⟨oa, oc, eo⟩ := OwnE.form ho
                subst eo
                have HO : Hid (OwnPa 0 Uo1u1 (.slice oa (ownD (hasT a n.k) (wasT a n.k) n).length oc) (ownD (hasT a n.k) (wasT a n.k) n)) := OwnE.low ho (Nat.zero_le _)
                have hkp := hHeld.trans (hb.mono hHeld.size)
                replace HS := hide9 (HS.out.below hb)
                clear ho hb
                (try go_wp2_with fail)
                refine hK.out _ _ (hkp) (fun hHeld2 => ?_)
                clear hK K hHeld
                have hHeld := hHeld2
                clear hHeld2
                (try simp only [Act.put, List.setIfInBounds_toArray, List.set_cons_zero, List.set_cons_succ])
                clear hkp
                refine tkW 6 (some 12) (v := ?_) ?_ hHeld ?_
                rotate_left
                · (intro ww _; go_simp; try with_reducible rfl)
                refine wpAnyH_done (by kernel_rfl) ?_ _
                obtain ⟨wA, ewA⟩ : ∃ X, X = Uo1u1 := ⟨_, rfl⟩
                rw [← ewA] at hHeld HS HO ⊢
                clear ewA HS0
                replace HXc : Hid (gl < wA.heap.size ∧ wA.cell? ⟨gl, i * 6, none⟩ = some (.int .i64 n.k.1) ∧ wA.cell? ⟨gl, i * 6 + 1, none⟩ = some (.int .i64 n.k.2) ∧ wA.cell? ⟨gl, i * 6 + 2, none⟩ = some (.string n.tg) ∧ wA.cell? ⟨gl, i * 6 + 3, none⟩ = some (.string n.tx) ∧ wA.cell? ⟨gl, i * 6 + 4, none⟩ = some (.slice na n.at_.length nc) ∧ wA.cell? ⟨gl, i * 6 + 5, none⟩ = some (.slice nk n.ks.length nd)) := ⟨Nat.lt_of_lt_of_le HXc.out.1 hHeld.size, (hHeld.cell (p := ⟨gl, i * 6, none⟩) HXc.out.1).trans HXc.out.2.1, (hHeld.cell (p := ⟨gl, i * 6 + 1, none⟩) HXc.out.1).trans HXc.out.2.2.1, (hHeld.cell (p := ⟨gl, i * 6 + 2, none⟩) HXc.out.1).trans HXc.out.2.2.2.1, (hHeld.cell (p := ⟨gl, i * 6 + 3, none⟩) HXc.out.1).trans HXc.out.2.2.2.2.1, (hHeld.cell (p := ⟨gl, i * 6 + 4, none⟩) HXc.out.1).trans HXc.out.2.2.2.2.2.1, (hHeld.cell (p := ⟨gl, i * 6 + 5, none⟩) HXc.out.1).trans HXc.out.2.2.2.2.2.2⟩
                replace HNf := hide9 (HNf.out.below hHeld)
                clear hHeld
                obtain ⟨OL, eOL⟩ : ∃ l, l = ownD (hasT a n.k) (wasT a n.k) n := ⟨_, rfl⟩
                rw [← eOL] at HO Htk HQi Hnf ⊢
                clear eOL
                go_wp2_with (at_builtin; refine StpD.to ?_)
                refine StpD.of ?_
                refine wpList_appPs rfl _ _ rfl W0.heap.size _ (.slice oa OL.length oc) R OL rfl HS.out.ow rfl (OwnE.lsE (G := fun _ => True) pzLen HO.out Hnf.out.2.2.2.2.2.2 (fun _ _ => trivial)) (by have h9 := HQi.out; rw [List.length_append, List.length_append] at h9; omega) HS.out.bel.size ?_
                intro v2 wB ho hg
                obtain ⟨R3, eR3⟩ : ∃ l, l = R ++ OL := ⟨_, rfl⟩
                rw [← eR3] at ho Htk HQi
                obtain ⟨ra3, rc3, e3⟩ := OwnE.form ho
                subst e3
                replace HXc : Hid (gl < wB.heap.size ∧ wB.cell? ⟨gl, i * 6, none⟩ = some (.int .i64 n.k.1) ∧ wB.cell? ⟨gl, i * 6 + 1, none⟩ = some (.int .i64 n.k.2) ∧ wB.cell? ⟨gl, i * 6 + 2, none⟩ = some (.string n.tg) ∧ wB.cell? ⟨gl, i * 6 + 3, none⟩ = some (.string n.tx) ∧ wB.cell? ⟨gl, i * 6 + 4, none⟩ = some (.slice na n.at_.length nc) ∧ wB.cell? ⟨gl, i * 6 + 5, none⟩ = some (.slice nk n.ks.length nd)) := (by have hk9 : wB.heap[gl]? = wA.heap[gl]? := own_vn HS.out.ow HS.out.ns hg rfl; exact ⟨Nat.lt_of_lt_of_le HXc.out.1 hg.size, (World.cell?_of_block hk9).trans HXc.out.2.1, (World.cell?_of_block hk9).trans HXc.out.2.2.1, (World.cell?_of_block hk9).trans HXc.out.2.2.2.1, (World.cell?_of_block hk9).trans HXc.out.2.2.2.2.1, (World.cell?_of_block hk9).trans HXc.out.2.2.2.2.2.1, (World.cell?_of_block hk9).trans HXc.out.2.2.2.2.2.2⟩)
                replace HNf := hide9 (HNf.out.turn (G' := fun k => k < W0.heap.size) hg.size fun k q _ => ⟨q, hg.block k (Nat.lt_of_lt_of_le q HS.out.bel.size) (fun e => by have := (OwnE.lt HS.out.ow k e.symm).1; omega)⟩)
                replace HS := hide9 (HS.out.push hg ho)
                clear ho hg HO eR3
                go_upto_region 21 with fail
                have HS0 : Hid (QfS W0 (.slice ka KL.length kc) KL (.slice (some ⟨gl, 0, none⟩) E.length lc) E (.slice ra3 R3.length rc3) (R3) wB) := HS
                refine wp_region_held_drew (S := fun W' => Below wB.heap.size wB W') (by kernel_rfl) (Below.refl _ _).drew (fun hHeld => ?_)
                obtain ⟨Uk2u0, eW⟩ : ∃ X, X = wB.drew := ⟨_, rfl⟩
                have hb : Below wB.heap.size wB Uk2u0 := by rw [eW]; exact (Below.refl _ _).drew
                replace HS : Hid (QfS W0 (.slice ka KL.length kc) KL (.slice (some ⟨gl, 0, none⟩) E.length lc) E (.slice ra3 R3.length rc3) (R3) Uk2u0) := HS.out.below hb
                rw [← eW] at hHeld ⊢
                clear eW hb
                refine tkW 0 (some 92) (v := ?_) ?_ hHeld ?_
                rotate_left
                · (intro ww hSw; (try dsimp only at hSw); have hr9 := ((hSw.block _ (Nat.lt_of_lt_of_le (row_lt HR1.out) HS0.out.bel.size)).trans (HS0.out.bel.block _ (row_lt HR1.out))).trans HR1.out; obtain ⟨y0, y1, y2, y3, y4, y5⟩ := row6d hr9; go_simp; try with_reducible rfl)
                refine tkW 1 (some 93) (v := ?_) ?_ hHeld ?_
                rotate_left
                · (intro ww hSw; (try dsimp only at hSw); have hr9 := ((hSw.block _ (Nat.lt_of_lt_of_le (row_lt HR2.out) HS0.out.bel.size)).trans (HS0.out.bel.block _ (row_lt HR2.out))).trans HR2.out; obtain ⟨y0, y1, y2, y3, y4, y5⟩ := row6d hr9; go_simp; try with_reducible rfl)
                refine tkW 2 (some 94) (v := ?_) ?_ hHeld ?_
                rotate_left
                · (intro ww _; go_simp; try with_reducible rfl)
                refine tkW 3 (some 95) (v := ?_) ?_ hHeld ?_
                rotate_left
                · (intro ww _; go_simp; try with_reducible rfl)
                refine tkW 4 (some 96) (v := ?_) ?_ hHeld ?_
                rotate_left
                · (intro ww hSw; (try dsimp only at hSw); go_simp; try with_reducible rfl)
                refine tkW 5 (some 97) (v := ?_) ?_ hHeld ?_
                rotate_left
                · (intro ww hSw; (try dsimp only at hSw); have q0 := (hSw.cell (p := ⟨gl, i * 6, none⟩) HXc.out.1).trans HXc.out.2.1; have q1 := (hSw.cell (p := ⟨gl, i * 6 + 1, none⟩) HXc.out.1).trans HXc.out.2.2.1; have q2 := (hSw.cell (p := ⟨gl, i * 6 + 2, none⟩) HXc.out.1).trans HXc.out.2.2.2.1; have q3 := (hSw.cell (p := ⟨gl, i * 6 + 3, none⟩) HXc.out.1).trans HXc.out.2.2.2.2.1; have q4 := (hSw.cell (p := ⟨gl, i * 6 + 4, none⟩) HXc.out.1).trans HXc.out.2.2.2.2.2.1; have q5 := (hSw.cell (p := ⟨gl, i * 6 + 5, none⟩) HXc.out.1).trans HXc.out.2.2.2.2.2.2; go_simp; try with_reducible rfl)
                refine wpAnyH_ready (rs := [6]) (by kernel_rfl) (by simp) ?_
                refine AllReadyH.cons (o := ⟨some 98, _, _, _, _, _⟩) rfl (fun K hK => ?_) AllReadyH.nil
                go_simp
                refine (kidsD_any _ _ _ a b n _ _ _ _ (HA.out.below HS.out.bel) (HB.out.below HS.out.bel) (VIs.of (HNf.out.below hHeld)) hsa hsb Hns.out Hnf.out.2.2.2.2.1 Hnf.out.2.2.2.1 Hnf.out.2.2.2.2.2.1).mono ?_
                rintro e Uk2u1 ⟨ov, rfl, ho, hb⟩
                obtain ⟨oa, oc, eo⟩ := OwnE.form ho
                subst eo
                have HO : Hid (OwnPa 0 Uk2u1 (.slice oa (kdL a b (shD a b n) n.k (0, 0) n.ks).length oc) (kdL a b (shD a b n) n.k (0, 0) n.ks)) := OwnE.low ho (Nat.zero_le _)
                have hkp := hHeld.trans (hb.mono hHeld.size)
                replace HS := hide9 (HS.out.below hb)
                clear ho hb
                (try go_wp2_with fail)
                refine hK.out _ _ (hkp) (fun hHeld2 => ?_)
                clear hK K hHeld
                have hHeld := hHeld2
                clear hHeld2
                (try simp only [Act.put, List.setIfInBounds_toArray, List.set_cons_zero, List.set_cons_succ])
                clear hkp
                refine tkW 7 (some 13) (v := ?_) ?_ hHeld ?_
                rotate_left
                · (intro ww _; go_simp; try with_reducible rfl)
                refine wpAnyH_done (by kernel_rfl) ?_ _
                clear hHeld HS0 HXc HNf
                obtain ⟨ZL, eZL⟩ : ∃ l, l = kdL a b (shD a b n) n.k (0, 0) n.ks := ⟨_, rfl⟩
                rw [← eZL] at HO Htk HQi Hnf ⊢
                clear eZL
                go_wp2_with (at_builtin; refine StpD.to ?_)
                refine StpD.of ?_
                refine wpList_appPs rfl _ _ rfl W0.heap.size _ (.slice oa ZL.length oc) R3 ZL rfl HS.out.ow rfl (OwnE.lsE (G := fun _ => True) pzLen HO.out (Nat.le_trans Hnf.out.2.2.2.2.2.1 (by decide)) (fun _ _ => trivial)) (by have h9 := HQi.out; rw [List.length_append] at h9; omega) HS.out.bel.size ?_
                intro v4 wC ho hg
                obtain ⟨R4, eR4⟩ : ∃ l, l = R3 ++ ZL := ⟨_, rfl⟩
                rw [← eR4] at ho Htk
                obtain ⟨ra4, rc4, e4⟩ := OwnE.form ho
                subst e4
                replace HS := hide9 (HS.out.push hg ho)
                clear ho hg HO eR4
                go_wp2
                go_roundw
                case rel => exact ⟨i + 1, _, by go_num, by omega, HS, Htk.out.symm⟩
                case measure => simp [intOf]; omega
              · have k1 : ¬ (i : Int) < (E.length : Int) := by omega
                go_wp2
                (try rw [Exit.noGoto_ret])
                go_ret2
                exact ⟨_, _, rfl, (by unfold RofP; rw [if_pos Hw.out]; exact ⟨rfl, OwnE.low (by unfold ofD; rw [← HKe.out, ← HR2e.out]; have h9 := HRe.out; rw [List.take_of_length_le (by rw [← HEm.out, List.length_map]; omega)] at h9; rw [← h9]; exact HS.out.ow) HL.out.size⟩), HL.out.trans (HS.out.bel.mono HL.out.size)⟩
  · have Hx : Hid (cx ≠ 0) := hx
    obtain ⟨y0, y1, y2, y3, y4, y5⟩ := row6d HR1.out
    obtain ⟨z0, z1, z2, z3, z4, z5⟩ := row6d HR2.out
    go_wp2_with fail
    clear y0 y1 y2 y3 y4 y5
    clear z0 z1 z2 z3 z4 z5
    refine (refWhy_any _ _ a b _ _ _ HA.out HB.out hsa hba hsb hbb).mono ?_
    rintro e w3 ⟨rfl, hb1⟩
    replace HL := hide9 (HL.out.trans (hb1.mono HL.out.size))
    clear hb1 HA HB HR1 HR2
    rw [← Hcx.out]
    go_wp2
    (try rw [Exit.noGoto_ret])
    go_ret2
    exact ⟨_, _, rfl, (by unfold RofP; rw [← Hcx.out, if_neg Hx.out]; exact ⟨rfl, rfl⟩), HL.out⟩
end Go.Proofs.Ythhnglpkfcmjiaa

namespace Go.Proofs.Ythhnglpkfcmjiaa
open Go.RowKit Go.Shelf
set_option linter.unusedVariables false
set_option linter.unusedSimpArgs false
attribute [local go_sem] Oper.semAt_some
/-- The steps that both tell. -/
def ansD (a b : VT) : List Pa := if whyD a b = 0 then ofD a b else []
theorem ans_len (a b : VT) : (ansD a b).length ≤ 8796093022208 := by
  unfold ansD
  split
  · rename_i h
    have := ofD_len h
    omega
  · simp
theorem of_ans {a b : VT} {w : World} {v : Value} {c : Int} {w' : World} (h : OfP a b w v c w') : c = whyD a b ∧ OwnPa w.heap.size w' v (ansD a b) := by
  unfold OfP at h
  unfold ansD
  split at h
  · rename_i h0
    obtain ⟨rfl, X, Ba, Bb, ho⟩ := h
    rw [if_pos h0, of_eq (w := X) (Ba := Ba) (Bb := Bb) h0]
    exact ⟨h0.symm, ho⟩
  · rename_i h0
    obtain ⟨rfl, rfl⟩ := h
    rw [if_neg h0]
    exact ⟨rfl, OwnE.nil0 _ _⟩
theorem rof_ans {a b : VT} {w : World} {v : Value} {c : Int} {w' : World} (h : RofP a b w v c w') : c = whyD a b ∧ OwnPa w.heap.size w' v (ansD a b) := by
  unfold RofP at h
  unfold ansD
  split at h
  · rename_i h0
    rw [if_pos h0]
    exact ⟨h.1.trans h0.symm, h.2⟩
  · rename_i h0
    obtain ⟨rfl, rfl⟩ := h
    rw [if_neg h0]
    exact ⟨rfl, OwnE.nil0 _ _⟩
set_option maxRecDepth 100000 in
set_option maxHeartbeats 8000000 in
theorem diffOf_walk (va : Value) (a : VT) (vb : Value) (b : VT) (w : World) (ha : VIs (fun _ => True) w va a) (hba : BnA a) (hsa : a.sz ≤ 1048576) (hb : VIs (fun _ => True) w vb b) (hbb : BnA b) (hsb : b.sz ≤ 1048576) :
    Calls Try.prog 3 #[va, vb] w fun e w' => e = .returned (.bool true) ∧ Below w.heap.size w w' := by
  replace ha := ha.turn (G' := fun k => k < w.heap.size) (Nat.le_refl _) fun k _ q => ⟨q, rfl⟩
  replace hb := hb.turn (G' := fun k => k < w.heap.size) (Nat.le_refl _) fun k _ q => ⟨q, rfl⟩
  obtain ⟨aa, ca, ak, da, e1, _⟩ := ha.form
  obtain ⟨ba, cb, bk, db, e2, _⟩ := hb.form
  subst e1 e2
  obtain ⟨W0, eW⟩ : ∃ X, X = (w.alloc (.cells #[.int .i64 a.k.1, .int .i64 a.k.2, .string a.tg, .string a.tx, .slice aa a.at_.length ca, .slice ak a.ks.length da] 27)).alloc (.cells #[.int .i64 b.k.1, .int .i64 b.k.2, .string b.tg, .string b.tx, .slice ba b.at_.length cb, .slice bk b.ks.length db] 27) := ⟨_, rfl⟩
  have hb0 : Below w.heap.size w W0 := (by rw [eW]; exact ((Below.refl _ _).alloc (Nat.le_refl _) _).alloc (by simp) _)
  have HR1 : Hid (W0.heap[w.heap.size]? = some (.cells #[.int .i64 a.k.1, .int .i64 a.k.2, .string a.tg, .string a.tx, .slice aa a.at_.length ca, .slice ak a.ks.length da] 27)) := (by show _ = _; rw [eW, Below.heap_alloc _ _ _ (by simp)]; exact heap_alloc_new _ _)
  have HR2 : Hid (W0.heap[w.heap.size + 1]? = some (.cells #[.int .i64 b.k.1, .int .i64 b.k.2, .string b.tg, .string b.tx, .slice ba b.at_.length cb, .slice bk b.ks.length db] 27)) := (by show _ = _; rw [eW]; have h9 := heap_alloc_new (w.alloc (.cells #[.int .i64 a.k.1, .int .i64 a.k.2, .string a.tg, .string a.tx, .slice aa a.at_.length ca, .slice ak a.ks.length da] 27)) (.cells #[.int .i64 b.k.1, .int .i64 b.k.2, .string b.tg, .string b.tx, .slice ba b.at_.length cb, .slice bk b.ks.length db] 27); rw [show (w.alloc (.cells #[.int .i64 a.k.1, .int .i64 a.k.2, .string a.tg, .string a.tx, .slice aa a.at_.length ca, .slice ak a.ks.length da] 27)).heap.size = w.heap.size + 1 by simp] at h9; exact h9)
  have HA : Hid (VIs (fun k => k < w.heap.size) W0 (.agg #[.int .i64 a.k.1, .int .i64 a.k.2, .string a.tg, .string a.tx, .slice aa a.at_.length ca, .slice ak a.ks.length da]) a) := ha.below hb0
  have HB : Hid (VIs (fun k => k < w.heap.size) W0 (.agg #[.int .i64 b.k.1, .int .i64 b.k.2, .string b.tg, .string b.tx, .slice ba b.at_.length cb, .slice bk b.ks.length db]) b) := hb.below hb0
  have HE := hide9 eW
  have HL := hide9 hb0
  clear eW hb0 ha hb
  go_enter Try.func3, Try.ntmps3
  go_upto_region 1 with fail
  rw [← HE.out]
  clear HE
  obtain ⟨y0, y1, y2, y3, y4, y5⟩ := row6d HR1.out
  obtain ⟨z0, z1, z2, z3, z4, z5⟩ := row6d HR2.out
  go_wp2_with fail
  clear y0 y1 y2 y3 y4 y5
  clear z0 z1 z2 z3 z4 z5
  refine (light_any _ _ a b _ _ _ HA.out HB.out hsa hsb).mono ?_
  rintro e w1 ⟨rfl, hb1⟩
  replace HL := hide9 (HL.out.trans (hb1.mono HL.out.size))
  replace HA := hide9 (HA.out.below hb1)
  replace HB := hide9 (HB.out.below hb1)
  replace HR1 := hide9 ((hb1.block _ (row_lt HR1.out)).trans HR1.out)
  replace HR2 := hide9 ((hb1.block _ (row_lt HR2.out)).trans HR2.out)
  clear hb1
  obtain ⟨lt, elt⟩ : ∃ x : Bool, x = (decide (a.sz ≤ 60) && decide (b.sz ≤ 60)) := ⟨_, rfl⟩
  rw [← elt]
  clear elt
  cases lt with
  | false =>
    clear HA HB HR1 HR2
    go_wp2_with fail
    refine (awakeD_any _).mono ?_
    rintro e w9 ⟨rfl, hb9⟩
    have HZ : Hid (Below w.heap.size w w9) := HL.out.trans (hb9.mono HL.out.size)
    clear hb9
    go_wp2
    (try rw [Exit.noGoto_ret])
    go_ret
    exact ⟨rfl, HZ.out⟩
  | true =>
    obtain ⟨y0, y1, y2, y3, y4, y5⟩ := row6d HR1.out
    go_wp2_with fail
    clear y0 y1 y2 y3 y4 y5
    refine (refCopy_any _ a _ _ HA.out).mono ?_
    rintro e w2 ⟨xv, F, rfl, hx, _, hb1⟩
    obtain ⟨ap9, aq9, ar9, as9, ex, _⟩ := hx.form
    subst ex
    have HX : Hid (VIs (fun _ => True) w2 (.agg #[.int .i64 a.k.1, .int .i64 a.k.2, .string a.tg, .string a.tx, .slice ap9 a.at_.length aq9, .slice ar9 a.ks.length as9]) a) := hx.turn (Nat.le_refl _) fun _ _ _ => ⟨trivial, rfl⟩
    replace HL := hide9 (HL.out.trans (hb1.mono HL.out.size))
    replace HA := hide9 (HA.out.below hb1)
    replace HB := hide9 (HB.out.below hb1)
    replace HR1 := hide9 ((hb1.block _ (row_lt HR1.out)).trans HR1.out)
    replace HR2 := hide9 ((hb1.block _ (row_lt HR2.out)).trans HR2.out)
    clear hb1 hx
    have Hz : Hid ((w2.alloc (.cells #[.int .i64 0, .int .i64 0, .string ⟨#[]⟩, .string ⟨#[]⟩, .slice none 0 0, .slice none 0 0] 27)).heap[w2.heap.size]? = some (.cells #[.int .i64 0, .int .i64 0, .string ⟨#[]⟩, .string ⟨#[]⟩, .slice none 0 0, .slice none 0 0] 27)) := heap_alloc_new _ _
    obtain ⟨W3, eW⟩ : ∃ X, X = (w2.alloc (.cells #[.int .i64 0, .int .i64 0, .string ⟨#[]⟩, .string ⟨#[]⟩, .slice none 0 0, .slice none 0 0] 27)).setRow w2.heap.size #[.int .i64 a.k.1, .int .i64 a.k.2, .string a.tg, .string a.tx, .slice ap9 a.at_.length aq9, .slice ar9 a.ks.length as9] := ⟨_, rfl⟩
    have hb9 : Below w2.heap.size w2 W3 := (by rw [eW]; exact ((Below.refl _ _).alloc (Nat.le_refl _) _).grown (grown_setRow _ _ _) (by simp) (fun k e => by cases e; exact Nat.le_refl _))
    obtain ⟨pb, enb⟩ : ∃ b, b = w2.heap.size := ⟨_, rfl⟩
    have Hpb : Hid (W3.heap[pb]? = some (.cells #[.int .i64 a.k.1, .int .i64 a.k.2, .string a.tg, .string a.tx, .slice ap9 a.at_.length aq9, .slice ar9 a.ks.length as9] 27)) := (by show _ = _; rw [eW, enb]; exact setRow_same Hz.out)
    have HE9 := hide9 (And.intro eW enb)
    clear eW enb
    replace HL := hide9 (HL.out.trans (hb9.mono HL.out.size))
    replace HA := hide9 (HA.out.below hb9)
    replace HB := hide9 (HB.out.below hb9)
    replace HR1 := hide9 ((hb9.block _ (row_lt HR1.out)).trans HR1.out)
    replace HR2 := hide9 ((hb9.block _ (row_lt HR2.out)).trans HR2.out)
    replace HX := hide9 (HX.out.below hb9)
    clear hb9
    go_wp2_with (refine wpList_store_row rfl 27 (.tmp 5) (.tmp 17) rfl w2.heap.size 27 #[.int .i64 0, .int .i64 0, .string ⟨#[]⟩, .string ⟨#[]⟩, .slice none 0 0, .slice none 0 0] #[.int .i64 a.k.1, .int .i64 a.k.2, .string a.tg, .string a.tx, .slice ap9 a.at_.length aq9, .slice ar9 a.ks.length as9] rfl rfl Hz.out sizeVy rfl (by simp [Value.oneCell']) ?_; refine StpD.to ?_)
    refine StpD.of ?_
    rw [← HE9.out.1, ← HE9.out.2]
    clear HE9 Hz
    obtain ⟨z0, z1, z2, z3, z4, z5⟩ := row6d HR2.out
    go_wp2_with fail
    clear z0 z1 z2 z3 z4 z5
    refine (refCopy_any _ b _ _ HB.out).mono ?_
    rintro e w4 ⟨xv, F, rfl, hx, _, hb1⟩
    obtain ⟨bp9, bq9, br9, bs9, ex, _⟩ := hx.form
    subst ex
    have HY : Hid (VIs (fun _ => True) w4 (.agg #[.int .i64 b.k.1, .int .i64 b.k.2, .string b.tg, .string b.tx, .slice bp9 b.at_.length bq9, .slice br9 b.ks.length bs9]) b) := hx.turn (Nat.le_refl _) fun _ _ _ => ⟨trivial, rfl⟩
    replace HL := hide9 (HL.out.trans (hb1.mono HL.out.size))
    replace HA := hide9 (HA.out.below hb1)
    replace HB := hide9 (HB.out.below hb1)
    replace HR1 := hide9 ((hb1.block _ (row_lt HR1.out)).trans HR1.out)
    replace HR2 := hide9 ((hb1.block _ (row_lt HR2.out)).trans HR2.out)
    replace HX := hide9 (HX.out.below hb1)
    replace Hpb := hide9 ((hb1.block _ (row_lt Hpb.out)).trans Hpb.out)
    clear hb1 hx
    have Hz : Hid ((w4.alloc (.cells #[.int .i64 0, .int .i64 0, .string ⟨#[]⟩, .string ⟨#[]⟩, .slice none 0 0, .slice none 0 0] 27)).heap[w4.heap.size]? = some (.cells #[.int .i64 0, .int .i64 0, .string ⟨#[]⟩, .string ⟨#[]⟩, .slice none 0 0, .slice none 0 0] 27)) := heap_alloc_new _ _
    obtain ⟨W5, eW⟩ : ∃ X, X = (w4.alloc (.cells #[.int .i64 0, .int .i64 0, .string ⟨#[]⟩, .string ⟨#[]⟩, .slice none 0 0, .slice none 0 0] 27)).setRow w4.heap.size #[.int .i64 b.k.1, .int .i64 b.k.2, .string b.tg, .string b.tx, .slice bp9 b.at_.length bq9, .slice br9 b.ks.length bs9] := ⟨_, rfl⟩
    have hb9 : Below w4.heap.size w4 W5 := (by rw [eW]; exact ((Below.refl _ _).alloc (Nat.le_refl _) _).grown (grown_setRow _ _ _) (by simp) (fun k e => by cases e; exact Nat.le_refl _))
    obtain ⟨qb, enb⟩ : ∃ b, b = w4.heap.size := ⟨_, rfl⟩
    have Hqb : Hid (W5.heap[qb]? = some (.cells #[.int .i64 b.k.1, .int .i64 b.k.2, .string b.tg, .string b.tx, .slice bp9 b.at_.length bq9, .slice br9 b.ks.length bs9] 27)) := (by show _ = _; rw [eW, enb]; exact setRow_same Hz.out)
    have HE9 := hide9 (And.intro eW enb)
    clear eW enb
    replace HL := hide9 (HL.out.trans (hb9.mono HL.out.size))
    replace HA := hide9 (HA.out.below hb9)
    replace HB := hide9 (HB.out.below hb9)
    replace HR1 := hide9 ((hb9.block _ (row_lt HR1.out)).trans HR1.out)
    replace HR2 := hide9 ((hb9.block _ (row_lt HR2.out)).trans HR2.out)
    replace HX := hide9 (HX.out.below hb9)
    replace Hpb := hide9 ((hb9.block _ (row_lt Hpb.out)).trans Hpb.out)
    replace HY := hide9 (HY.out.below hb9)
    clear hb9
    go_wp2_with (refine wpList_store_row rfl 27 (.tmp 6) (.tmp 19) rfl w4.heap.size 27 #[.int .i64 0, .int .i64 0, .string ⟨#[]⟩, .string ⟨#[]⟩, .slice none 0 0, .slice none 0 0] #[.int .i64 b.k.1, .int .i64 b.k.2, .string b.tg, .string b.tx, .slice bp9 b.at_.length bq9, .slice br9 b.ks.length bs9] rfl rfl Hz.out sizeVy rfl (by simp [Value.oneCell']) ?_; refine StpD.to ?_)
    refine StpD.of ?_
    rw [← HE9.out.1, ← HE9.out.2]
    clear HE9 Hz
    obtain ⟨y0, y1, y2, y3, y4, y5⟩ := row6d Hpb.out
    obtain ⟨z0, z1, z2, z3, z4, z5⟩ := row6d Hqb.out
    go_wp2_with fail
    clear y0 y1 y2 y3 y4 y5
    clear z0 z1 z2 z3 z4 z5
    refine (of_any _ a b _ _ _ HX.out HY.out hsa hba hsb hbb).mono ?_
    rintro e w6 ⟨lv, c, rfl, hP, hb1⟩
    obtain ⟨rfl, ho⟩ := of_ans hP
    replace HL := hide9 (HL.out.trans (hb1.mono HL.out.size))
    replace HA := hide9 (HA.out.below hb1)
    replace HB := hide9 (HB.out.below hb1)
    replace HR1 := hide9 ((hb1.block _ (row_lt HR1.out)).trans HR1.out)
    replace HR2 := hide9 ((hb1.block _ (row_lt HR2.out)).trans HR2.out)
    replace HX := hide9 (HX.out.below hb1)
    replace HY := hide9 (HY.out.below hb1)
    replace Hpb := hide9 ((hb1.block _ (row_lt Hpb.out)).trans Hpb.out)
    replace Hqb := hide9 ((hb1.block _ (row_lt Hqb.out)).trans Hqb.out)
    obtain ⟨D, eD⟩ : ∃ D, D = ansD a b := ⟨_, rfl⟩
    rw [← eD] at ho
    have HD := hide9 eD
    have HO : Hid (OwnPa 0 w6 lv D) := OwnE.low ho (Nat.zero_le _)
    obtain ⟨la, lc, el⟩ := OwnE.form ho
    subst el
    obtain ⟨cy, ecy⟩ : ∃ x, x = whyD a b := ⟨_, rfl⟩
    rw [← ecy]
    have Hcy := hide9 ecy
    clear hb1 hP ho eD ecy
    obtain ⟨y0, y1, y2, y3, y4, y5⟩ := row6d HR1.out
    obtain ⟨z0, z1, z2, z3, z4, z5⟩ := row6d HR2.out
    go_wp2_with fail
    clear y0 y1 y2 y3 y4 y5
    clear z0 z1 z2 z3 z4 z5
    refine (refOf_any _ _ a b _ _ _ HA.out HB.out hsa hba hsb hbb).mono ?_
    rintro e w7 ⟨mv, c2, rfl, hP, hb1⟩
    obtain ⟨rfl, ho⟩ := rof_ans hP
    replace HL := hide9 (HL.out.trans (hb1.mono HL.out.size))
    replace HA := hide9 (HA.out.below hb1)
    replace HB := hide9 (HB.out.below hb1)
    replace HR1 := hide9 ((hb1.block _ (row_lt HR1.out)).trans HR1.out)
    replace HR2 := hide9 ((hb1.block _ (row_lt HR2.out)).trans HR2.out)
    replace HX := hide9 (HX.out.below hb1)
    replace HY := hide9 (HY.out.below hb1)
    replace Hpb := hide9 ((hb1.block _ (row_lt Hpb.out)).trans Hpb.out)
    replace Hqb := hide9 ((hb1.block _ (row_lt Hqb.out)).trans Hqb.out)
    replace HO := hide9 (OwnE.below HO.out hb1)
    rw [← HD.out] at ho
    have HM : Hid (OwnPa 0 w7 mv D) := OwnE.low ho (Nat.zero_le _)
    obtain ⟨ma, mc, em⟩ := OwnE.form ho
    subst em
    rw [← Hcy.out]
    have HDl : Hid (D.length ≤ 8796093022208) := (by rw [HD.out]; exact ans_len a b)
    clear hb1 hP ho
    go_wp2_with fail
    refine (refSameP_any (fun _ => True) (fun _ => True) _ _ D D _ (OwnE.lsE pzLen HO.out HDl.out fun _ _ => trivial) (OwnE.lsE pzLen HM.out HDl.out fun _ _ => trivial)).mono ?_
    rintro e w8 ⟨rfl, hb1⟩
    rw [decide_eq_true rfl]
    replace HL := hide9 (HL.out.trans (hb1.mono HL.out.size))
    replace HA := hide9 (HA.out.below hb1)
    replace HB := hide9 (HB.out.below hb1)
    replace HR1 := hide9 ((hb1.block _ (row_lt HR1.out)).trans HR1.out)
    replace HR2 := hide9 ((hb1.block _ (row_lt HR2.out)).trans HR2.out)
    replace HX := hide9 (HX.out.below hb1)
    replace HY := hide9 (HY.out.below hb1)
    replace Hpb := hide9 ((hb1.block _ (row_lt Hpb.out)).trans Hpb.out)
    replace Hqb := hide9 ((hb1.block _ (row_lt Hqb.out)).trans Hqb.out)
    clear hb1 HO HM
    obtain ⟨y0, y1, y2, y3, y4, y5⟩ := row6d Hpb.out
    obtain ⟨z0, z1, z2, z3, z4, z5⟩ := row6d HR1.out
    go_wp2_with fail
    clear y0 y1 y2 y3 y4 y5
    clear z0 z1 z2 z3 z4 z5
    refine (refSame_any _ _ a a _ _ _ HX.out HA.out).mono ?_
    rintro e w9 ⟨rfl, hb1⟩
    rw [eqV_true rfl]
    replace HL := hide9 (HL.out.trans (hb1.mono HL.out.size))
    replace HA := hide9 (HA.out.below hb1)
    replace HB := hide9 (HB.out.below hb1)
    replace HR1 := hide9 ((hb1.block _ (row_lt HR1.out)).trans HR1.out)
    replace HR2 := hide9 ((hb1.block _ (row_lt HR2.out)).trans HR2.out)
    replace HX := hide9 (HX.out.below hb1)
    replace HY := hide9 (HY.out.below hb1)
    replace Hpb := hide9 ((hb1.block _ (row_lt Hpb.out)).trans Hpb.out)
    replace Hqb := hide9 ((hb1.block _ (row_lt Hqb.out)).trans Hqb.out)
    clear hb1
    obtain ⟨y0, y1, y2, y3, y4, y5⟩ := row6d Hqb.out
    obtain ⟨z0, z1, z2, z3, z4, z5⟩ := row6d HR2.out
    go_wp2_with fail
    clear y0 y1 y2 y3 y4 y5
    clear z0 z1 z2 z3 z4 z5
    refine (refSame_any _ _ b b _ _ _ HY.out HB.out).mono ?_
    rintro e w10 ⟨rfl, hb1⟩
    rw [eqV_true rfl]
    replace HL := hide9 (HL.out.trans (hb1.mono HL.out.size))
    clear hb1 HA HB HR1 HR2 HX HY Hpb Hqb
    go_wp2_with fail
    refine (awakeD_any _).mono ?_
    rintro e w9 ⟨rfl, hb9⟩
    have HZ : Hid (Below w.heap.size w w9) := HL.out.trans (hb9.mono HL.out.size)
    clear hb9
    go_wp2
    (try rw [Exit.noGoto_ret])
    go_ret
    exact ⟨rfl, HZ.out⟩
end Go.Proofs.Ythhnglpkfcmjiaa

namespace Go.Proofs.Ythhnglpkfcmjiaa
open Go.ChangeShapes Go.WideShapes Go.ChangeAt Go.RowKit
set_option linter.unusedVariables false
set_option maxRecDepth 100000 in
theorem diffOf_lifted (os : Os) (started : os.Started) (H : Type) (enc : TypeId × Value → H) (F : Stop.Interp) :
    ReturnsInHanded {} Try.checked os 3 .any ((Rows.OpenSpec.upto Rows.diffOfSpec).pre6 enc Try.prog Try.f3 Rows.diffOfUptoRow.domain false) (((Rows.OpenSpec.upto Rows.diffOfSpec).at F).post enc Try.prog Try.f3 false true false false) := by
  refine returnsInHanded_of_cond_sized (C := Try.checked) (s := Rows.OpenSpec.upto Rows.diffOfSpec) (k := Rows.uptoSmall) rfl ownI started (by kernel_rfl) Try.func3
    (OpenSpec.witness (enc := enc) (C := Try.checked) (s := Rows.OpenSpec.upto Rows.diffOfSpec) (k := Rows.uptoSmall) rfl false ⟨#[], #[.agg #[.int .i64 0, .int .i64 0, .string ByteArray.empty, .string ByteArray.empty, .slice none 0 0, .slice none 0 0], .agg #[.int .i64 0, .int .i64 0, .string ByteArray.empty, .string ByteArray.empty, .slice none 0 0, .slice none 0 0]], []⟩ 8 (by kernel_rfl) (by kernel_rfl) (by kernel_rfl)
      (x := ([.agg [.agg [.lit (.int .i64 0), .lit (.int .i64 0)], .lit (.string []), .lit (.string []), .nil, .nil], .agg [.agg [.lit (.int .i64 0), .lit (.int .i64 0)], .lit (.string []), .lit (.string []), .nil, .nil]], [], [])) (by kernel_rfl) rfl (by kernel_rfl)) ?_
  intro W base args ds gs before hval0 hW _ hk hsz0 _
  have hval : ∀ (j : Nat) t v, Try.f3.params[j]? = some t → args[j]? = some v → Value.okWide Try.prog W .any base t v := hval0
  have hW' := hW
  obtain ⟨p, q, hA0, hV, rfl, hfz, hnd⟩ := hW
  have hA : DataW.TrodAll enc Try.prog W 0 (fun _ => true) true Try.f3.params.toList args.toList ds p := hA0
  rw [Try.params3] at hA hval
  obtain ⟨v0, v1, d0, d1, p0, p1, rfl, rfl, rfl, h0, h1⟩ := trodAll_two hA
  obtain ⟨rfl, rfl⟩ := trodVars_none hV
  have hk0 := h0
  have hk1 := h1
  have hb : Rows.uptoBulkAll _ ≤ 1048576 := of_decide_eq_true hk
  simp only [List.append_nil, Rows.uptoBulkAll] at hb
  have hsz : (DataW.weightsEach Try.prog [27, 27] [d0, d1]).all (· ≤ reachBytes) = true := hsz0
  have hw0 : ∀ n ∈ d0.weights Try.prog 27, n ≤ reachBytes := fun n hn => by
    have h1 := List.all_eq_true.1 hsz n (DataW.weights_mem_each (j := 0) rfl rfl n hn)
    simpa using h1
  obtain ⟨D0, is0, bn0, bk0⟩ := open_nodeV (hval 0 27 v0 rfl rfl) h0 hw0
  have hlt0 : ∀ x ∈ p0, x.block < W.heap.size := fun x hx => by simpa using hW'.lt x (by simp [hx])
  have hw1 : ∀ n ∈ d1.weights Try.prog 27, n ≤ reachBytes := fun n hn => by
    have h1 := List.all_eq_true.1 hsz n (DataW.weights_mem_each (j := 1) rfl rfl n hn)
    simpa using h1
  obtain ⟨D1, is1, bn1, bk1⟩ := open_nodeV (hval 1 27 v1 rfl rfl) h1 hw1
  have hlt1 : ∀ x ∈ p1, x.block < W.heap.size := fun x hx => by simpa using hW'.lt x (by simp [hx])
  clear hA0 hval0
  refine (diffOf_walk v0 D0 v1 D1 W is0 (fun x hx => bn0 0 x hx) (by omega) is1 (fun x hx => bn1 0 x hx) (by omega)).mono fun e W' ⟨he, bel⟩ => ?_
  subst he
  exact ⟨_, rfl, _, _, _, [], _, [], hW', trodAll_mk1 (shut_bool Try.underlying4 _), trodAll_mk2 (Below.trod laidOutI (by kernel_rfl) (of_decide_eq_true (by kernel_rfl)) hk0 bel hlt0) (Below.trod laidOutI (by kernel_rfl) (of_decide_eq_true (by kernel_rfl)) hk1 bel hlt1), rfl, bel.frame _, fun h => by cases h⟩
theorem diffOf_holds : Rows.DiffOfUptoSaid :=
  OpenClaim.holds_of_cond 3 Try.f3 rfl rfl rfl rfl rfl rfl rfl ⟨rfl, rfl, rfl, rfl, rfl⟩ rfl rfl rfl rfl rfl (by kernel_rfl) Try.func3 (by kernel_rfl)
    (of_decide_eq_true (by kernel_rfl)) (by unfold Func.isWrapper; first | (rw [if_pos (by decide +kernel)]; kernel_rfl) | (rw [if_neg (by decide +kernel)]; exact ⟨rfl, rfl⟩))
    (fun os started H enc _ F => diffOf_lifted os started H enc F)
#print axioms diffOf_holds
end Go.Proofs.Ythhnglpkfcmjiaa
