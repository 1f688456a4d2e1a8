/- LwwPuts. -/
import Derived.Test.YtoljacnipkibiaaLwL
import Derived.Test.YtoljacnipkibiaaLwG
import Derived.Test.YtoljacnipkibiaaLwH
namespace Go.Proofs.Ytoljacnipkibiaa
open Go.RowKit
set_option linter.unusedVariables false
set_option linter.unusedSimpArgs false

set_option maxRecDepth 100000 in
set_option maxHeartbeats 8000000 in
theorem lwwPuts_walk (v : Value) (l : List Rg) (w : World) (h : IsRg w v l) :
    Calls Try.prog 4 #[v] w fun e w' => e = .returned (.bool true) ∧ Below w.heap.size w w' := by
  obtain ⟨a1, c1, e1⟩ := h.1.form
  subst e1
  have hlen := h.1.len
  have HLs : Hid (IsRg w (.slice a1 l.length c1) l) := h
  clear h
  go_enter Try.func4, Try.ntmps4
  go_wp2_with fail
  refine (new_any _).mono ?_
  rintro e w1 ⟨rb, F0, rfl, hT, hFh, hb1⟩
  obtain ⟨w2, ew2⟩ : ∃ X, X = w1.alloc (.cells #[] 25) := ⟨_, rfl⟩
  have hb2 : Below w1.heap.size w1 w2 := by rw [ew2]; exact (Below.refl _ _).alloc (Nat.le_refl _) _
  have HM0 : Hid (LdS w rb F0 (.slice (some ⟨w1.heap.size, 0, none⟩) 0 0) [] [] w2) := ⟨hT.below hb2, hFh, LsE.nil _ _ _, hb1.trans (hb2.mono hb1.size)⟩
  clear hT hFh hb1 hb2
  go_wp2_with fail
  rw [← ew2]
  clear ew2
  go_loopw [4, 5] (fun dv iv wr => ∃ (i : Nat) (F : Nat → Prop), iv = .int .i64 (i : Int) ∧ i ≤ l.length ∧ i ≤ 200 ∧ ∃ a9 c9, dv = .slice a9 (laidT (l.take i)).length c9 ∧ Hid (LdS w rb F (.slice a9 (laidT (l.take i)).length c9) (laidT (l.take i)) (laidT (l.take i)) wr)) (fun _ iv _ => l.length - (intOf iv).toNat)
  case atStart => exact ⟨0, F0, rfl, Nat.zero_le _, Nat.zero_le _, _, _, rfl, HM0⟩
  case round =>
    clear HM0
    obtain ⟨i, F, rfl, hil0, hi2, a9, c9, rfl, HM⟩ := hrel
    have HLn : Hid ((laidT (l.take i)).length ≤ 200) := (by have h1 := laidT_len (l.take i); rw [List.length_take] at h1; show _ ≤ _; omega)
    by_cases hlt : i < l.length
    · have k1 : (i : Int) < (l.length : Int) := by omega
      by_cases hlt2 : i < 200
      · have k2 : (i : Int) < 200 := by omega
        have k0 : (0 : Int) ≤ (i : Int) := by omega
        obtain ⟨b, o, cap, ev, _, hbl, hrow⟩ := HLs.out.1.row7 (i := i) hlt
        injection ev with ev1 ev2 ev3
        subst ev1
        subst ev3
        have HSm0 := HLs.out.2 l[i] (List.getElem_mem hlt)
        obtain ⟨x, ex⟩ : ∃ x, x = l[i] := ⟨_, rfl⟩
        rw [← ex] at hrow HSm0
        have HSm : Hid (x.nm.size ≤ 281474976710656) := Nat.le_trans HSm0.1 (by decide)
        have HGl : Hid (b < w.heap.size) := hbl
        have HNx : Hid (laidT (l.take (i + 1)) = (putC (laidT (l.take i)) x)) := by (show _ = _; rw [laidT_next l i hlt, ← ex])
        have HLn2 : Hid ((putC (laidT (l.take i)) x).length ≤ 201) := (by have h1 := putC_length (laidT (l.take i)) x; have := HLn.out; show _ ≤ _; omega)
        have HX0 : Hid (w.cell? ⟨b, o + i * 7, none⟩ = some (.int .i64 x.nd.1)) := hrow 0 _ rfl
        have HX1 : Hid (w.cell? ⟨b, o + i * 7 + 1, none⟩ = some (.int .i64 x.nd.2)) := hrow 1 _ rfl
        have HX2 : Hid (w.cell? ⟨b, o + i * 7 + 2, none⟩ = some (.string x.nm)) := hrow 2 _ rfl
        have HX3 : Hid (w.cell? ⟨b, o + i * 7 + 3, none⟩ = some (.int .i64 x.at_.1)) := hrow 3 _ rfl
        have HX4 : Hid (w.cell? ⟨b, o + i * 7 + 4, none⟩ = some (.int .i64 x.at_.2)) := hrow 4 _ rfl
        have HX5 : Hid (w.cell? ⟨b, o + i * 7 + 5, none⟩ = some (.string x.vl)) := hrow 5 _ rfl
        have HX6 : Hid (w.cell? ⟨b, o + i * 7 + 6, none⟩ = some (.bool x.gn)) := hrow 6 _ rfl
        clear ex hrow hbl ev2 HSm0
        clear HLs
        have r0 : wr.cell? ⟨b, o + i * 7, none⟩ = some (.int .i64 x.nd.1) := (HM.out.bel.cell (p := ⟨b, o + i * 7, none⟩) HGl.out).trans HX0.out
        have r1 : wr.cell? ⟨b, o + i * 7 + 1, none⟩ = some (.int .i64 x.nd.2) := (HM.out.bel.cell (p := ⟨b, o + i * 7 + 1, none⟩) HGl.out).trans HX1.out
        have r2 : wr.cell? ⟨b, o + i * 7 + 2, none⟩ = some (.string x.nm) := (HM.out.bel.cell (p := ⟨b, o + i * 7 + 2, none⟩) HGl.out).trans HX2.out
        have r3 : wr.cell? ⟨b, o + i * 7 + 3, none⟩ = some (.int .i64 x.at_.1) := (HM.out.bel.cell (p := ⟨b, o + i * 7 + 3, none⟩) HGl.out).trans HX3.out
        have r4 : wr.cell? ⟨b, o + i * 7 + 4, none⟩ = some (.int .i64 x.at_.2) := (HM.out.bel.cell (p := ⟨b, o + i * 7 + 4, none⟩) HGl.out).trans HX4.out
        have r5 : wr.cell? ⟨b, o + i * 7 + 5, none⟩ = some (.string x.vl) := (HM.out.bel.cell (p := ⟨b, o + i * 7 + 5, none⟩) HGl.out).trans HX5.out
        have r6 : wr.cell? ⟨b, o + i * 7 + 6, none⟩ = some (.bool x.gn) := (HM.out.bel.cell (p := ⟨b, o + i * 7 + 6, none⟩) HGl.out).trans HX6.out
        go_wp2_with fail
        clear r0 r1 r2 r3 r4 r5 r6
        refine (refPut_any (fun j => ¬ F j ∧ j < wr.heap.size) _ (laidT (l.take i)) x _ HM.out.doc.lo (laidT_best _).srt (by have := HLn.out; omega) HSm.out).mono ?_
        rintro e w8 ⟨v8, rfl, hd, hb⟩
        have HM8 : Hid (LdS w rb F v8 (laidT (l.take i)) (putC (laidT (l.take i)) x) w8) := HM.out.doc2 hd hb
        clear hd hb HM
        obtain ⟨a8, c8, e8⟩ := HM8.out.doc.form
        subst e8
        have r0 : w8.cell? ⟨b, o + i * 7, none⟩ = some (.int .i64 x.nd.1) := (HM8.out.bel.cell (p := ⟨b, o + i * 7, none⟩) HGl.out).trans HX0.out
        have r1 : w8.cell? ⟨b, o + i * 7 + 1, none⟩ = some (.int .i64 x.nd.2) := (HM8.out.bel.cell (p := ⟨b, o + i * 7 + 1, none⟩) HGl.out).trans HX1.out
        have r2 : w8.cell? ⟨b, o + i * 7 + 2, none⟩ = some (.string x.nm) := (HM8.out.bel.cell (p := ⟨b, o + i * 7 + 2, none⟩) HGl.out).trans HX2.out
        have r3 : w8.cell? ⟨b, o + i * 7 + 3, none⟩ = some (.int .i64 x.at_.1) := (HM8.out.bel.cell (p := ⟨b, o + i * 7 + 3, none⟩) HGl.out).trans HX3.out
        have r4 : w8.cell? ⟨b, o + i * 7 + 4, none⟩ = some (.int .i64 x.at_.2) := (HM8.out.bel.cell (p := ⟨b, o + i * 7 + 4, none⟩) HGl.out).trans HX4.out
        have r5 : w8.cell? ⟨b, o + i * 7 + 5, none⟩ = some (.string x.vl) := (HM8.out.bel.cell (p := ⟨b, o + i * 7 + 5, none⟩) HGl.out).trans HX5.out
        have r6 : w8.cell? ⟨b, o + i * 7 + 6, none⟩ = some (.bool x.gn) := (HM8.out.bel.cell (p := ⟨b, o + i * 7 + 6, none⟩) HGl.out).trans HX6.out
        go_wp2_with fail
        clear r0 r1 r2 r3 r4 r5 r6
        refine (put_any F rb (laidT (l.take i)) x _ HM8.out.row (by have := HLn.out; omega) HSm.out).mono ?_
        rintro e w7 ⟨rfl, hd⟩
        obtain ⟨F2, hM2, _⟩ := HM8.out.did hd
        have HM : Hid (LdS w rb F2 (.slice a8 (putC (laidT (l.take i)) x).length c8) (putC (laidT (l.take i)) x) (putC (laidT (l.take i)) x) w7) := hM2
        clear hd hM2 HM8
        have q7 : (chkR x != chkR x) = false := by simp
        go_wp2_with fail
        clear q7
        refine (all_v F2 _ (putC (laidT (l.take i)) x) _ HM.out.rv).mono ?_
        rintro e w6 ⟨u6, rfl, ho6, hb6⟩
        have HM6 : Hid (LdS w rb F2 (.slice a8 (putC (laidT (l.take i)) x).length c8) (putC (laidT (l.take i)) x) (putC (laidT (l.take i)) x) w6) := HM.out.below hb6
        have HO6 : Hid (LsE rgCells 7 (fun _ => True) w6 u6 (putC (laidT (l.take i)) x)) := ho6.lsE rgCells_len (by have := HLn2.out; omega) (fun _ _ => trivial)
        obtain ⟨a6, c6, e6⟩ := ho6.form
        subst e6
        clear ho6 hb6 HM
        go_wp2_with fail
        refine (refSame_any _ _ _ _ (putC (laidT (l.take i)) x) (putC (laidT (l.take i)) x) _ HO6.out HM6.out.doc).mono ?_
        rintro e w5 ⟨rfl, hb5⟩
        have HM5 : Hid (LdS w rb F2 (.slice a8 (putC (laidT (l.take i)) x).length c8) (putC (laidT (l.take i)) x) (putC (laidT (l.take i)) x) w5) := HM6.out.below hb5
        clear hb5 HM6 HO6
        rw [decide_eq_true rfl]
        go_wp2
        go_roundw
        case rel => exact ⟨i + 1, F2, by go_num, by omega, by omega, by (rw [HNx.out]; exact ⟨_, _, rfl, HM5⟩)⟩
        case measure => simp [intOf]; omega
      · have k2 : ¬ (i : Int) < 200 := by omega
        go_wp2_with fail
        refine (awake_any _).mono ?_
        rintro e w6 ⟨rfl, hb⟩
        have HBl : Hid (Below w.heap.size w w6) := HM.out.bel.trans (hb.mono HM.out.bel.size)
        clear hb
        go_wp2
        go_ret
        exact ⟨rfl, HBl.out⟩
    · have k1 : ¬ (i : Int) < (l.length : Int) := by omega
      go_wp2_with fail
      refine (awake_any _).mono ?_
      rintro e w6 ⟨rfl, hb⟩
      have HBl : Hid (Below w.heap.size w w6) := HM.out.bel.trans (hb.mono HM.out.bel.size)
      clear hb
      go_wp2
      go_ret
      exact ⟨rfl, HBl.out⟩

end Go.Proofs.Ytoljacnipkibiaa
