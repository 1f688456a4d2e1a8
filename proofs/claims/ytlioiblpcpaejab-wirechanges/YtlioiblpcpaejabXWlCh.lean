/- The walk of WireChanges. -/
import Derived.Test.YtlioiblpcpaejabXM
namespace Go.Proofs.Ytlioiblpcpaejab
open Go.RowKit
set_option linter.unusedVariables false
set_option linter.unusedSimpArgs false

theorem putCh_len (c : Ch) : (putCh c).1.length ≤ 1000 := by
  unfold putCh
  split
  · rename_i h; exact bytesCh_len h
  · simp
theorem getF_put {c : Ch} (h : (putCh c).2 = 0) : getF (putCh c).1 = (c, 0) := by
  unfold putCh at h ⊢
  split at h
  · rename_i hc; rw [if_pos hc]; exact getF_full hc
  · rename_i hc; exact absurd h hc
theorem putCh_get {p : List UInt8} (h : (getF p).2 = 0) : putCh (getF p).1 = (p, 0) := by
  obtain ⟨a, b⟩ := getF_sound h
  unfold putCh
  rw [if_pos a, b]

set_option maxRecDepth 100000 in
set_option maxHeartbeats 8000000 in
theorem wireChanges_walk (ac ar sq : Int) (dv : Value) (kd nc nr pc pr fc fr : Int) (nm vl : ByteArray) (ds : List Int) (v : Value) (p : List UInt8) (w : World) (h1 : IsI w dv ds) (hs : nm.size ≤ 281474976710656) (h3 : IsB w v p) (hp : p.length ≤ 140737488351232) :
    Calls Try.prog 3 #[.agg #[.int .i64 ac, .int .i64 ar, .int .i64 sq, dv, .int .i64 kd, .int .i64 nc, .int .i64 nr, .int .i64 pc, .int .i64 pr, .int .i64 fc, .int .i64 fr, .string nm, .string vl], v] w fun e w' => e = .returned (.bool true) ∧ Below w.heap.size w w' := by
  obtain ⟨a0, c0, e0⟩ := h1.form
  subst e0
  have K0 := KeptC.start w [.int .i64 ac, .int .i64 ar, .int .i64 sq, .slice a0 ds.length c0, .int .i64 kd, .int .i64 nc, .int .i64 nr, .int .i64 pc, .int .i64 pr, .int .i64 fc, .int .i64 fr, .string nm, .string vl] 26
  have H1 : Hid (IsI w (.slice a0 ds.length c0) ds) := h1
  have H3 : Hid (IsB w v p) := h3
  have hwl := putCh_len ⟨ac, ar, sq, ds, kd, nc, nr, pc, pr, fc, fr, nm, vl⟩
  obtain ⟨⟨B, ee⟩, eW⟩ : ∃ r, putCh ⟨ac, ar, sq, ds, kd, nc, nr, pc, pr, fc, fr, nm, vl⟩ = r := ⟨_, rfl⟩
  have HB : Hid (ee = 0 → getF B = (⟨ac, ar, sq, ds, kd, nc, nr, pc, pr, fc, fr, nm, vl⟩, 0)) := fun h => by
    have h0 := getF_put (c := ⟨ac, ar, sq, ds, kd, nc, nr, pc, pr, fc, fr, nm, vl⟩) (by rw [eW]; exact h)
    rw [eW] at h0
    exact h0
  have C1 : Hid (∀ W, IsI W (.slice a0 ds.length c0) ds → Calls Try.prog 5 #[.agg #[.int .i64 ac, .int .i64 ar, .int .i64 sq, .slice a0 ds.length c0, .int .i64 kd, .int .i64 nc, .int .i64 nr, .int .i64 pc, .int .i64 pr, .int .i64 fc, .int .i64 fr, .string nm, .string vl]] W fun e w' => ∃ v, e = .returned (.tuple #[v, .int .i64 ee]) ∧ OwnB W.heap.size w' v B ∧ Below W.heap.size W w') := fun W i1 => by
    have := putCh_any ac ar sq a0 ds c0 kd nc nr pc pr fc fr nm vl hs W i1
    rw [eW] at this
    exact this
  rw [eW] at hwl
  have hBl : B.length ≤ 140737488355328 := Nat.le_trans hwl (by decide)
  clear h1 h3 eW hwl
  have hdsz := getF_sized p
  obtain ⟨⟨d, e2⟩, eR⟩ : ∃ r, getF p = r := ⟨_, rfl⟩
  have HP : Hid (e2 = 0 → putCh d = (p, 0)) := fun h => by
    have h0 := putCh_get (p := p) (by rw [eR]; exact h)
    rw [eR] at h0
    exact h0
  have HD64 : Hid (e2 = 0 → d.deps.length ≤ 64) := fun h => by
    have h0 := (getF_sound (p := p) (by rw [eR]; exact h)).1
    rw [eR] at h0
    exact (clock_lays (fine _ h0).deps).1
  have C2 : Hid (∀ W, IsB W v p → Calls Try.prog 6 #[v] W fun e w' => GotCh d e2 W e w') := fun W hW => by
    have := get_any v p W hW (by omega)
    rw [eR] at this
    exact this
  rw [eR] at hdsz
  have HDS : Hid (Sized d) := hdsz
  clear eR hdsz
  obtain ⟨av, cv, ev⟩ := H3.out.form
  subst ev
  go_enter Try.func3, Try.ntmps3
  go_wp2_with fail
  refine (C1.out _ (H1.out.below K0.2.2)).mono ?_
  rintro e w1 ⟨v1, rfl, o1, hb1⟩
  have K1 := K0.step hb1
  have I1 : Hid (IsB w1 v1 B) := o1.isB (by omega)
  clear hb1 o1 K0 C1
  go_upto_if 19 with fail
  go_cut [] from 5 (fun W => KeptC w w.heap.size [.int .i64 ac, .int .i64 ar, .int .i64 sq, .slice a0 ds.length c0, .int .i64 kd, .int .i64 nc, .int .i64 nr, .int .i64 pc, .int .i64 pr, .int .i64 fc, .int .i64 fr, .string nm, .string vl] W)
  case first =>
    by_cases hee : ee = 0
    · have HRB := HB.out hee
      have C3 : Hid (∀ W, IsB W v1 B → Calls Try.prog 6 #[v1] W fun e w' => GotCh ⟨ac, ar, sq, ds, kd, nc, nr, pc, pr, fc, fr, nm, vl⟩ 0 W e w') := fun W hW => by
        have := get_any v1 B W hW hBl
        rw [HRB] at this
        exact this
      have hds : ds.length ≤ 64 := by
        have h0 := (getF_sound (p := B) (by rw [HRB])).1
        rw [HRB] at h0
        exact (clock_lays (fine _ h0).deps).1
      clear HRB HB
      subst hee
      go_wp2_with fail
      refine (C3.out _ I1.out).mono ?_
      rintro e w2 ⟨dv, rfl, o3, hb2⟩
      obtain ⟨a3, c3, e3⟩ := o3.form
      subst e3
      simp only [chCells]
      have K2 := K1.step hb2
      have I3 : Hid (IsI w2 (.slice a3 ds.length c3) ds) := o3.isI (by show ds.length ≤ _; omega)
      clear o3 hb2 K1 I1 C3
      have BA : Hid (Below w2.heap.size w2 (w2.alloc (.cells #[.int .i64 ac, .int .i64 ar, .int .i64 sq, .slice a3 ds.length c3, .int .i64 kd, .int .i64 nc, .int .i64 nr, .int .i64 pc, .int .i64 pr, .int .i64 fc, .int .i64 fr, .string nm, .string vl] 26))) := (Below.refl _ _).alloc (Nat.le_refl _) _
      have KA := K2.step BA.out
      have KG := KeptC.start w2 [.int .i64 ac, .int .i64 ar, .int .i64 sq, .slice a3 ds.length c3, .int .i64 kd, .int .i64 nc, .int .i64 nr, .int .i64 pc, .int .i64 pr, .int .i64 fc, .int .i64 fr, .string nm, .string vl] 26
      obtain ⟨k_0, k_1, k_2, k_3, k_4, k_5, k_6, k_7, k_8, k_9, k_10, k_11, k_12⟩ := KA.cells13
      obtain ⟨j_0, j_1, j_2, j_3, j_4, j_5, j_6, j_7, j_8, j_9, j_10, j_11, j_12⟩ := KG.cells13
      go_wp2_with fail
      refine (refSameCh_eq ac ar sq (.slice a0 ds.length c0) (.slice a3 ds.length c3) kd nc nr pc pr fc fr nm vl ds _ (H1.out.below KA.2.2) (I3.out.below BA.out)).mono ?_
      rintro e w3 ⟨rfl, hb3⟩
      have K3 := KA.step hb3
      clear k_0 k_1 k_2 k_3 k_4 k_5 k_6 k_7 k_8 k_9 k_10 k_11 k_12 j_0 j_1 j_2 j_3 j_4 j_5 j_6 j_7 j_8 j_9 j_10 j_11 j_12 hb3 KA KG BA K2
      go_wp2
      go_meet
      case rel => exact K3
    · have q : (ee == 0) = false := by simp [hee]
      clear hee
      go_wp2
      go_meet
      case rel => exact K1
  case rest =>
    have K2 := hcut
    clear hcut K1 I1 HB
    go_wp2_with fail
    refine (C2.out _ (H3.out.below K2.2.2)).mono ?_
    rintro e w3 ⟨dv, rfl, o5, hb3⟩
    obtain ⟨a5, c5, e5⟩ := o5.form
    subst e5
    simp only [chCells]
    have K3 := K2.step hb3
    have BA : Hid (Below w3.heap.size w3 (w3.alloc (.cells #[.int .i64 d.ac, .int .i64 d.ar, .int .i64 d.seq, .slice a5 d.deps.length c5, .int .i64 d.kind, .int .i64 d.nc, .int .i64 d.nr, .int .i64 d.pc, .int .i64 d.pr, .int .i64 d.fc, .int .i64 d.fr, .string d.name, .string d.value] 26))) := (Below.refl _ _).alloc (Nat.le_refl _) _
    have K4 := K3.step BA.out
    have KG := KeptC.start w3 [.int .i64 d.ac, .int .i64 d.ar, .int .i64 d.seq, .slice a5 d.deps.length c5, .int .i64 d.kind, .int .i64 d.nc, .int .i64 d.nr, .int .i64 d.pc, .int .i64 d.pr, .int .i64 d.fc, .int .i64 d.fr, .string d.name, .string d.value] 26
    have O5 : Hid (OwnI w3.heap.size (w3.alloc (.cells #[.int .i64 d.ac, .int .i64 d.ar, .int .i64 d.seq, .slice a5 d.deps.length c5, .int .i64 d.kind, .int .i64 d.nc, .int .i64 d.nr, .int .i64 d.pc, .int .i64 d.pr, .int .i64 d.fc, .int .i64 d.fr, .string d.name, .string d.value] 26)) (.slice a5 d.deps.length c5) d.deps ∨ OwnI wc.heap.size (w3.alloc (.cells #[.int .i64 d.ac, .int .i64 d.ar, .int .i64 d.seq, .slice a5 d.deps.length c5, .int .i64 d.kind, .int .i64 d.nc, .int .i64 d.nr, .int .i64 d.pc, .int .i64 d.pr, .int .i64 d.fc, .int .i64 d.fr, .string d.name, .string d.value] 26)) (.slice a5 d.deps.length c5) d.deps) := .inr (o5.below BA.out)
    clear hb3 o5 K2 K3 BA C2
    go_upto_if 39 with fail
    go_cut [] from 5 (fun W => Below w.heap.size w W)
    case first =>
      by_cases hee : e2 = 0
      · have HWB := HP.out hee
        have hd64 := HD64.out hee
        have I5 : Hid (IsI (w3.alloc (.cells #[.int .i64 d.ac, .int .i64 d.ar, .int .i64 d.seq, .slice a5 d.deps.length c5, .int .i64 d.kind, .int .i64 d.nc, .int .i64 d.nr, .int .i64 d.pc, .int .i64 d.pr, .int .i64 d.fc, .int .i64 d.fr, .string d.name, .string d.value] 26)) (.slice a5 d.deps.length c5) d.deps) := O5.out.elim (fun h => h.isI (by omega)) (fun h => h.isI (by omega))
        have C4 : Hid (∀ W, IsI W (.slice a5 d.deps.length c5) d.deps → Calls Try.prog 5 #[.agg #[.int .i64 d.ac, .int .i64 d.ar, .int .i64 d.seq, .slice a5 d.deps.length c5, .int .i64 d.kind, .int .i64 d.nc, .int .i64 d.nr, .int .i64 d.pc, .int .i64 d.pr, .int .i64 d.fc, .int .i64 d.fr, .string d.name, .string d.value]] W fun e w' => ∃ v, e = .returned (.tuple #[v, .int .i64 0]) ∧ OwnB W.heap.size w' v p ∧ Below W.heap.size W w') := fun W i1 => by
          have := putCh_any d.ac d.ar d.seq a5 d.deps c5 d.kind d.nc d.nr d.pc d.pr d.fc d.fr d.name d.value HDS.out.1 W i1
          have ef : (⟨d.ac, d.ar, d.seq, d.deps, d.kind, d.nc, d.nr, d.pc, d.pr, d.fc, d.fr, d.name, d.value⟩ : Ch) = d := rfl
          rw [ef, HWB] at this
          exact this
        clear HWB HP
        subst hee
        obtain ⟨j_0, j_1, j_2, j_3, j_4, j_5, j_6, j_7, j_8, j_9, j_10, j_11, j_12⟩ := KG.cells13
        go_wp2_with fail
        refine (C4.out _ I5.out).mono ?_
        rintro e w5 ⟨v5, rfl, o5, hb5⟩
        have K5 := K4.step hb5
        have cv1 := conv_txt (o5.isB H3.out.len)
        have cv2 := conv_txt (H3.out.below K5.2.2)
        have qb : ((txt p).toList != (txt p).toList) = false := by simp
        clear j_0 j_1 j_2 j_3 j_4 j_5 j_6 j_7 j_8 j_9 j_10 j_11 j_12 hb5 o5 K4 KG I5 O5 C4
        go_wp2
        go_meet
        case rel => exact K5.2.2
      · have q : (e2 == 0) = false := by simp [hee]
        clear hee
        go_wp2
        go_meet
        case rel => exact K4.2.2
    case rest =>
      have B6 := hcut
      clear hcut K4 KG O5 HP
      go_wp2_with fail
      refine (wawake_any _).mono ?_
      rintro e w7 ⟨rfl, hb7⟩
      go_wp2
      go_ret
      exact ⟨rfl, B6.trans (hb7.mono B6.size)⟩

end Go.Proofs.Ytlioiblpcpaejab
