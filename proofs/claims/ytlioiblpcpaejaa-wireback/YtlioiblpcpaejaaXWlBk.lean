/- The walk of WireBack. -/
import Derived.Test.YtlioiblpcpaejaaXM
namespace Go.Proofs.Ytlioiblpcpaejaa
open Go.RowKit
set_option linter.unusedVariables false
set_option linter.unusedSimpArgs false

theorem writeF_len (f : Fr) : (writeF f).1.length ≤ 65545 := by
  unfold writeF
  split
  · rename_i h
    have := loadFr_len h
    rw [frameL_length]
    omega
  · simp

set_option maxRecDepth 100000 in
set_option maxHeartbeats 8000000 in
theorem wireBack_walk (kd fm : Int) (a1 : Option Addr) (cl : List Int) (cc : Nat) (mo : Bool) (a2 : Option Addr) (L : List Ch) (ch : Nat) (v : Value) (p : List UInt8) (w : World) (h1 : IsI w (.slice a1 cl.length cc) cl) (h2 : IsH w (.slice a2 L.length ch) L) (h3 : IsB w v p) :
    Calls Try.prog 7 #[.agg #[.int .i64 kd, .int .i64 fm, .slice a1 cl.length cc, .bool mo, .slice a2 L.length ch], v] w fun e w' => e = .returned (.bool true) ∧ Below w.heap.size w w' := by
  have K0 := KeptC.start w [.int .i64 kd, .int .i64 fm, .slice a1 cl.length cc, .bool mo, .slice a2 L.length ch] 40
  have H1 : Hid (IsI w (.slice a1 cl.length cc) cl) := h1
  have H2 : Hid (IsH w (.slice a2 L.length ch) L) := h2
  have H3 : Hid (IsB w v p) := h3
  have hwl := writeF_len ⟨kd, fm, cl, mo, L⟩
  obtain ⟨⟨B, ee⟩, eW⟩ : ∃ r, writeF ⟨kd, fm, cl, mo, L⟩ = r := ⟨_, rfl⟩
  have HB : Hid (ee = 0 → readF B = (⟨kd, fm, cl, mo, L⟩, 0)) := fun h => by
    have h0 := (readF_write (f := ⟨kd, fm, cl, mo, L⟩) (by rw [eW]; exact h)).2
    rw [eW] at h0
    exact h0
  have C1 : Hid (∀ W, IsI W (.slice a1 cl.length cc) cl → IsH W (.slice a2 L.length ch) L → Calls Try.prog 18 #[.agg #[.int .i64 kd, .int .i64 fm, .slice a1 cl.length cc, .bool mo, .slice a2 L.length ch]] W fun e w' => ∃ v, e = .returned (.tuple #[v, .int .i64 ee]) ∧ OwnB W.heap.size w' v B ∧ Below W.heap.size W w') := fun W i1 i2 => by
    have := write_any kd fm a1 cl cc mo a2 L ch W i1 i2
    rw [eW] at this
    exact this
  rw [eW] at hwl
  have hBl : B.length ≤ 281474976710656 := Nat.le_trans hwl (by decide)
  clear h1 h2 h3 eW hwl
  obtain ⟨⟨f2, e2⟩, eR⟩ : ∃ r, readF p = r := ⟨_, rfl⟩
  have HP : Hid (e2 = 0 → writeF f2 = (p, 0)) := fun h => by
    have h0 := writeF_read (p := p) (by rw [eR]; exact h)
    rw [eR] at h0
    exact h0
  have C2 : Hid (∀ W, IsB W v p → Calls Try.prog 21 #[v] W fun e w' => GotFr f2 e2 W e w') := fun W hW => by
    have := read_any v p W hW
    rw [eR] at this
    exact this
  clear eR
  obtain ⟨av, cv, ev⟩ := H3.out.form
  subst ev
  go_enter Try.func7, Try.ntmps7
  go_wp2_with fail
  refine (C1.out _ (H1.out.below K0.2.2) (H2.out.below K0.2.2)).mono ?_
  rintro e w1 ⟨v1, rfl, o1, hb1⟩
  have K1 := K0.step hb1
  have I1 : Hid (IsB w1 v1 B) := o1.isB hBl
  clear hb1 o1 K0 C1
  go_upto_if 19 with fail
  go_cut [] from 5 (fun W => KeptC w w.heap.size [.int .i64 kd, .int .i64 fm, .slice a1 cl.length cc, .bool mo, .slice a2 L.length ch] W)
  case first =>
    by_cases hee : ee = 0
    · have HRB := HB.out hee
      have C3 : Hid (∀ W, IsB W v1 B → Calls Try.prog 21 #[v1] W fun e w' => GotFr ⟨kd, fm, cl, mo, L⟩ 0 W e w') := fun W hW => by
        have := read_any v1 B W hW
        rw [HRB] at this
        exact this
      clear HRB HB
      subst hee
      go_wp2_with fail
      refine (C3.out _ I1.out).mono ?_
      rintro e w2 ⟨a3, c3, a4, c4, rfl, i3, i4, hb2⟩
      simp only at i3 i4 ⊢
      have K2 := K1.step hb2
      have I3 : Hid (IsI w2 (.slice a3 cl.length c3) cl) := i3
      have I4 : Hid (IsH w2 (.slice a4 L.length c4) L) := i4
      clear i3 i4 hb2 K1 I1 C3
      have BA : Hid (Below w2.heap.size w2 (w2.alloc (.cells #[.int .i64 kd, .int .i64 fm, .slice a3 cl.length c3, .bool mo, .slice a4 L.length c4] 40))) := (Below.refl _ _).alloc (Nat.le_refl _) _
      have KA := K2.step BA.out
      have KG := KeptC.start w2 [.int .i64 kd, .int .i64 fm, .slice a3 cl.length c3, .bool mo, .slice a4 L.length c4] 40
      obtain ⟨k_0, k_1, k_2, k_3, k_4⟩ := KA.five
      obtain ⟨j_0, j_1, j_2, j_3, j_4⟩ := KG.five
      go_wp2_with fail
      refine (sameFr_eq kd fm a1 cl cc mo a2 L ch a3 c3 a4 c4 _ (H1.out.below KA.2.2) (H2.out.below KA.2.2) (I3.out.below BA.out) (I4.out.below BA.out)).mono ?_
      rintro e w3 ⟨rfl, hb3⟩
      have K3 := KA.step hb3
      clear k_0 k_1 k_2 k_3 k_4 j_0 j_1 j_2 j_3 j_4 hb3 KA KG BA K2
      go_wp2
      go_meet
      case rel => exact K3
    · have q : (ee == 0) = false := by simp [hee]
      clear hee
      go_wp2
      go_meet
      case rel => exact K1
  case rest =>
    have K2 := hcut
    clear hcut K1 I1 HB
    go_wp2_with fail
    refine (C2.out _ (H3.out.below K2.2.2)).mono ?_
    rintro e w3 ⟨a5, c5, a6, c6, rfl, i5, i6, hb3⟩
    have K3 := K2.step hb3
    have BA : Hid (Below w3.heap.size w3 (w3.alloc (.cells #[.int .i64 f2.kind, .int .i64 f2.from_, .slice a5 f2.clock.length c5, .bool f2.more, .slice a6 f2.changes.length c6] 40))) := (Below.refl _ _).alloc (Nat.le_refl _) _
    have K4 := K3.step BA.out
    have KG := KeptC.start w3 [.int .i64 f2.kind, .int .i64 f2.from_, .slice a5 f2.clock.length c5, .bool f2.more, .slice a6 f2.changes.length c6] 40
    have I5 : Hid (IsI (w3.alloc (.cells #[.int .i64 f2.kind, .int .i64 f2.from_, .slice a5 f2.clock.length c5, .bool f2.more, .slice a6 f2.changes.length c6] 40)) (.slice a5 f2.clock.length c5) f2.clock) := i5.below BA.out
    have I6 : Hid (IsH (w3.alloc (.cells #[.int .i64 f2.kind, .int .i64 f2.from_, .slice a5 f2.clock.length c5, .bool f2.more, .slice a6 f2.changes.length c6] 40)) (.slice a6 f2.changes.length c6) f2.changes) := i6.below BA.out
    clear hb3 i5 i6 K2 K3 BA C2
    go_upto_if 39 with fail
    go_cut [] from 5 (fun W => Below w.heap.size w W)
    case first =>
      by_cases hee : e2 = 0
      · have HWB := HP.out hee
        have C4 : Hid (∀ W, IsI W (.slice a5 f2.clock.length c5) f2.clock → IsH W (.slice a6 f2.changes.length c6) f2.changes → Calls Try.prog 18 #[.agg #[.int .i64 f2.kind, .int .i64 f2.from_, .slice a5 f2.clock.length c5, .bool f2.more, .slice a6 f2.changes.length c6]] W fun e w' => ∃ v, e = .returned (.tuple #[v, .int .i64 0]) ∧ OwnB W.heap.size w' v p ∧ Below W.heap.size W w') := fun W i1 i2 => by
          have := write_any f2.kind f2.from_ a5 f2.clock c5 f2.more a6 f2.changes c6 W i1 i2
          have ef : (⟨f2.kind, f2.from_, f2.clock, f2.more, f2.changes⟩ : Fr) = f2 := rfl
          rw [ef, HWB] at this
          exact this
        clear HWB HP
        subst hee
        obtain ⟨j_0, j_1, j_2, j_3, j_4⟩ := KG.five
        go_wp2_with fail
        refine (C4.out _ I5.out I6.out).mono ?_
        rintro e w5 ⟨v5, rfl, o5, hb5⟩
        have K5 := K4.step hb5
        have cv1 := conv_txt (o5.isB H3.out.len)
        have cv2 := conv_txt (H3.out.below K5.2.2)
        have qb : ((txt p).toList != (txt p).toList) = false := by simp
        clear j_0 j_1 j_2 j_3 j_4 hb5 o5 K4 KG I5 I6 C4
        go_wp2
        go_meet
        case rel => exact K5.2.2
      · have q : (e2 == 0) = false := by simp [hee]
        clear hee
        go_wp2
        go_meet
        case rel => exact K4.2.2
    case rest =>
      have B6 := hcut
      clear hcut K4 KG I5 I6 HP
      go_wp2_with fail
      refine (wawake_any _).mono ?_
      rintro e w7 ⟨rfl, hb7⟩
      go_wp2
      go_ret
      exact ⟨rfl, B6.trans (hb7.mono B6.size)⟩

end Go.Proofs.Ytlioiblpcpaejaa
