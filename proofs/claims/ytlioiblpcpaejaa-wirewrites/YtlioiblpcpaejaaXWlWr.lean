/- The walk of WireWrites. -/
import Derived.Test.YtlioiblpcpaejaaXM
import Derived.Test.YtlioiblpcpaejaaXWdR
import Derived.Test.YtlioiblpcpaejaaXWdW
namespace Go.Proofs.Ytlioiblpcpaejaa
open Go.RowKit
set_option linter.unusedVariables false
set_option linter.unusedSimpArgs false

theorem writeF_lenP (f : Fr) : (writeF f).1.length ≤ 281474976710656 := by
  unfold writeF
  split
  · rename_i h
    have h0 := loadFr_len h
    have h1 := frameL_length f.kind.toNat (loadFr f)
    show (frameL f.kind.toNat (loadFr f)).length ≤ _
    omega
  · simp

set_option maxRecDepth 100000 in
set_option maxHeartbeats 8000000 in
theorem wireWrites_walk (kd fm : Int) (a1 : Option Addr) (cl : List Int) (cc : Nat) (mo : Bool) (a2 : Option Addr) (L : List Ch) (ch : Nat) (w : World) (h1 : IsI w (.slice a1 cl.length cc) cl) (h2 : IsH w (.slice a2 L.length ch) L) (hl : L.length * 136 ≤ 140737488355328) :
    Calls Try.prog 6 #[.agg #[.int .i64 kd, .int .i64 fm, .slice a1 cl.length cc, .bool mo, .slice a2 L.length ch]] w fun e w' => e = .returned (.bool true) ∧ Below w.heap.size w w' := by
  have K0 := KeptC.start w [.int .i64 kd, .int .i64 fm, .slice a1 cl.length cc, .bool mo, .slice a2 L.length ch] 40
  have H1 : Hid (IsI w (.slice a1 cl.length cc) cl) := h1
  have H2 : Hid (IsH w (.slice a2 L.length ch) L) := h2
  have hwl := writeF_lenP ⟨kd, fm, cl, mo, L⟩
  obtain ⟨⟨B, ee⟩, eW⟩ : ∃ r, writeF ⟨kd, fm, cl, mo, L⟩ = r := ⟨_, rfl⟩
  have C1 : Hid (∀ W a3 c3 a4 c4, IsI W (.slice a3 cl.length c3) cl → IsH W (.slice a4 L.length c4) L → Calls Try.prog 18 #[.agg #[.int .i64 kd, .int .i64 fm, .slice a3 cl.length c3, .bool mo, .slice a4 L.length c4]] W fun e w' => ∃ v, e = .returned (.tuple #[v, .int .i64 ee]) ∧ OwnB W.heap.size w' v B ∧ Below W.heap.size W w') := fun W a3 c3 a4 c4 i1 i2 => by
    have := write_any kd fm a3 cl c3 mo a4 L c4 W i1 i2
    rw [eW] at this
    exact this
  have C2 : Hid (∀ W, IsI W (.slice a1 cl.length cc) cl → IsH W (.slice a2 L.length ch) L → Calls Try.prog 19 #[.agg #[.int .i64 kd, .int .i64 fm, .slice a1 cl.length cc, .bool mo, .slice a2 L.length ch]] W fun e w' => ∃ v, e = .returned (.tuple #[v, .int .i64 ee]) ∧ OwnB W.heap.size w' v B ∧ Below W.heap.size W w') := fun W i1 i2 => by
    have := refWrite_any kd fm a1 cl cc mo a2 L ch W i1 i2
    rw [eW] at this
    exact this
  rw [eW] at hwl
  have hBl : B.length ≤ 281474976710656 := hwl
  clear h1 h2 eW hwl
  go_enter Try.func6, Try.ntmps6
  go_wp2_with fail
  refine (copyFr_any kd fm a1 cl cc mo a2 L ch _ (H1.out.below K0.2.2) (H2.out.below K0.2.2) hl).mono ?_
  rintro e w1 ⟨a3, c3, a4, c4, rfl, i3, i4, hb1⟩
  have K1 := K0.step hb1
  have I3 : Hid (IsI w1 (.slice a3 cl.length c3) cl) := i3
  have I4 : Hid (IsH w1 (.slice a4 L.length c4) L) := i4
  clear i3 i4 hb1 K0
  have BA : Hid (Below w1.heap.size w1 (w1.alloc (.cells #[.int .i64 kd, .int .i64 fm, .slice a3 cl.length c3, .bool mo, .slice a4 L.length c4] 40))) := (Below.refl _ _).alloc (Nat.le_refl _) _
  have KA := K1.step BA.out
  have KG := KeptC.start w1 [.int .i64 kd, .int .i64 fm, .slice a3 cl.length c3, .bool mo, .slice a4 L.length c4] 40
  go_wp2_with fail
  refine (C1.out _ a3 c3 a4 c4 (I3.out.below BA.out) (I4.out.below BA.out)).mono ?_
  rintro e w2 ⟨v2, rfl, o2, hb2⟩
  have K2 := KA.step hb2
  have G2 := KG.step hb2
  have P2 : Hid (IsB w2 v2 B) := o2.isB hBl
  clear o2 hb2 KA KG BA K1
  obtain ⟨k_0, k_1, k_2, k_3, k_4⟩ := K2.five
  go_wp2_with fail
  refine (C2.out _ (H1.out.below K2.2.2) (H2.out.below K2.2.2)).mono ?_
  rintro e w3 ⟨v3, rfl, o3, hb3⟩
  have K3 := K2.step hb3
  have G3 := G2.step hb3
  have cv1 := conv_txt (o3.isB hBl)
  have cv2 := conv_txt (P2.out.below hb3)
  have q1 : ((txt B).toList == (txt B).toList) = true := by simp
  have q2 : (ee == ee) = true := by simp
  clear k_0 k_1 k_2 k_3 k_4 o3 hb3 K2 G2 P2
  obtain ⟨k_0, k_1, k_2, k_3, k_4⟩ := K3.five
  obtain ⟨j_0, j_1, j_2, j_3, j_4⟩ := G3.five
  go_wp2_with fail
  refine (sameFr_eq kd fm a3 cl c3 mo a4 L c4 a1 cc a2 ch _ (I3.out.below G3.2.2) (I4.out.below G3.2.2) (H1.out.below K3.2.2) (H2.out.below K3.2.2)).mono ?_
  rintro e w4 ⟨rfl, hb4⟩
  have K4 := K3.step hb4
  clear k_0 k_1 k_2 k_3 k_4 j_0 j_1 j_2 j_3 j_4 hb4 K3 G3 cv1 cv2
  go_wp2_with fail
  refine (wawake_any _).mono ?_
  rintro e w5 ⟨rfl, hb5⟩
  have K5 := K4.step hb5
  go_wp2
  go_ret
  exact ⟨rfl, K5.2.2⟩

end Go.Proofs.Ytlioiblpcpaejaa
