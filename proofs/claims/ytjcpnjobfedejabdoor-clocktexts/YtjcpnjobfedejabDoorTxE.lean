/- The walk of ClockTexts: for every list of numbers and every text it returns true. -/
import Derived.Test.YtjcpnjobfedejabDoorTxB
import Derived.Test.YtjcpnjobfedejabDoorTxD
import Derived.Test.YtjcpnjobfedejabDoorCkW
namespace Go.Proofs.YtjcpnjobfedejabDoor
open Go.RowKit
set_option linter.unusedVariables false

set_option maxHeartbeats 2000000 in
set_option maxRecDepth 100000 in
theorem clockTexts_walk (v1 : Value) (d1 : List Int) (s : ByteArray) (w : World) (h1 : IsI w v1 d1) (hs : s.size ≤ 281474976710656) (he : Env w) :
    Calls Tryd.prog 3 #[v1, .string s] w fun e w' => e = .returned (.bool true) ∧ Below w.heap.size w w' := by
  have H1 : Hid (IsI w v1 d1) := h1
  have HEnv : Hid (Env w) := he
  clear h1 he
  go_enter Tryd.func3, Tryd.ntmps3
  go_wp2_with fail
  refine (text_any _ d1 _ H1.out HEnv.out).mono ?_
  rintro e w1 ⟨rfl, hb1⟩
  have J1 : Hid (IsI w1 v1 d1) := H1.out.below hb1
  have HB1 : Hid (Below w.heap.size w w1) := hb1
  clear hb1
  go_wp2_with fail
  refine (refText_any _ d1 _ J1.out).mono ?_
  rintro e w2 ⟨rfl, hb2⟩
  have HB2 : Hid (Below w.heap.size w w2) := HB1.out.trans (hb2.mono HB1.out.size)
  clear hb2
  go_wp2_with fail
  refine (parseK_any s hs _ (HEnv.out.below HB2.out)).mono ?_
  rintro e w3 ⟨v3, d3, k3, rfl, ho3, hl3, hp3, hb3⟩
  have HI3 : Hid (IsI w3 v3 d3) := ho3.isI (by omega)
  have HP3 : Hid (ParseC s.data.toList d3 k3) := hp3
  have HB3 : Hid (Below w.heap.size w w3) := HB2.out.trans (hb3.mono HB2.out.size)
  clear ho3 hp3 hb3
  go_wp2_with fail
  refine (refParse_any s hs _).mono ?_
  rintro e w4 ⟨v4, d4, k4, rfl, ho4, hl4, hp4, hb4⟩
  obtain ⟨e1, e2⟩ := ParseC.unique HP3.out hp4
  subst e1 e2
  have HI4 : Hid (IsI w4 v4 d3) := ho4.isI (by omega)
  have HI3b : Hid (IsI w4 v3 d3) := HI3.out.below hb4
  have HB4 : Hid (Below w.heap.size w w4) := HB3.out.trans (hb4.mono HB3.out.size)
  clear ho4 hp4 hb4 hl4
  have q1 : (checkL d1 == checkL d1) = true := by simp
  have q2 : (k3 == k3) = true := by simp
  have q3 : (textC d1 == textC d1) = true := by simp
  go_wp2_with fail
  refine (sameI_any _ _ d3 d3 _ HI3b.out HI4.out).mono ?_
  rintro e w5 ⟨rfl, hb5⟩
  have ds : decide (d3 = d3) = true := by simp
  rw [ds]
  have bel5 : Below w.heap.size w w5 := HB4.out.trans (hb5.mono HB4.out.size)
  clear hb5
  go_wp2_with fail
  refine (awake_any _).mono ?_
  rintro e w6 ⟨rfl, hb6⟩
  go_wp2
  go_ret
  exact ⟨rfl, bel5.trans (hb6.mono bel5.size)⟩

end Go.Proofs.YtjcpnjobfedejabDoor
