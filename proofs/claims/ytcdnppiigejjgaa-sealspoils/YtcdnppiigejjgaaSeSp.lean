/- SealSpoils: bytes of which one is turned. -/
import Derived.Test.YtcdnppiigejjgaaSeG
namespace Go.Proofs.Ytcdnppiigejjgaa
open Go.RowKit
set_option linter.unusedVariables false

theorem spoilL_length (p : List UInt8) (at_ mask : Int) : (spoilL p at_ mask).1.length ≤ p.length := by
  unfold spoilL
  split
  · split <;> simp
  · simp

set_option maxRecDepth 100000 in
set_option maxHeartbeats 2000000 in
theorem sealSpoils_walk (v : Value) (p : List UInt8) (at_ mask : Int) (w : World) (h : IsB w v p) (hp : p.length ≤ 140737488351232) (hat : (Lit.int IntKind.i64 at_).wf = true) (hm : (Lit.int IntKind.i64 mask).wf = true) :
    Calls Try.prog 6 #[v, .int .i64 at_, .int .i64 mask] w fun e w' => e = .returned (.bool true) ∧ Below w.heap.size w w' := by
  have HM : Hid (-9223372036854775808 ≤ mask ∧ mask < 9223372036854775808) := bounds_int hm
  have H : Hid (IsB w v p) := h
  obtain ⟨a1, c1, rfl, hc1, hl1, r1⟩ := h
  have HLen : Hid ((spoilL p at_ mask).1.length ≤ 281474976710656) := Nat.le_trans (spoilL_length p at_ mask) hl1
  clear r1 hm hat
  go_enter Try.func6, Try.ntmps6
  go_wp2_with (at_builtin; refine wpList_copyE rfl _ _ rfl _ p rfl rfl H.out (by omega) ?_; intro v1 w1 ho1 hb1; have HO1 : Hid (OwnB w.heap.size w1 v1 p) := ho1; have HB1 : Hid (Below w.heap.size w w1) := hb1; clear ho1 hb1)
  refine (spoil_any _ p at_ mask _ (HO1.out.isB hl1) (by omega)).mono ?_
  rintro e w2 ⟨v2, rfl, ho2, hb2⟩
  have HB2 : Hid (Below w.heap.size w w2) := HB1.out.trans (hb2.mono HB1.out.size)
  have HI1 : Hid (IsB w2 v1 p) := (HO1.out.isB hl1).below hb2
  have HI2 : Hid (IsB w2 v2 (spoilL p at_ mask).1) := ho2.isB HLen.out
  clear ho2 hb2
  go_wp2_with fail
  refine (refSpoil_any _ p at_ mask _ (H.out.below HB2.out) (by omega) HM.out).mono ?_
  rintro e w3 ⟨v3, rfl, ho3, hb3⟩
  have HB3 : Hid (Below w.heap.size w w3) := HB2.out.trans (hb3.mono HB2.out.size)
  have cv0 := conv_txt (H.out.below HB3.out)
  have cv1 := conv_txt (HI1.out.below hb3)
  have cv2 := conv_txt (HI2.out.below hb3)
  have cv3 := conv_txt (ho3.isB HLen.out)
  clear ho3 hb3
  generalize (spoilL p at_ mask).2 = y at *
  generalize txt (spoilL p at_ mask).1 = s at *
  generalize txt p = t at *
  have qy : (y == y) = true := by simp
  have qs : (s.toList == s.toList) = true := by simp
  have qt : (t.toList == t.toList) = true := by simp
  go_wp2_with (go_at_call 11; refine (awake_any _).mono ?_; rintro e w4 ⟨rfl, hb4⟩)
  go_ret
  exact ⟨rfl, HB3.out.trans (hb4.mono HB3.out.size)⟩

end Go.Proofs.Ytcdnppiigejjgaa
