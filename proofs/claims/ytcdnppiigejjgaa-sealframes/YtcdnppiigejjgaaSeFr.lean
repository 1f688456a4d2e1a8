/- SealFrames: the frame of any load. -/
import Derived.Test.YtcdnppiigejjgaaSeE
namespace Go.Proofs.Ytcdnppiigejjgaa
open Go.RowKit
set_option linter.unusedVariables false

theorem sealL_length (kind : Int) (p : List UInt8) : (sealL kind p).1.length ≤ 65545 := by
  unfold sealL
  split
  · split
    · rw [frameL_length]; omega
    · simp
  · simp

set_option maxRecDepth 100000 in
set_option maxHeartbeats 2000000 in
theorem sealFrames_walk (kind : Int) (v : Value) (p : List UInt8) (w : World) (hk : (Lit.int IntKind.i64 kind).wf = true) (h : IsB w v p) :
    Calls Try.prog 4 #[.int .i64 kind, v] w fun e w' => e = .returned (.bool true) ∧ Below w.heap.size w w' := by
  have H : Hid (IsB w v p) := h
  obtain ⟨a1, c1, rfl, hc1, hl1, r1⟩ := h
  have HLen : Hid ((sealL kind p).1.length ≤ 281474976710656) := Nat.le_trans (sealL_length kind p) (by omega)
  clear r1 hk
  go_enter Try.func4, Try.ntmps4
  go_wp2_with fail
  refine (seal_any kind _ p _ H.out).mono ?_
  rintro e w2 ⟨v2, rfl, ho2, hb2⟩
  have HB2 : Hid (Below w.heap.size w w2) := hb2
  have HI2 : Hid (IsB w2 v2 (sealL kind p).1) := ho2.isB HLen.out
  clear ho2 hb2
  go_wp2_with fail
  refine (refSeal_any kind _ p _ (H.out.below HB2.out)).mono ?_
  rintro e w3 ⟨v3, rfl, ho3, hb3⟩
  have HB3 : Hid (Below w.heap.size w w3) := HB2.out.trans (hb3.mono HB2.out.size)
  have cv2 := conv_txt (HI2.out.below hb3)
  have cv3 := conv_txt (ho3.isB HLen.out)
  clear ho3 hb3
  generalize (sealL kind p).2 = y at *
  generalize txt (sealL kind p).1 = s at *
  have qy : (y == y) = true := by simp
  have qs : (s.toList == s.toList) = true := by simp
  go_wp2_with (go_at_call 11; refine (awake_any _).mono ?_; rintro e w4 ⟨rfl, hb4⟩)
  go_ret
  exact ⟨rfl, HB3.out.trans (hb4.mono HB3.out.size)⟩

end Go.Proofs.Ytcdnppiigejjgaa
