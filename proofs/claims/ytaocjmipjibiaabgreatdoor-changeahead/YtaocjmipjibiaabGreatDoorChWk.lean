/- awake answers true: the program parses the awake text, tells it again, finds it right. -/
import Derived.Test.YtaocjmipjibiaabGreatDoorChPa
import Derived.Test.YtaocjmipjibiaabGreatDoorPlainK
namespace Go.Proofs.YtaocjmipjibiaabGreatDoor
open Go.RowKit
set_option linter.unusedVariables false
set_option linter.unusedSimpArgs false

set_option maxRecDepth 100000 in
set_option maxHeartbeats 4000000 in
theorem awake5_any (w : World) (he : Env w) :
    Calls Tryz.prog 8 #[] w fun e w' => e = .returned (.bool true) ∧ Below w.heap.size w w' := by
  have HEnv : Hid (Env w) := he
  clear he
  go_enter Tryz.func8, Tryz.ntmps8
  go_wp2_with fail
  refine (parseCh_any _ _ HEnv.out).mono ?_
  rintro e w1 ⟨ac, ar, sq, dv, ds, kd, nc, nr, pc, pr, fc, fr, nm, vl, k, rfl, hp, hI, hnm, hb1⟩
  obtain ⟨e1, e2⟩ := wake_is hp
  simp only [wakeC, Ch.mk.injEq] at e1
  obtain ⟨rfl, rfl, rfl, rfl, rfl, rfl, rfl, rfl, rfl, rfl, rfl, rfl, rfl⟩ := e1
  subst e2
  obtain ⟨ad, cpd, edv⟩ := hI.form
  simp only [List.length_cons, List.length_nil, Nat.zero_add] at edv
  subst edv
  have HI : Hid (IsI w1 (.slice ad 1 cpd) [2]) := hI
  have HB1 : Hid (Below w.heap.size w w1) := hb1
  have HE1 : Hid (Env w1) := HEnv.out.below hb1
  clear hp hI hb1 hnm
  have K1 := KeptC.start w1 [.int .i64 3, .int .i64 1, .int .i64 1, .slice ad 1 cpd, .int .i64 1, .int .i64 3, .int .i64 1, .int .i64 0, .int .i64 0, .int .i64 0, .int .i64 0, .string ⟨#[112]⟩, .string ⟨#[]⟩] 26
  have BA := K1.2.2
  have HT : Hid (∀ W, IsI W (.slice ad 1 cpd) [2] → Env W → Calls Tryz.prog 5 #[.agg #[.int .i64 3, .int .i64 1, .int .i64 1, .slice ad 1 cpd, .int .i64 1, .int .i64 3, .int .i64 1, .int .i64 0, .int .i64 0, .int .i64 0, .int .i64 0, .string ⟨#[112]⟩, .string ⟨#[]⟩]] W fun e w' => e = .returned (.tuple #[.string (txt wakeL), .int .i64 0]) ∧ Below W.heap.size W w') := fun W hW hE => by
    have := textCh_any 3 1 1 (.slice ad 1 cpd) 1 3 1 0 0 0 0 ⟨#[112]⟩ ⟨#[]⟩ [2] (by simp [ByteArray.size]) W hW hE
    rw [show checkCh ⟨3, 1, 1, [2], 1, 3, 1, 0, 0, 0, 0, ⟨#[112]⟩, ⟨#[]⟩⟩ = 0 from wake_check, if_pos rfl, show textCh ⟨3, 1, 1, [2], 1, 3, 1, 0, 0, 0, 0, ⟨#[112]⟩, ⟨#[]⟩⟩ = wakeL from wake_text] at this
    exact this
  have HCk : Hid (∀ W, IsI W (.slice ad 1 cpd) [2] → Calls Tryz.prog 10 #[.agg #[.int .i64 3, .int .i64 1, .int .i64 1, .slice ad 1 cpd, .int .i64 1, .int .i64 3, .int .i64 1, .int .i64 0, .int .i64 0, .int .i64 0, .int .i64 0, .string ⟨#[112]⟩, .string ⟨#[]⟩]] W fun e w' => e = .returned (.int .i64 0) ∧ Below W.heap.size W w') := fun W hW => by
    have := checkCh_any 3 1 1 (.slice ad 1 cpd) 1 3 1 0 0 0 0 ⟨#[112]⟩ ⟨#[]⟩ [2] (by simp [ByteArray.size]) W hW
    rw [show checkCh ⟨3, 1, 1, [2], 1, 3, 1, 0, 0, 0, 0, ⟨#[112]⟩, ⟨#[]⟩⟩ = 0 from wake_check] at this
    exact this
  go_wp2_with fail
  refine (HT.out _ (HI.out.below BA) (HE1.out.below BA)).mono ?_
  rintro e w2 ⟨rfl, hb2⟩
  have K2 := K1.step hb2
  have qa : ((txt wakeL).toList == [99, 114, 101, 97, 116, 101, 32, 51, 46, 49, 32, 49, 32, 50, 32, 114, 111, 111, 116, 32, 45, 32, 112]) = true := by rw [ByteArray.toList_eq]; simp [txt, wakeL]
  have qb : ((txt wakeL).toList == (⟨#[99, 114, 101, 97, 116, 101, 32, 51, 46, 49, 32, 49, 32, 50, 32, 114, 111, 111, 116, 32, 45, 32, 112]⟩ : ByteArray).toList) = true := by rw [ByteArray.toList_eq, ByteArray.toList_eq]; simp [txt, wakeL]
  have k0 := K2.1 0 _ rfl
  have k1 := K2.1 1 _ rfl
  have k2 := K2.1 2 _ rfl
  have k3 := K2.1 3 _ rfl
  have k4 := K2.1 4 _ rfl
  have k5 := K2.1 5 _ rfl
  have k6 := K2.1 6 _ rfl
  have k7 := K2.1 7 _ rfl
  have k8 := K2.1 8 _ rfl
  have k9 := K2.1 9 _ rfl
  have k10 := K2.1 10 _ rfl
  have k11 := K2.1 11 _ rfl
  have k12 := K2.1 12 _ rfl
  go_wp2_with fail
  refine (HCk.out _ (HI.out.below K2.2.2)).mono ?_
  rintro e w3 ⟨rfl, hb3⟩
  have K3 := K2.step hb3
  have kn := K3.1 11 _ rfl
  clear k0 k1 k2 k3 k4 k5 k6 k7 k8 k9 k10 k11 k12
  have bel : Below w.heap.size w w3 := HB1.out.trans (K3.2.2.mono HB1.out.size)
  go_wp2
  go_ret
  exact ⟨rfl, bel⟩

end Go.Proofs.YtaocjmipjibiaabGreatDoor
