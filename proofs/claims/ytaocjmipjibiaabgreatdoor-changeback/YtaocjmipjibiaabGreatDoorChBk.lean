/- The walk of ChangeBack: for every change and every text it returns true. -/
import Derived.Test.YtaocjmipjibiaabGreatDoorChSm
namespace Go.Proofs.YtaocjmipjibiaabGreatDoor
open Go.RowKit
set_option linter.unusedVariables false
set_option linter.unusedSimpArgs false

set_option maxRecDepth 100000 in
set_option maxHeartbeats 8000000 in
theorem changeBack_walk (ac ar sq : Int) (dv : Value) (kd nc nr pc pr fc fr : Int) (nm vl : ByteArray) (ds : List Int) (s : ByteArray) (w : World) (h1 : IsI w dv ds) (hnm : nm.size ≤ 281474976710656) (he : Env w) :
    Calls Tryz.prog 3 #[.agg #[.int .i64 ac, .int .i64 ar, .int .i64 sq, dv, .int .i64 kd, .int .i64 nc, .int .i64 nr, .int .i64 pc, .int .i64 pr, .int .i64 fc, .int .i64 fr, .string nm, .string vl], .string s] w fun e w' => e = .returned (.bool true) ∧ Below w.heap.size w w' := by
  obtain ⟨a0, c0, e0⟩ := h1.form
  subst e0
  have K0 := KeptC.start w [.int .i64 ac, .int .i64 ar, .int .i64 sq, .slice a0 ds.length c0, .int .i64 kd, .int .i64 nc, .int .i64 nr, .int .i64 pc, .int .i64 pr, .int .i64 fc, .int .i64 fr, .string nm, .string vl] 26
  have H1 : Hid (IsI w (.slice a0 ds.length c0) ds) := h1
  have HEnv : Hid (Env w) := he
  clear h1 he
  by_cases hc : checkCh ⟨ac, ar, sq, ds, kd, nc, nr, pc, pr, fc, fr, nm, vl⟩ = 0
  · go_enter Tryz.func3, Tryz.ntmps3
    go_wp2_with fail
    refine (textCh_any ac ar sq (.slice a0 ds.length c0) kd nc nr pc pr fc fr nm vl ds hnm _ (H1.out.below K0.2.2) (HEnv.out.below K0.2.2)).mono ?_
    rintro e w1 ⟨rfl, hb1⟩
    have K1 := K0.step hb1
    clear hb1
    rw [if_pos hc, hc]
    go_wp2_with fail
    refine (parseCh_any _ _ (HEnv.out.below K1.2.2)).mono ?_
    rintro e w2 ⟨aca, ara, sqa, dva, dsa, kda, nca, nra, pca, pra, fca, fra, nma, vla, ka, rfl, hpa, hIa, hna, hba⟩
    obtain ⟨e1, e2⟩ := (parseCh_of ⟨ac, ar, sq, ds, kd, nc, nr, pc, pr, fc, fr, nm, vl⟩ hc).unique hpa
    simp only [Ch.mk.injEq] at e1
    obtain ⟨rfl, rfl, rfl, rfl, rfl, rfl, rfl, rfl, rfl, rfl, rfl, rfl, rfl⟩ := e1
    subst e2
    have K2 := K1.step hba
    obtain ⟨aa, ca, ea⟩ := hIa.form
    subst ea
    have BA : Below w2.heap.size w2 (w2.alloc (.cells #[.int .i64 ac, .int .i64 ar, .int .i64 sq, .slice aa ds.length ca, .int .i64 kd, .int .i64 nc, .int .i64 nr, .int .i64 pc, .int .i64 pr, .int .i64 fc, .int .i64 fr, .string nm, .string vl] 26)) := (Below.refl _ _).alloc (Nat.le_refl _) _
    have K3 := K2.step BA
    have HIA : Hid (IsI (w2.alloc (.cells #[.int .i64 ac, .int .i64 ar, .int .i64 sq, .slice aa ds.length ca, .int .i64 kd, .int .i64 nc, .int .i64 nr, .int .i64 pc, .int .i64 pr, .int .i64 fc, .int .i64 fr, .string nm, .string vl] 26)) (.slice aa ds.length ca) ds) := hIa.below BA
    have HIC : Hid (IsI (w2.alloc (.cells #[.int .i64 ac, .int .i64 ar, .int .i64 sq, .slice aa ds.length ca, .int .i64 kd, .int .i64 nc, .int .i64 nr, .int .i64 pc, .int .i64 pr, .int .i64 fc, .int .i64 fr, .string nm, .string vl] 26)) (.slice a0 ds.length c0) ds) := H1.out.below K3.2.2
    obtain ⟨k_0, k_1, k_2, k_3, k_4, k_5, k_6, k_7, k_8, k_9, k_10, k_11, k_12⟩ := K2.all
    obtain ⟨j_0, j_1, j_2, j_3, j_4, j_5, j_6, j_7, j_8, j_9, j_10, j_11, j_12⟩ := K3.all
    have hlt2 := K2.2.1
    clear hpa hIa hba BA
    go_wp2_with fail
    refine (refSameCh_eq ac ar sq _ _ kd nc nr pc pr fc fr nm vl ds _ HIC.out HIA.out).mono ?_
    rintro e w4 ⟨rfl, hb4⟩
    have K4 := K3.step hb4
    clear k_0 k_1 k_2 k_3 k_4 k_5 k_6 k_7 k_8 k_9 k_10 k_11 k_12
    clear j_0 j_1 j_2 j_3 j_4 j_5 j_6 j_7 j_8 j_9 j_10 j_11 j_12
    clear hb4
    go_wp2_with fail
    refine (parseCh_any s _ (HEnv.out.below K4.2.2)).mono ?_
    rintro e w5 ⟨acb, arb, sqb, dvb, dsb, kdb, ncb, nrb, pcb, prb, fcb, frb, nmb, vlb, kb, rfl, hpb, hIb, hnb, hbb⟩
    have K5 := K4.step hbb
    obtain ⟨ab, cb, eb⟩ := hIb.form
    subst eb
    have HPB : Hid (ParseCh s.data.toList ⟨acb, arb, sqb, dsb, kdb, ncb, nrb, pcb, prb, fcb, frb, nmb, vlb⟩ kb) := hpb
    have HIB : Hid (IsI w5 (.slice ab dsb.length cb) dsb) := hIb
    clear hpb hIb hbb
    by_cases hkb : kb = 0
    · subst hkb
      obtain ⟨hcb, hlb⟩ := HPB.out.right rfl
      have BB : Below w5.heap.size w5 (w5.alloc (.cells #[.int .i64 acb, .int .i64 arb, .int .i64 sqb, .slice ab dsb.length cb, .int .i64 kdb, .int .i64 ncb, .int .i64 nrb, .int .i64 pcb, .int .i64 prb, .int .i64 fcb, .int .i64 frb, .string nmb, .string vlb] 26)) := (Below.refl _ _).alloc (Nat.le_refl _) _
      have KB := K5.step BB
      have HIB2 : Hid (IsI (w5.alloc (.cells #[.int .i64 acb, .int .i64 arb, .int .i64 sqb, .slice ab dsb.length cb, .int .i64 kdb, .int .i64 ncb, .int .i64 nrb, .int .i64 pcb, .int .i64 prb, .int .i64 fcb, .int .i64 frb, .string nmb, .string vlb] 26)) (.slice ab dsb.length cb) dsb) := HIB.out.below BB
      have qa : ((txt (textCh ⟨acb, arb, sqb, dsb, kdb, ncb, nrb, pcb, prb, fcb, frb, nmb, vlb⟩)).toList == s.toList) = true := by rw [ByteArray.toList_eq, ByteArray.toList_eq, hlb]; simp [txt]
      have qb : ((txt (textCh ⟨acb, arb, sqb, dsb, kdb, ncb, nrb, pcb, prb, fcb, frb, nmb, vlb⟩)).toList != s.toList) = false := by rw [bne, qa]; rfl
      clear hlb BB
      go_wp2_with fail
      refine (textCh_any acb arb sqb (.slice ab dsb.length cb) kdb ncb nrb pcb prb fcb frb nmb vlb dsb hnb _ HIB2.out (HEnv.out.below KB.2.2)).mono ?_
      rintro e w6 ⟨rfl, hbc⟩
      rw [if_pos hcb, hcb]
      have KC := KB.step hbc
      go_wp2_with fail
      refine (awake5_any _ (HEnv.out.below KC.2.2)).mono ?_
      rintro e w7 ⟨rfl, hbd⟩
      have KD := KC.step hbd
      go_wp2
      go_ret
      exact ⟨rfl, KD.2.2⟩
    · have qk : (kb == 0) = false := by simp [hkb]
      have qk2 : (kb != 0) = true := by simp [hkb]
      clear hkb
      have BB : Below w5.heap.size w5 (w5.alloc (.cells #[.int .i64 acb, .int .i64 arb, .int .i64 sqb, .slice ab dsb.length cb, .int .i64 kdb, .int .i64 ncb, .int .i64 nrb, .int .i64 pcb, .int .i64 prb, .int .i64 fcb, .int .i64 frb, .string nmb, .string vlb] 26)) := (Below.refl _ _).alloc (Nat.le_refl _) _
      have KB := K5.step BB
      clear BB
      go_wp2_with fail
      refine (awake5_any _ (HEnv.out.below KB.2.2)).mono ?_
      rintro e w7 ⟨rfl, hbd⟩
      have KD := KB.step hbd
      go_wp2
      go_ret
      exact ⟨rfl, KD.2.2⟩
  · go_enter Tryz.func3, Tryz.ntmps3
    go_wp2_with fail
    refine (textCh_any ac ar sq (.slice a0 ds.length c0) kd nc nr pc pr fc fr nm vl ds hnm _ (H1.out.below K0.2.2) (HEnv.out.below K0.2.2)).mono ?_
    rintro e w1 ⟨rfl, hb1⟩
    have K1 := K0.step hb1
    clear hb1
    rw [if_neg hc]
    have q : (checkCh ⟨ac, ar, sq, ds, kd, nc, nr, pc, pr, fc, fr, nm, vl⟩ == 0) = false := by simp [hc]
    clear hc
    go_wp2_with fail
    refine (parseCh_any s _ (HEnv.out.below K1.2.2)).mono ?_
    rintro e w2 ⟨acb, arb, sqb, dvb, dsb, kdb, ncb, nrb, pcb, prb, fcb, frb, nmb, vlb, kb, rfl, hpb, hIb, hnb, hbb⟩
    have K2 := K1.step hbb
    obtain ⟨ab, cb, eb⟩ := hIb.form
    subst eb
    have HPB : Hid (ParseCh s.data.toList ⟨acb, arb, sqb, dsb, kdb, ncb, nrb, pcb, prb, fcb, frb, nmb, vlb⟩ kb) := hpb
    have HIB : Hid (IsI w2 (.slice ab dsb.length cb) dsb) := hIb
    clear hpb hIb hbb
    by_cases hkb : kb = 0
    · subst hkb
      obtain ⟨hcb, hlb⟩ := HPB.out.right rfl
      have BB : Below w2.heap.size w2 (w2.alloc (.cells #[.int .i64 acb, .int .i64 arb, .int .i64 sqb, .slice ab dsb.length cb, .int .i64 kdb, .int .i64 ncb, .int .i64 nrb, .int .i64 pcb, .int .i64 prb, .int .i64 fcb, .int .i64 frb, .string nmb, .string vlb] 26)) := (Below.refl _ _).alloc (Nat.le_refl _) _
      have KB := K2.step BB
      have HIB2 : Hid (IsI (w2.alloc (.cells #[.int .i64 acb, .int .i64 arb, .int .i64 sqb, .slice ab dsb.length cb, .int .i64 kdb, .int .i64 ncb, .int .i64 nrb, .int .i64 pcb, .int .i64 prb, .int .i64 fcb, .int .i64 frb, .string nmb, .string vlb] 26)) (.slice ab dsb.length cb) dsb) := HIB.out.below BB
      have qa : ((txt (textCh ⟨acb, arb, sqb, dsb, kdb, ncb, nrb, pcb, prb, fcb, frb, nmb, vlb⟩)).toList == s.toList) = true := by rw [ByteArray.toList_eq, ByteArray.toList_eq, hlb]; simp [txt]
      have qb : ((txt (textCh ⟨acb, arb, sqb, dsb, kdb, ncb, nrb, pcb, prb, fcb, frb, nmb, vlb⟩)).toList != s.toList) = false := by rw [bne, qa]; rfl
      clear hlb BB
      go_wp2_with fail
      refine (textCh_any acb arb sqb (.slice ab dsb.length cb) kdb ncb nrb pcb prb fcb frb nmb vlb dsb hnb _ HIB2.out (HEnv.out.below KB.2.2)).mono ?_
      rintro e w3 ⟨rfl, hbc⟩
      rw [if_pos hcb, hcb]
      have KC := KB.step hbc
      go_wp2_with fail
      refine (awake5_any _ (HEnv.out.below KC.2.2)).mono ?_
      rintro e w4 ⟨rfl, hbd⟩
      have KD := KC.step hbd
      go_wp2
      go_ret
      exact ⟨rfl, KD.2.2⟩
    · have qk : (kb == 0) = false := by simp [hkb]
      have qk2 : (kb != 0) = true := by simp [hkb]
      clear hkb
      have BB : Below w2.heap.size w2 (w2.alloc (.cells #[.int .i64 acb, .int .i64 arb, .int .i64 sqb, .slice ab dsb.length cb, .int .i64 kdb, .int .i64 ncb, .int .i64 nrb, .int .i64 pcb, .int .i64 prb, .int .i64 fcb, .int .i64 frb, .string nmb, .string vlb] 26)) := (Below.refl _ _).alloc (Nat.le_refl _) _
      have KB := K2.step BB
      clear BB
      go_wp2_with fail
      refine (awake5_any _ (HEnv.out.below KB.2.2)).mono ?_
      rintro e w4 ⟨rfl, hbd⟩
      have KD := KB.step hbd
      go_wp2
      go_ret
      exact ⟨rfl, KD.2.2⟩

end Go.Proofs.YtaocjmipjibiaabGreatDoor
