/- SealBack: what was sealed is opened; what can be opened is what would be sealed. -/
import Derived.Test.YtcdnppiigejjgaaPlainV
namespace Go.Proofs.Ytcdnppiigejjgaa
open Go.RowKit
set_option linter.unusedVariables false

theorem openL_length (p : List UInt8) : (openL p).2.1.length ≤ p.length := by
  rcases openL_err p with h | h | h
  · have h2 := seal_open h
    have h3 := congrArg List.length h2.2.2.2.1
    rw [frameL_length] at h3
    omega
  · rw [h]; simp
  · rw [h]; simp
theorem sealL_ok {kind : Int} {load : List UInt8} (h : (sealL kind load).2 = 0) : 1 ≤ kind ∧ kind ≤ 15 ∧ load.length ≤ 65536 ∧ (sealL kind load).1 = frameL kind.toNat load ∧ openL (sealL kind load).1 = (kind.toNat, load, 0) := by
  unfold sealL at h ⊢
  by_cases hk : 1 ≤ kind ∧ kind ≤ 15
  · rw [if_pos hk] at h ⊢
    by_cases hl : load.length ≤ 65536
    · rw [if_pos hl]
      exact ⟨hk.1, hk.2, hl, rfl, open_seal (by omega) (by omega) hl⟩
    · rw [if_neg hl] at h; cases h
  · rw [if_neg hk] at h; cases h
theorem sealL_length (kind : Int) (p : List UInt8) : (sealL kind p).1.length ≤ 65545 := by
  unfold sealL
  split
  · split
    · rw [frameL_length]; omega
    · simp
  · simp
theorem openL_again {p : List UInt8} (h : (openL p).2.2 = 0) : sealL ((openL p).1 : Int) (openL p).2.1 = (p, 0) := by
  obtain ⟨h1, h2, h3, h4, _⟩ := seal_open h
  unfold sealL
  rw [if_pos (by omega), if_pos h3, Int.toNat_natCast, h4]

set_option maxRecDepth 100000 in
set_option maxHeartbeats 4000000 in
/-- The second half: bytes that can be opened. -/
theorem sealBack_walk (kind : Int) (v : Value) (load : List UInt8) (u : Value) (p : List UInt8) (w : World) (hk : (Lit.int IntKind.i64 kind).wf = true) (h1 : IsB w v load) (h2 : IsB w u p) :
    Calls Try.prog 7 #[.int .i64 kind, v, u] w fun e w' => e = .returned (.bool true) ∧ Below w.heap.size w w' := by
  have H1 : Hid (IsB w v load) := h1
  have H2 : Hid (IsB w u p) := h2
  obtain ⟨a1, c1, rfl, hc1, hl1, r1⟩ := h1
  obtain ⟨a2, c2, rfl, hc2, hl2, r2⟩ := h2
  have HLS : Hid ((sealL kind load).1.length ≤ 281474976710656) := Nat.le_trans (sealL_length kind load) (by omega)
  have HLO : Hid ((openL p).2.1.length ≤ 281474976710656) := Nat.le_trans (openL_length p) hl2
  have HLA : Hid (∀ k l, (sealL k l).1.length ≤ 281474976710656) := fun k l => Nat.le_trans (sealL_length k l) (by omega)
  have HAG : Hid ((openL p).2.2 = 0 → sealL ((openL p).1 : Int) (openL p).2.1 = (p, 0)) := openL_again
  have HOK : Hid ((sealL kind load).2 = 0 → openL (sealL kind load).1 = (kind.toNat, load, 0) ∧ (kind.toNat : Int) = kind) := fun h => ⟨(sealL_ok h).2.2.2.2, by have := sealL_ok h; omega⟩
  clear r1 r2 hk
  go_enter Try.func7, Try.ntmps7
  go_wp2_with fail
  refine (seal_any kind _ load _ H1.out).mono ?_
  rintro e w1 ⟨v1, rfl, ho1, hb1⟩
  have HB1 : Hid (Below w.heap.size w w1) := hb1
  have HI1 : Hid (IsB w1 v1 (sealL kind load).1) := ho1.isB HLS.out
  clear ho1 hb1
  have HOP : Hid (∀ W, IsB W (.slice a2 p.length c2) p → Calls Try.prog 14 #[.slice a2 p.length c2] W fun e w' => ∃ v', e = .returned (.tuple #[.int .i64 ((openL p).1 : Int), v', .int .i64 (openL p).2.2]) ∧ OwnB W.heap.size w' v' (openL p).2.1 ∧ Below W.heap.size W w') := fun W hW => open_any _ p W hW
  generalize hS : sealL kind load = S at *
  generalize hO : openL p = O at *
  obtain ⟨S1, S2⟩ := S
  obtain ⟨O1, O2, O3⟩ := O
  simp only at *
  clear hS hO
  by_cases hs : S2 = 0
  · subst hs
    obtain ⟨hop, hkk⟩ := HOK.out rfl
    have HOS : Hid (openL S1 = (kind.toNat, load, 0)) := hop
    have HKK : Hid ((kind.toNat : Int) = kind) := hkk
    clear hop hkk
    go_wp2_with fail
    refine (open_any _ S1 _ HI1.out).mono ?_
    rintro e w2 ⟨v2, rfl, ho2, hb2⟩
    rw [HOS.out] at ho2 ⊢
    simp only at ho2 ⊢
    rw [HKK.out]
    have HB2 : Hid (Below w.heap.size w w2) := HB1.out.trans (hb2.mono HB1.out.size)
    have cv0 := conv_txt (H1.out.below HB2.out)
    have cv1 := conv_txt (ho2.isB hl1)
    clear ho2 hb2
    have q1 : (kind != kind) = false := by simp
    have q2 : ((txt load).toList != (txt load).toList) = false := by simp
    go_wp2_with fail
    refine (HOP.out _ (H2.out.below HB2.out)).mono ?_
    rintro e w3 ⟨v3, rfl, ho3, hb3⟩
    have HB3 : Hid (Below w.heap.size w w3) := HB2.out.trans (hb3.mono HB2.out.size)
    have HI3 : Hid (IsB w3 v3 O2) := ho3.isB HLO.out
    clear ho3 hb3
    by_cases hy : O3 = 0
    · subst hy
      have HA : Hid (sealL (O1 : Int) O2 = (p, 0)) := HAG.out rfl
      go_wp2_with fail
      refine (seal_any _ _ O2 _ HI3.out).mono ?_
      rintro e w4 ⟨v4, rfl, ho4, hb4⟩
      rw [HA.out] at ho4 ⊢
      simp only at ho4 ⊢
      have HB4 : Hid (Below w.heap.size w w4) := HB3.out.trans (hb4.mono HB3.out.size)
      have cp0 := conv_txt (H2.out.below HB4.out)
      have cp1 := conv_txt (ho4.isB hl2)
      clear ho4 hb4
      have q3 : ((txt p).toList != (txt p).toList) = false := by simp
      go_wp2_with (go_at_call 11; refine (awake_any _).mono ?_; rintro e w5 ⟨rfl, hb5⟩)
      go_ret
      exact ⟨rfl, HB4.out.trans (hb5.mono HB4.out.size)⟩
    · have qy : (O3 == 0) = false := by simp [hy]
      clear hy
      go_wp2_with (go_at_call 11; refine (awake_any _).mono ?_; rintro e w5 ⟨rfl, hb5⟩)
      go_ret
      exact ⟨rfl, HB3.out.trans (hb5.mono HB3.out.size)⟩
  · have qs : (S2 == 0) = false := by simp [hs]
    clear hs
    go_wp2_with fail
    refine (HOP.out _ (H2.out.below HB1.out)).mono ?_
    rintro e w3 ⟨v3, rfl, ho3, hb3⟩
    have HB3 : Hid (Below w.heap.size w w3) := HB1.out.trans (hb3.mono HB1.out.size)
    have HI3 : Hid (IsB w3 v3 O2) := ho3.isB HLO.out
    clear ho3 hb3
    by_cases hy : O3 = 0
    · subst hy
      have HA : Hid (sealL (O1 : Int) O2 = (p, 0)) := HAG.out rfl
      go_wp2_with fail
      refine (seal_any _ _ O2 _ HI3.out).mono ?_
      rintro e w4 ⟨v4, rfl, ho4, hb4⟩
      rw [HA.out] at ho4 ⊢
      simp only at ho4 ⊢
      have HB4 : Hid (Below w.heap.size w w4) := HB3.out.trans (hb4.mono HB3.out.size)
      have cp0 := conv_txt (H2.out.below HB4.out)
      have cp1 := conv_txt (ho4.isB hl2)
      clear ho4 hb4
      have q3 : ((txt p).toList != (txt p).toList) = false := by simp
      go_wp2_with (go_at_call 11; refine (awake_any _).mono ?_; rintro e w5 ⟨rfl, hb5⟩)
      go_ret
      exact ⟨rfl, HB4.out.trans (hb5.mono HB4.out.size)⟩
    · have qy : (O3 == 0) = false := by simp [hy]
      clear hy
      go_wp2_with (go_at_call 11; refine (awake_any _).mono ?_; rintro e w5 ⟨rfl, hb5⟩)
      go_ret
      exact ⟨rfl, HB3.out.trans (hb5.mono HB3.out.size)⟩

end Go.Proofs.Ytcdnppiigejjgaa
