/- SealSums: the sum of any lists of bytes. -/
import Derived.Test.YtcdnppiigejjgaaSeE
namespace Go.Proofs.Ytcdnppiigejjgaa
open Go.RowKit
set_option linter.unusedVariables false

theorem flatten_snoc {L : List (List UInt8)} {k : Nat} (h : k < L.length) : (L.take (k + 1)).flatten = (L.take k).flatten ++ L[k] := by
  rw [List.take_succ_eq_append_getElem h, List.flatten_append]; simp
theorem flatten_take (L : List (List UInt8)) (k : Nat) : (L.take k).flatten.length ≤ L.flatten.length := by
  conv => rhs; rw [← List.take_append_drop k L]
  rw [List.flatten_append, List.length_append]
  omega

set_option maxRecDepth 100000 in
set_option maxHeartbeats 2000000 in
theorem sealSums_walk (v : Value) (L : List (List UInt8)) (w : World) (h : IsBB w v L) (hl : L.flatten.length ≤ 140737488355328) :
    Calls Try.prog 3 #[v] w fun e w' => e = .returned (.bool true) ∧ Below w.heap.size w w' := by
  have H : Hid (IsBB w v L) := h
  obtain ⟨a1, c1, rfl, hc1, hl1, r1⟩ := h
  have HR : Hid (L = [] ∨ ∃ b o, a1 = some ⟨b, o, none⟩ ∧ RowsAt w b o L) := r1
  have HL : Hid (L.flatten.length ≤ 140737488355328) := hl
  clear r1 hl
  go_enter Try.func3, Try.ntmps3
  go_wp2
  go_loopw [3, 4] (fun u i wr => ∃ k : Nat, k ≤ L.length ∧ i = .int .i64 (k : Int) ∧ Hid (OwnB w.heap.size wr u (L.take k).flatten) ∧ Hid (Below w.heap.size w wr)) (fun _ i _ => L.length - (intOf i).toNat)
  case atStart => exact ⟨0, Nat.zero_le _, rfl, OwnB.nil0 _ _, Below.refl _ _⟩
  case round =>
    obtain ⟨k, hk, rfl, HO, HB⟩ := hrel
    have hsz := HB.out.size
    by_cases hlt : k < L.length
    · obtain ⟨b1, o1, rfl, g1⟩ := HR.out.resolve_left (by intro e; subst e; simp at hlt)
      obtain ⟨u, x1, hu⟩ := (g1.below HB.out) k hlt
      have HU : Hid (IsB wr u L[k]) := hu
      have HFS : Hid ((L.take (k + 1)).flatten = (L.take k).flatten ++ L[k]) := flatten_snoc hlt
      have HLen : Hid ((L.take k).flatten.length + L[k].length ≤ 140737488355328) := by
        have h1 := congrArg List.length HFS.out
        have h2 := flatten_take L (k + 1)
        have h3 := HL.out
        rw [List.length_append] at h1
        show _ ≤ _
        omega
      have k1 : (k : Int) < (L.length : Int) := by omega
      have k0 : (0 : Int) ≤ (k : Int) := by omega
      clear g1 hu
      generalize L[k] = q at *
      go_wp2_with (at_builtin; refine wpList_appB rfl _ _ rfl w.heap.size _ _ rfl HO.out hsz _ q rfl HU.out HLen.out ?_; intro v2 w2 ho2 hg2; have HO2 : Hid (OwnB w.heap.size w2 v2 (L.take (k + 1)).flatten) := (by show OwnB _ _ _ _; rw [HFS.out]; exact ho2); have HB2 : Hid (Below w.heap.size w w2) := HB.out.grown hg2 hsz HO.out.block; clear ho2 hg2)
      go_roundw
      case rel => exact ⟨k + 1, by omega, by go_num, HO2, HB2⟩
      case measure => simp [intOf]; omega
    · obtain rfl : k = L.length := by omega
      have HTK : Hid (L.take L.length = L) := List.take_length
      rw [HTK.out] at HO
      have HI : Hid (IsB wr u3 L.flatten) := HO.out.isB (Nat.le_trans HL.out (by decide))
      obtain ⟨a3, n3, c3, hv3⟩ : ∃ a n c, u3 = .slice a n c := by obtain ⟨a, c, e⟩ := HO.out.form; exact ⟨a, _, c, e⟩
      subst hv3
      have q1 : ((sumL L.flatten : Int) == (sumL L.flatten : Int)) = true := by simp
      have HI1 : Hid (IsBB (wr.alloc (.cells #[.slice a3 n3 c3] 23)) (.slice (some ⟨wr.heap.size, 0, none⟩) 1 1) [L.flatten]) := IsBB.one HI.out _
      have HB1 : Hid (Below w.heap.size w (wr.alloc (.cells #[.slice a3 n3 c3] 23))) := HB.out.alloc hsz _
      have HI2 : Hid (IsB (wr.alloc (.cells #[.slice a3 n3 c3] 23)) (.slice a3 n3 c3) L.flatten) := HI.out.below ((Below.refl _ _).alloc (Nat.le_refl _) _)
      have HFF : Hid ([L.flatten].flatten = L.flatten) := by show _ = _; rw [List.flatten_cons, List.flatten_nil, List.append_nil]
      go_wp2_with fail
      refine (sum_any _ L _ (H.out.below HB.out)).mono ?_
      rintro e w' ⟨rfl, hw⟩; replace hw := hw.symm; subst hw
      go_wp2_with fail
      refine (refSum_any _ L.flatten _ HI.out).mono ?_
      rintro e w' ⟨rfl, hw⟩; replace hw := hw.symm; subst hw
      go_wp2_with fail
      refine (sum_any _ [L.flatten] _ HI1.out).mono ?_
      rintro e w' ⟨rfl, hw⟩; replace hw := hw.symm; subst hw
      rw [HFF.out]
      go_wp2_with fail
      refine (refSum_any _ L.flatten _ HI2.out).mono ?_
      rintro e w' ⟨rfl, hw⟩; replace hw := hw.symm; subst hw
      go_wp2_with (go_at_call 11; refine (awake_any _).mono ?_; rintro e w6 ⟨rfl, hb6⟩)
      go_ret
      exact ⟨rfl, HB1.out.trans (hb6.mono HB1.out.size)⟩

end Go.Proofs.Ytcdnppiigejjgaa
