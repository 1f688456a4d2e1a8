/- xor of bytes; literals of bytes; what Spoil does, and the document's Spoil. -/
import Derived.Test.YtlcnfoljkcfplaaBgR
import Derived.Lib.SlBytesConst
namespace Go.Proofs.Ytlcnfoljkcfplaa
open Go.RowKit
set_option linter.unusedVariables false

theorem xor_nat (k : IntKind) (j : Nat) (hj : j ≤ k.bits) (hk : ∀ n : Int, 0 ≤ n → n < 2 ^ j → k.wrap n = n) (a b : Nat) (ha : a < 2 ^ j) (hb : b < 2 ^ j) : bits .xor k a b = ((a ^^^ b : Nat) : Int) := by
  have hp : 2 ^ j ≤ 2 ^ k.bits := Nat.pow_le_pow_right (by decide) hj
  have ha' : a % 2 ^ k.bits = a := Nat.mod_eq_of_lt (Nat.lt_of_lt_of_le ha hp)
  have hb' : b % 2 ^ k.bits = b := Nat.mod_eq_of_lt (Nat.lt_of_lt_of_le hb hp)
  have cast : ∀ n : Nat, n < 2 ^ j → ((n : Nat) : Int) < 2 ^ j := fun n h => by exact_mod_cast h
  simp only [bits, BitVec.ofInt_natCast, BitVec.toNat_xor, BitVec.toNat_ofNat, ha', hb']
  exact hk _ (Int.natCast_nonneg _) (cast _ (Nat.xor_lt_two_pow ha hb))
theorem xor_u8 {a b : Nat} (ha : a < 256) (hb : b < 256) : bits .xor .u8 (a : Int) (b : Int) = ((a ^^^ b : Nat) : Int) := xor_nat .u8 8 (by decide) wraps_u8 a b ha hb
theorem IsB.lit (w : World) (D : List UInt8) (cs : Array Value) (hc : cs.toList = cellsB D) (hl : D.length ≤ 281474976710656) (fr : Nat × Nat) : IsB (w.alloc (.cells cs 5 fr)) (.slice (some ⟨w.heap.size, 0, none⟩) D.length D.length) D := by
  refine ⟨_, D.length, rfl, Nat.le_refl _, hl, .inr ⟨w.heap.size, 0, rfl, fun i hi => ?_⟩⟩
  rw [Nat.zero_add, World.cell?_alloc_mark, ← Array.getElem?_toList, hc]
  simp [cellsB, hi]
theorem IsB.lit' {w : World} (D : List UInt8) (cs : Array Value) (hc : cs.toList = cellsB D) (hl : D.length ≤ 281474976710656) (fr : Nat × Nat) {g n : Nat} (hg : g = w.heap.size) (hn : n = D.length) : IsB (w.alloc (.cells cs 5 fr)) (.slice (some ⟨g, 0, none⟩) n n) D := by
  subst hg hn; exact IsB.lit w D cs hc hl fr
theorem conv_lit (w : World) (C : Array Value) (n c g : Nat) (hg : g = w.heap.size) : (convert 31 31 (.slice (some ⟨g, 0, none⟩) n c)).run Try.prog (w.alloc (.cells C 5)) = .ok (.slice (some ⟨g, 0, none⟩) n c) (w.alloc (.cells C 5 (C.size, C.size + 1))) := by
  subst hg; exact Lib.run_convert_bytes_const w 31 5 C n c Try.underlying31 Try.underlying5

/-- What Spoil tells: the bytes with one turned, the error. -/
def spoilL (p : List UInt8) (at_ mask : Int) : List UInt8 × Int :=
  if 0 ≤ at_ ∧ at_ < (p.length : Int) then (if mask % 256 = 0 then ([], 7) else (p.set at_.toNat (UInt8.ofNat ((p.getD at_.toNat 0).toNat ^^^ (mask % 256).toNat)), 0)) else ([], 1)
theorem OwnB.some {B : Nat} {w : World} {v : Value} {D : List UInt8} (h : OwnB B w v D) (hd : D ≠ []) : ∃ g cap, v = .slice (some ⟨g, 0, none⟩) D.length cap ∧ B ≤ g := by
  rcases h.2 with ⟨rfl, hn⟩ | ⟨g, cap, cur, rfl, hg, _⟩
  · exact absurd (List.eq_nil_of_length_eq_zero hn) hd
  · exact ⟨g, cap, rfl, hg⟩

set_option maxRecDepth 100000 in
set_option maxHeartbeats 2000000 in
/-- seal.Spoil. -/
theorem spoil_any (v : Value) (p : List UInt8) (at_ mask : Int) (w : World) (h : IsB w v p) (hp : p.length ≤ 140737488355328) :
    Calls Try.prog 34 #[v, .int .i64 at_, .int .i64 mask] w fun e w' => ∃ v', e = .returned (.tuple #[v', .int .i64 (spoilL p at_ mask).2]) ∧ OwnB w.heap.size w' v' (spoilL p at_ mask).1 ∧ Below w.heap.size w w' := by
  have H : Hid (IsB w v p) := h
  obtain ⟨a1, c1, rfl, hc1, hl1, r1⟩ := h
  clear r1
  by_cases hk : 0 ≤ at_ ∧ at_ < (p.length : Int)
  · obtain ⟨j, rfl⟩ := Int.eq_ofNat_of_zero_le hk.1
    have hj : j < p.length := by omega
    by_cases hm : mask % 256 = 0
    · have HS : Hid (spoilL p (j : Int) mask = ([], 7)) := by show _ = _; unfold spoilL; rw [if_pos hk, if_pos hm]
      have h1 : ¬ ((j : Int) < 0) := by omega
      have h2 : ¬ ((p.length : Int) ≤ (j : Int)) := by omega
      clear hk
      go_enter Try.func34, Try.ntmps34
      go_wp2
      go_ret2
      exact ⟨_, by rw [HS.out]; rfl, by rw [HS.out]; exact OwnB.nil0 _ _, Below.refl _ _⟩
    · have HS : Hid (spoilL p (j : Int) mask = (p.set j (UInt8.ofNat (p[j].toNat ^^^ (mask % 256).toNat)), 0)) := by
        show _ = _; unfold spoilL; rw [if_pos hk, if_neg hm, Int.toNat_natCast, List.getD_eq_getElem?_getD, List.getElem?_eq_getElem hj]; rfl
      have hm0 : 0 ≤ mask % 256 := by omega
      have hm1 : mask % 256 < 256 := by omega
      obtain ⟨m, hmm⟩ := Int.eq_ofNat_of_zero_le hm0
      rw [hmm, Int.toNat_natCast] at HS
      rw [hmm] at hm hm1
      have hq : ((m : Int) == 0) = false := by simp; omega
      have HX : Hid (∀ c : Nat, c < 256 → bits .xor .u8 (c : Int) (m : Int) = ((UInt8.ofNat (c ^^^ m)).toNat : Int)) := fun c hc => by
        rw [xor_u8 hc (by omega), toNat_of (Nat.xor_lt_two_pow (n := 8) hc (by omega))]
      have hc := UInt8.toNat_lt p[j]
      have hx := HX.out p[j].toNat hc
      have HE : Hid (∀ B W g cap, OwnB B W (.slice (some ⟨g, 0, none⟩) p.length cap) p → W.cell? ⟨g, j, none⟩ = some (.int .u8 (p[j].toNat : Int)) ∧ W.frozen? ⟨g, j, none⟩ = false) := fun B W g cap ho => ho.cell rfl hj
      have HN : Hid (p ≠ []) := by intro e; rw [e] at hj; simp at hj
      have h1 : ¬ ((j : Int) < 0) := by omega
      have h2 : ¬ ((p.length : Int) ≤ (j : Int)) := by omega
      have h3 : (j : Int) < (p.length : Int) := by omega
      have h4 : (0 : Int) ≤ (j : Int) := by omega
      generalize UInt8.ofNat (p[j].toNat ^^^ m) = z at *
      generalize p[j].toNat = c at *
      clear hk hm HX
      go_enter Try.func34, Try.ntmps34
      go_wp2_with (at_builtin; refine wpList_copyB rfl _ _ rfl _ p rfl rfl H.out hp ?_; intro v1 w1 ho1 hb1; obtain ⟨g, cap, rfl, hg⟩ := ho1.some HN.out; obtain ⟨x1, x2⟩ := HE.out _ _ _ _ ho1; have HO1 : Hid (OwnB w.heap.size w1 (.slice (some ⟨g, 0, none⟩) p.length cap) p) := ho1; have HB1 : Hid (Below w.heap.size w w1) := hb1; clear ho1 hb1)
      go_ret2
      obtain ⟨o2, g2⟩ := HO1.out.write j z
      exact ⟨_, by rw [HS.out]; rfl, by rw [HS.out]; exact o2, HB1.out.grown g2 HB1.out.size (fun k e => by cases e; exact hg)⟩
  · have HS : Hid (spoilL p at_ mask = ([], 1)) := by show _ = _; unfold spoilL; rw [if_neg hk]
    have h2 : at_ < 0 ∨ (p.length : Int) ≤ at_ := by omega
    clear hk
    by_cases h1 : at_ < 0
    all_goals (
      go_enter Try.func34, Try.ntmps34
      go_wp2
      go_ret2
      exact ⟨_, by rw [HS.out]; rfl, by rw [HS.out]; exact OwnB.nil0 _ _, Below.refl _ _⟩)

theorem low_of (mask : Int) (m : Nat) (h : mask % 256 = (m : Int)) : (mask.tmod 256 + 256).tmod 256 = (m : Int) := by
  have h1 : 0 ≤ mask.tmod 256 + 256 := by have := Int.lt_tmod_of_pos mask (show (0 : Int) < 256 by decide); omega
  rw [Int.tmod_eq_emod_of_nonneg h1, ← h]
  rcases Int.le_total 0 mask with h0 | h0
  · rw [Int.tmod_eq_emod_of_nonneg h0]; omega
  · have : mask.tmod 256 = - ((-mask) % 256) := by rw [← Int.tmod_eq_emod_of_nonneg (show 0 ≤ -mask by omega), Int.neg_tmod, Int.neg_neg]
    rw [this]; omega

set_option maxRecDepth 100000 in
set_option maxHeartbeats 2000000 in
/-- The document's Spoil. -/
theorem refSpoil_any (v : Value) (p : List UInt8) (at_ mask : Int) (w : World) (h : IsB w v p) (hp : p.length ≤ 140737488355328) (hmw : -9223372036854775808 ≤ mask ∧ mask < 9223372036854775808) :
    Calls Try.prog 33 #[v, .int .i64 at_, .int .i64 mask] w fun e w' => ∃ v', e = .returned (.tuple #[v', .int .i64 (spoilL p at_ mask).2]) ∧ OwnB w.heap.size w' v' (spoilL p at_ mask).1 ∧ Below w.heap.size w w' := by
  have H : Hid (IsB w v p) := h
  obtain ⟨a1, c1, rfl, hc1, hl1, r1⟩ := h
  clear r1
  have hm0 : 0 ≤ mask % 256 := by omega
  have hm1 : mask % 256 < 256 := by omega
  obtain ⟨m, hmm⟩ := Int.eq_ofNat_of_zero_le hm0
  have hlow := low_of mask m hmm
  have HMM : Hid (mask % 256 = (m : Int)) := hmm
  have hm2 : m < 256 := by omega
  have ht1 : mask.tmod 256 < 256 := Int.tmod_lt_of_pos mask (by decide)
  have ht2 : -256 < mask.tmod 256 := Int.lt_tmod_of_pos mask (by decide)
  by_cases hk : 0 ≤ at_ ∧ at_ < (p.length : Int)
  · obtain ⟨j, rfl⟩ := Int.eq_ofNat_of_zero_le hk.1
    have hj : j < p.length := by omega
    have h1 : ¬ ((j : Int) < 0) := by omega
    have h2 : ¬ ((p.length : Int) ≤ (j : Int)) := by omega
    by_cases hm : mask % 256 = 0
    · have HS : Hid (spoilL p (j : Int) mask = ([], 7)) := by show _ = _; unfold spoilL; rw [if_pos hk, if_pos hm]
      obtain rfl : m = 0 := by omega
      clear hk hm hmm hm0 hm1
      go_enter Try.func33, Try.ntmps33
      go_wp2
      go_ret2
      exact ⟨_, by rw [HS.out]; rfl, by rw [HS.out]; exact OwnB.nil0 _ _, Below.refl _ _⟩
    · have HS : Hid (spoilL p (j : Int) mask = (p.set j (UInt8.ofNat (p[j].toNat ^^^ (mask % 256).toNat)), 0)) := by
        show _ = _; unfold spoilL; rw [if_pos hk, if_neg hm, Int.toNat_natCast, List.getD_eq_getElem?_getD, List.getElem?_eq_getElem hj]; rfl
      rw [hmm, Int.toNat_natCast] at HS
      rw [hmm] at hm
      have hq : ((m : Int) == 0) = false := by simp; omega
      have HX : Hid (∀ c : Nat, c < 256 → bits .xor .u8 (c : Int) (m : Int) = ((UInt8.ofNat (c ^^^ m)).toNat : Int)) := fun c hc => by
        rw [xor_u8 hc (by omega), toNat_of (Nat.xor_lt_two_pow (n := 8) hc (by omega))]
      have hc := UInt8.toNat_lt p[j]
      have hx := HX.out p[j].toNat hc
      have HE : Hid (∀ B W g cap, OwnB B W (.slice (some ⟨g, 0, none⟩) p.length cap) p → W.cell? ⟨g, j, none⟩ = some (.int .u8 (p[j].toNat : Int)) ∧ W.frozen? ⟨g, j, none⟩ = false) := fun B W g cap ho => ho.cell rfl hj
      have HN : Hid (p ≠ []) := by intro e; rw [e] at hj; simp at hj
      have h3 : (j : Int) < (p.length : Int) := by omega
      have h4 : (0 : Int) ≤ (j : Int) := by omega
      generalize UInt8.ofNat (p[j].toNat ^^^ m) = z at *
      generalize p[j].toNat = c at *
      clear hk hm HX hmm hm0 hm1
      go_enter Try.func33, Try.ntmps33
      go_wp2_with (at_builtin; refine wpList_copyE rfl _ _ rfl _ p rfl rfl H.out hp ?_; intro v1 w1 ho1 hb1; obtain ⟨g, cap, rfl, hg⟩ := ho1.some HN.out; obtain ⟨x1, x2⟩ := HE.out _ _ _ _ ho1; have HO1 : Hid (OwnB w.heap.size w1 (.slice (some ⟨g, 0, none⟩) p.length cap) p) := ho1; have HB1 : Hid (Below w.heap.size w w1) := hb1; clear ho1 hb1)
      go_ret2
      obtain ⟨o2, g2⟩ := HO1.out.write j z
      exact ⟨_, by rw [HS.out]; rfl, by rw [HS.out]; exact o2, HB1.out.grown g2 HB1.out.size (fun k e => by cases e; exact hg)⟩
  · have HS : Hid (spoilL p at_ mask = ([], 1)) := by show _ = _; unfold spoilL; rw [if_neg hk]
    have h2 : at_ < 0 ∨ (p.length : Int) ≤ at_ := by omega
    clear hk hmm hlow
    by_cases h1 : at_ < 0
    all_goals (
      go_enter Try.func33, Try.ntmps33
      go_wp2
      go_ret2
      exact ⟨_, by rw [HS.out]; rfl, by rw [HS.out]; exact OwnB.nil0 _ _, Below.refl _ _⟩)

end Go.Proofs.Ytlcnfoljkcfplaa
