/- SealOpens: what any bytes are, as a frame; what was told lies in memory of its own. -/
import Derived.Test.YtcdnppiigejjgaaSeI
import Derived.Test.YtcdnppiigejjgaaPlainV
namespace Go.Proofs.Ytcdnppiigejjgaa
open Go.RowKit
set_option linter.unusedVariables false

theorem OwnB.someF {B : Nat} {w : World} {v : Value} {D : List UInt8} (h : OwnB B w v D) (hd : D ≠ []) : ∃ g cap, v = .slice (some ⟨g, 0, none⟩) D.length cap ∧ B ≤ g := by
  rcases h.2 with ⟨rfl, hn⟩ | ⟨g, cap, cur, rfl, hg, _⟩
  · exact absurd (List.eq_nil_of_length_eq_zero hn) hd
  · exact ⟨g, cap, rfl, hg⟩
theorem OwnB.writeN {B : Nat} {w : World} {g cap n : Nat} {D : List UInt8} (h : OwnB B w (.slice (some ⟨g, 0, none⟩) n cap) D) (hn : n = D.length) (j : Nat) (c : UInt8) :
    OwnB B (w.setCell ⟨g, j, none⟩ (.int .u8 (c.toNat : Int))) (.slice (some ⟨g, 0, none⟩) n cap) (D.set j c) ∧ w.grownBy (w.setCell ⟨g, j, none⟩ (.int .u8 (c.toNat : Int))) (some g) := by
  subst hn; exact h.write j c
theorem openL_length (p : List UInt8) : (openL p).2.1.length ≤ 65536 := by
  rcases openL_err p with h | h | h
  · exact (seal_open h).2.2.1
  · rw [h]; simp
  · rw [h]; simp

set_option maxRecDepth 100000 in
set_option maxHeartbeats 4000000 in
theorem sealOpens_walk (v : Value) (p : List UInt8) (w : World) (h : IsB w v p) (hp : p.length ≤ 140737488351232) :
    Calls Try.prog 5 #[v] w fun e w' => e = .returned (.bool true) ∧ Below w.heap.size w w' := by
  have H : Hid (IsB w v p) := h
  obtain ⟨a0, c0, rfl, hc0, hl0, r0⟩ := h
  have HLO : Hid ((openL p).2.1.length ≤ 281474976710656) := Nat.le_trans (openL_length p) (by omega)
  clear r0
  go_enter Try.func5, Try.ntmps5
  go_wp2_with (at_builtin; refine wpList_copyE rfl _ _ rfl _ p rfl rfl H.out (by omega) ?_; intro v1 w1 ho1 hb1; obtain ⟨a1, c1, rfl⟩ := ho1.form; have HO1 : Hid (OwnB w.heap.size w1 (.slice a1 p.length c1) p) := ho1; have HB1 : Hid (Below w.heap.size w w1) := hb1; clear ho1 hb1)
  refine (open_any _ p _ (HO1.out.isB hl0)).mono ?_
  rintro e w2 ⟨v2, rfl, ho2, hb2⟩
  have hgk : Hid (∀ j, (Value.slice a1 p.length c1).ownBlock = some j → w.heap.size ≤ j ∧ j < w1.heap.size) := fun j e => World.ownsRow.lt HO1.out j e
  have HB2 : Hid (Below w.heap.size w w2) := HB1.out.trans (hb2.mono HB1.out.size)
  have HO2 : Hid (OwnB w.heap.size w2 (.slice a1 p.length c1) p) := HO1.out.below hb2
  have HN2 : Hid (IsBn (Value.slice a1 p.length c1).ownBlock w2 v2 (openL p).2.1) := ho2.apart HLO.out _ (fun j e => (hgk.out j e).2)
  have hs12 := hb2.size
  clear ho2 hb2 HO1
  go_wp2_with fail
  refine (refOpen_any _ p _ (H.out.below HB2.out)).mono ?_
  rintro e w3 ⟨v3, rfl, ho3, hb3⟩
  have HB3 : Hid (Below w.heap.size w w3) := HB2.out.trans (hb3.mono HB2.out.size)
  have HO3 : Hid (OwnB w.heap.size w3 (.slice a1 p.length c1) p) := HO2.out.below hb3
  have HN3 : Hid (IsBn (Value.slice a1 p.length c1).ownBlock w3 v2 (openL p).2.1) := HN2.out.below hb3
  have HM3 : Hid (IsBn (Value.slice a1 p.length c1).ownBlock w3 v3 (openL p).2.1) := ho3.apart HLO.out _ (fun j e => by have := (hgk.out j e).2; omega)
  clear ho3 hb3 HO2 HN2 hs12
  generalize openL p = O at *
  obtain ⟨O1, O2, O3⟩ := O
  simp only at *
  go_wp2
  go_loopw [10] (fun i wr => ∃ (k : Nat) (Q : List UInt8), k ≤ p.length ∧ i = .int .i64 (k : Int) ∧ Hid (Q.length = p.length) ∧ Hid (OwnB w.heap.size wr (.slice a1 p.length c1) Q) ∧ Hid (IsBn (Value.slice a1 p.length c1).ownBlock wr v2 O2) ∧ Hid (IsBn (Value.slice a1 p.length c1).ownBlock wr v3 O2) ∧ Hid (Below w.heap.size w wr)) (fun i _ => p.length - (intOf i).toNat)
  case atStart => exact ⟨0, p, Nat.zero_le _, rfl, rfl, HO3, HN3, HM3, HB3⟩
  case round =>
    obtain ⟨k, Q, hk, rfl, HQL, HO, HN, HM, HB⟩ := hrel
    by_cases hlt : k < p.length
    · have HQN : Hid (Q ≠ []) := by intro e; have := HQL.out; rw [e] at this; simp at this; omega
      obtain ⟨g, cap, hv, hg⟩ := HO.out.someF HQN.out
      injection hv with e1 e2 e3
      subst e1
      have hkq : k < Q.length := by rw [HQL.out]; exact hlt
      obtain ⟨x1, x2⟩ := HO.out.cell HQL.out.symm hkq
      have hfl := flip_eq Q[k]
      obtain ⟨o2, g2⟩ := HO.out.writeN HQL.out.symm k (UInt8.ofNat (255 - Q[k].toNat))
      have hc := UInt8.toNat_lt Q[k]
      generalize UInt8.ofNat (255 - Q[k].toNat) = z at *
      generalize Q[k].toNat = c at *
      have HO4 : Hid (OwnB w.heap.size (wr.setCell ⟨g, k, none⟩ (.int .u8 (z.toNat : Int))) (.slice (some ⟨g, 0, none⟩) p.length c1) (Q.set k z)) := o2
      have HG2 : Hid (wr.grownBy (wr.setCell ⟨g, k, none⟩ (.int .u8 (z.toNat : Int))) (some g)) := g2
      have HQ4 : Hid ((Q.set k z).length = p.length) := by show _ = _; rw [List.length_set]; exact HQL.out
      have k1 : (k : Int) < (p.length : Int) := by omega
      have k0 : (0 : Int) ≤ (k : Int) := by omega
      clear o2 g2 e2 e3
      go_wp2
      go_roundw
      case rel => exact ⟨k + 1, Q.set k z, by omega, by go_num, HQ4, HO4, HN.out.grown HG2.out, HM.out.grown HG2.out, HB.out.grown HG2.out HB.out.size (fun j e => by cases e; exact hg)⟩
      case measure => simp [intOf]; omega
    · obtain rfl : k = p.length := by omega
      have cv2 := conv_txt HN.out.isB
      have cv3 := conv_txt HM.out.isB
      have q1 : ((O1 : Int) == (O1 : Int)) = true := by simp
      have q2 : ((txt O2).toList == (txt O2).toList) = true := by simp
      have q3 : (O3 == O3) = true := by simp
      generalize txt O2 = s at *
      go_wp2_with (go_at_call 11; refine (awake_any _).mono ?_; rintro e w6 ⟨rfl, hb6⟩)
      go_ret
      exact ⟨rfl, HB.out.trans (hb6.mono HB.out.size)⟩

end Go.Proofs.Ytcdnppiigejjgaa
