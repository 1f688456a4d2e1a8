/- What makes a node's fields right. -/
import Derived.Test.YtljmlbidbacdjabVtT
import Derived.Test.YtljmlbidbacdjabLwN
import Derived.Test.YtljmlbidbacdjabWalksB
import Derived.Sort.Walk0
namespace Go.Proofs.Ytljmlbidbacdjab
open Go.RowKit
set_option linter.unusedVariables false
set_option linter.unusedSimpArgs false

/-- Is a key right, so deep? -/
def keyB (d : Nat) (s : St) : Bool := if d = 0 then nodeB s.1 s.2 else rightB s.1 s.2
def noTx : ByteArray := ⟨#[]⟩
/-- Why attributes behind a name are not right. -/
def chkA (p : ByteArray) : List At → Int
  | [] => 0
  | x :: r => if nameL (txL x.1) = false then 8 else if 256 < x.2.size then 3 else if ltT p x.1 = false then 2 else chkA x.1 r
/-- Why a node's own fields are not right. -/
def chkN (t : VT) : Int := if nameL (txL t.tg) = false then 8 else if 256 < t.tx.size ∨ 4096 < t.at_.length then 3 else chkA noTx t.at_
theorem txt_less (a b : ByteArray) : Op.bytesLess a.toList b.toList = ltT a b := by
  rw [Go.Lib.toList_data, Go.Lib.toList_data, bytesLess_eq]
  rfl
theorem txt_leq (a b : ByteArray) : (Op.bytesLess a.toList b.toList || a.toList == b.toList) = !ltT b a := by
  rw [txt_less, txt_eq]
  by_cases h : a = b
  · subst h; rw [ltT_irr]; simp
  · rw [decide_eq_false h, Bool.or_false]
    rcases ltT_or h with h1 | h1
    · rw [h1, ltT_asym h1]; rfl
    · rw [h1, ltT_asym h1]; rfl

theorem run_leqS (a b : ByteArray) (w : World) : (binOp .leq 9 (.string a) (.string b)).run Try.prog w = .ok (.bool (!ltT b a)) w := by
  rw [← txt_leq]
  first | rfl | (simp [binOp, go_sem]; done) | kernel_rfl

theorem right_bel (c r : Int) (w : World) :
    Calls Try.prog 81 #[.agg #[.int .i64 c, .int .i64 r]] w fun e w' => e = .returned (.bool (rightB c r)) ∧ Below w.heap.size w w' :=
  (right_any c r w).mono fun e w' ⟨h, hw⟩ => ⟨h, hw ▸ (Below.refl _ _).alloc (Nat.le_refl _) _⟩

set_option maxHeartbeats 1000000 in
theorem isKeyRight_any (s : St) (d : Nat) (w : World) : Calls Try.prog 53 #[.agg #[.int .i64 s.1, .int .i64 s.2], .int .i64 (d : Int)] w fun e w' => e = .returned (.bool (keyB d s)) ∧ Below w.heap.size w w' := by
  have hb : Below w.heap.size w (w.alloc (.cells #[.int .i64 s.1, .int .i64 s.2] 24)) := (Below.refl _ _).alloc (Nat.le_refl _) _
  have HB := hide9 hb
  clear hb
  by_cases h0 : d = 0
  · have HK : Hid (keyB d s = nodeB s.1 s.2) := if_pos h0
    have q : ((d : Int) == 0) = true := by simp [h0]
    clear h0
    go_enter Try.func53, Try.ntmps53
    go_wp2_with fail
    refine (node_any s.1 s.2 _).mono ?_
    rintro e w1 ⟨rfl, hb⟩
    have HB1 := hide9 (HB.out.trans (hb.mono HB.out.size))
    clear hb HB
    go_wp2
    go_ret
    exact ⟨ret_bool (by rw [HK.out]), HB1.out⟩
  · have HK : Hid (keyB d s = rightB s.1 s.2) := if_neg h0
    have q : ((d : Int) == 0) = false := by simpa using h0
    clear h0
    go_enter Try.func53, Try.ntmps53
    go_wp2_with fail
    refine (right_bel s.1 s.2 _).mono ?_
    rintro e w1 ⟨rfl, hb⟩
    have HB1 := hide9 (HB.out.trans (hb.mono HB.out.size))
    clear hb HB
    go_wp2
    go_ret
    exact ⟨ret_bool (by rw [HK.out]), HB1.out⟩

set_option maxRecDepth 100000 in
set_option maxHeartbeats 4000000 in
theorem checkAttrs_any (G : Nat → Prop) (A : List At) (v : Value) (w : World) (h : LsE atCells 2 G w v A) (hn : ∀ x ∈ A, x.1.size ≤ 281474976710656) : Calls Try.prog 83 #[v] w fun e w' => e = .returned (.int .i64 (chkA noTx A)) ∧ Below w.heap.size w w' := by
  obtain ⟨a1, c1, rfl⟩ := h.form
  have hl := h.len
  have HA : Hid (LsE atCells 2 G w (.slice a1 A.length c1) A) := h
  have HN : Hid (∀ x ∈ A, x.1.size ≤ 281474976710656) := hn
  clear h hn
  go_enter Try.func83, Try.ntmps83
  go_wp2
  go_loopw [3, 8] (fun pv iv wr => ∃ (i : Nat) (p : ByteArray), pv = .string p ∧ iv = .int .i64 (i : Int) ∧ i ≤ A.length ∧ Hid (chkA noTx A = chkA p (A.drop i)) ∧ Hid (Below w.heap.size w wr)) (fun _ iv _ => A.length - (intOf iv).toNat)
  case atStart => exact ⟨0, noTx, rfl, rfl, Nat.zero_le _, rfl, Below.refl _ _⟩
  case round =>
    obtain ⟨i, p, rfl, rfl, hil, HE, HBw⟩ := hrel
    by_cases hlt : i < A.length
    · obtain ⟨b1, o1, rfl, _, hl1, p0, p1⟩ := HA.out.rowA hlt
      replace p0 := (HBw.out.cell (p := ⟨b1, o1 + i * 2, none⟩) hl1).trans p0
      replace p1 := (HBw.out.cell (p := ⟨b1, o1 + i * 2 + 1, none⟩) hl1).trans p1
      have hnx := HN.out A[i] (List.getElem_mem hlt)
      have he := HE.out
      rw [List.drop_eq_getElem_cons hlt] at he
      obtain ⟨x, ex⟩ : ∃ x, x = A[i] := ⟨_, rfl⟩
      rw [← ex] at p0 p1 hnx he
      rw [chkA] at he
      have HB4 : Hid (Below w.heap.size w (wr.alloc (.cells #[.string x.1, .string x.2] 63))) := HBw.out.alloc HBw.out.size _
      have Hnx : Hid (x.1.size ≤ 281474976710656) := hnx
      have k1 : (i : Int) < (A.length : Int) := by omega
      have k0 : (0 : Int) ≤ (i : Int) := by omega
      have He := hide9 he
      clear ex hl1 hnx he HE
      go_wp2_with fail
      clear p0 p1
      refine (name_any x.1 Hnx.out _).mono ?_
      rintro e w1 ⟨rfl, hw⟩
      replace hw := hw.symm
      subst hw
      cases hnm : nameL (txL x.1)
      · have hnm2 : nameL x.1.data.toList = false := hnm
        have HF : Hid (chkA noTx A = 8) := He.out.trans (if_pos hnm)
        clear hnm
        rw [hnm2]
        clear hnm2
        go_wp2
        go_ret
        exact ⟨by rw [HF.out] <;> rfl, HB4.out⟩
      · have hnm2 : nameL x.1.data.toList = true := hnm
        have He2 : Hid (chkA noTx A = if 256 < x.2.size then 3 else if ltT p x.1 = false then 2 else chkA x.1 (A.drop (i + 1))) := He.out.trans (if_neg (by simp [hnm]))
        clear hnm He
        rw [hnm2]
        clear hnm2
        by_cases hv : 256 < x.2.size
        · have q1 : (256 : Int) < (x.2.size : Int) := by omega
          have HF : Hid (chkA noTx A = 3) := He2.out.trans (if_pos hv)
          clear hv
          go_wp2
          go_ret
          exact ⟨by rw [HF.out] <;> rfl, HB4.out⟩
        · have q1 : ¬ (256 : Int) < (x.2.size : Int) := by omega
          have He3 : Hid (chkA noTx A = if ltT p x.1 = false then 2 else chkA x.1 (A.drop (i + 1))) := He2.out.trans (if_neg hv)
          clear hv He2
          cases hlt2 : ltT p x.1
          · have hq2 : ∀ w, (binOp .leq 9 (.string x.1) (.string p)).run Try.prog w = .ok (.bool true) w := fun w => by (rw [run_leqS, hlt2]; rfl)
            have HF : Hid (chkA noTx A = 2) := He3.out.trans (if_pos hlt2)
            clear hlt2
            go_wp2
            go_ret
            exact ⟨by rw [HF.out] <;> rfl, HB4.out⟩
          · have hq2 : ∀ w, (binOp .leq 9 (.string x.1) (.string p)).run Try.prog w = .ok (.bool false) w := fun w => by (rw [run_leqS, hlt2]; rfl)
            have HF : Hid (chkA noTx A = chkA x.1 (A.drop (i + 1))) := He3.out.trans (if_neg (by simp [hlt2]))
            clear hlt2
            have n1 : IntKind.i64.wrap ((i : Int) + 1) = (i : Int) + 1 := by rw [IntKind.wrap_i64]; omega
            go_wp2
            go_roundw
            case rel => exact ⟨i + 1, x.1, rfl, by go_num, by omega, HF, HB4⟩
            case measure => simp [intOf]; omega
    · have HF : Hid (chkA noTx A = 0) := HE.out.trans (by rw [List.drop_eq_nil_of_le (by omega)]; rfl)
      have k1 : ¬ (i : Int) < (A.length : Int) := by omega
      have k3 : decide ((i : Int) < (A.length : Int)) = false := decide_eq_false k1
      go_wp2
      go_ret
      exact ⟨by rw [HF.out] <;> rfl, HBw.out⟩

/-- The lengths of a node's texts. -/
def BnT (t : VT) : Prop := t.tg.size ≤ 281474976710656 ∧ ∀ x ∈ t.at_, x.1.size ≤ 281474976710656

set_option maxRecDepth 100000 in
set_option maxHeartbeats 4000000 in
theorem checkFields_any (G : Nat → Prop) (t : VT) (b o : Nat) (w : World) (h : VAt G w t b o) (hn : BnT t) : Calls Try.prog 54 #[.pointer (some ⟨b, o, none⟩)] w fun e w' => e = .returned (.int .i64 (chkN t)) ∧ Below w.heap.size w w' := by
  obtain ⟨aa, ca, ak, ck, c0, c1, c2, c3, c4, c5, fd⟩ := h.cells
  have hal := fd.al
  have HFd := hide9 fd
  have Hn := hide9 hn
  clear h fd hn c0 c1 c5
  go_enter Try.func54, Try.ntmps54
  go_wp2_with fail
  refine (name_any t.tg Hn.out.1 _).mono ?_
  rintro e w1 ⟨rfl, hw⟩
  replace hw := hw.symm
  subst hw
  cases hnm : nameL (txL t.tg)
  · have hnm2 : nameL t.tg.data.toList = false := hnm
    have HF : Hid (chkN t = 8) := if_pos hnm
    rw [hnm2]
    clear hnm hnm2
    go_wp2
    go_ret
    exact ⟨by rw [HF.out] <;> rfl, Below.refl _ _⟩
  · have hnm2 : nameL t.tg.data.toList = true := hnm
    have He : Hid (chkN t = if 256 < t.tx.size ∨ 4096 < t.at_.length then 3 else chkA noTx t.at_) := if_neg (by simp [hnm])
    rw [hnm2]
    clear hnm hnm2
    by_cases h1 : 256 < t.tx.size
    · have q1 : (256 : Int) < (t.tx.size : Int) := by omega
      have HF : Hid (chkN t = 3) := He.out.trans (if_pos (by omega))
      go_wp2
      go_ret
      exact ⟨by rw [HF.out] <;> rfl, Below.refl _ _⟩
    · have q1 : ¬ (256 : Int) < (t.tx.size : Int) := by omega
      by_cases h2 : 4096 < t.at_.length
      · have q2 : (4096 : Int) < (t.at_.length : Int) := by omega
        have HF : Hid (chkN t = 3) := He.out.trans (if_pos (by omega))
        go_wp2
        go_ret
        exact ⟨by rw [HF.out] <;> rfl, Below.refl _ _⟩
      · have q2 : ¬ (4096 : Int) < (t.at_.length : Int) := by omega
        have HF : Hid (chkN t = chkA noTx t.at_) := He.out.trans (if_neg (by omega))
        go_wp2_with fail
        refine (checkAttrs_any G t.at_ _ _ HFd.out.at_ Hn.out.2).mono ?_
        rintro e w1 ⟨rfl, hb⟩
        have HB := hide9 hb
        clear hb
        go_wp2
        go_ret
        exact ⟨by rw [HF.out] <;> rfl, HB.out⟩

end Go.Proofs.Ytljmlbidbacdjab
