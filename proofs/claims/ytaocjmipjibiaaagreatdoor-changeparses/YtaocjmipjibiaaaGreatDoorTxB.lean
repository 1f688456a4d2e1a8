/- What the document's Text makes of any list of numbers. -/
import Derived.Test.YtaocjmipjibiaaaGreatDoorTxA
namespace Go.Proofs.YtaocjmipjibiaaaGreatDoor
open Go.RowKit
set_option linter.unusedVariables false

theorem str_app (a b c : List UInt8) (h : c = a ++ b) : Value.string (⟨a.toArray⟩ ++ ⟨b.toArray⟩) = Value.string ⟨c.toArray⟩ := by rw [h]; exact congrArg Value.string (ByteArray.mk_append_mk a b)

set_option maxHeartbeats 2000000 in
set_option maxRecDepth 100000 in
theorem refText_ok (v : Value) (d : List Int) (w : World) (h1 : IsI w v d) (hc : checkL d = 0) :
    Calls Tryz.prog 62 #[v] w fun e w' => e = .returned (.tuple #[.string ⟨(textC d).toArray⟩, .int .i64 0]) ∧ Below w.heap.size w w' := by
  have H1 : Hid (IsI w v d) := h1
  clear h1
  have HK : Hid (OkC (trimL d)) := ((checkL_ok d).1 hc).trim
  have HT0 : Hid (trimL d = [] → textC d = [45]) := fun h => textC_none hc h
  have HT1 : Hid (trimL d ≠ [] → textC d = commaL (trimL d)) := fun h => textC_some hc h
  go_enter Tryz.func62, Tryz.ntmps62
  go_wp2_with (go_at_call 39; refine (refCheck_any _ _ _ H1.out).mono ?_; rintro e w' ⟨rfl, hw⟩; replace hw := hw.symm; subst hw)
  refine (refTrim_any _ _ _ H1.out).mono ?_
  rintro e w1 ⟨v4, rfl, ho4, hb4⟩
  generalize trimL d = T at *
  have hl := HK.out.1
  have hI := ho4.isI (by omega)
  obtain ⟨a4, c4, rfl, hc4, _, r4⟩ := hI
  have HR : Hid (T = [] ∨ ∃ b o, a4 = some ⟨b, o, none⟩ ∧ IntsAt w1 b o T) := r4
  have HB1 : Hid (Below w.heap.size w w1) := hb4
  clear r4 hb4 ho4 H1
  go_wp2
  go_loopw [5, 6] (fun sv i wr => ∃ (k : Nat) (l : List UInt8), k ≤ T.length ∧ i = .int .i64 (k : Int) ∧ sv = .string ⟨l.toArray⟩ ∧ Hid (l = commaL (T.take k)) ∧ Hid (Below w1.heap.size w1 wr)) (fun _ i _ => T.length - (intOf i).toNat)
  case atStart => exact ⟨0, [], Nat.zero_le _, rfl, rfl, rfl, Below.refl _ _⟩
  case round =>
    obtain ⟨k, l, hk, rfl, rfl, HL, HB⟩ := hrel
    have hsz := HB.out.size
    have hll : l.length ≤ 1408 := by
      rw [HL.out]
      have := commaL_length (T.take k) (fun x hx => by have := HK.out.2 x (List.mem_of_mem_take hx); omega)
      rw [List.length_take] at this
      omega
    by_cases hlt : k < T.length
    · obtain ⟨b1, o1, rfl, g1⟩ := HR.out.resolve_left (by intro e; subst e; simp at hlt)
      have x1 := (g1.below HB.out) k hlt
      clear g1
      have hx := HK.out.2 T[k] (List.getElem_mem hlt)
      obtain ⟨hx0, hx1⟩ := hx
      have k1 : (k : Int) < (T.length : Int) := by omega
      have k0 : (0 : Int) ≤ (k : Int) := by omega
      have HTS : Hid (T.take (k + 1) = T.take k ++ [T[k]]) := List.take_succ_eq_append_getElem hlt
      have hil := Lib.itoa_length_le T[k] (by omega) (by omega)
      generalize T[k] = x at *
      by_cases hk0 : k = 0
      · subst hk0
        have hl0 : l = [] := by rw [HL.out]; rfl
        subst hl0
        rw [Nat.add_zero] at x1
        have HN : Hid (Lib.itoa x = commaL (T.take (0 + 1))) := by show _ = _; rw [HTS.out]; simp [commaL_one]
        go_wp2_with (go_at_call 64; refine (digitsI x (by omega) (by omega) _).mono ?_; rintro e w2 ⟨rfl, hb2⟩)
        go_roundw
        case rel => exact ⟨0 + 1, Lib.itoa x, by omega, by go_num, by first | rfl | simp, HN, HB.out.trans (hb2.mono hsz)⟩
        case measure => simp [intOf]; omega
      · have kp : (0 : Int) < (k : Int) := by omega
        have HN : Hid (l ++ [44] ++ Lib.itoa x = commaL (T.take (k + 1))) := by
          show _ = _
          rw [HTS.out, commaL_more _ _ (by intro h; have := congrArg List.length h; rw [List.length_take, List.length_nil] at this; omega), ← HL.out]
          simp
        have n1 : ¬ 9223372036854775807 < l.length + 1 := by omega
        have n2 : ¬ 9223372036854775807 < l.length + 1 + (Lib.itoa x).length := by omega
        go_wp2_with (go_at_call 64; refine (digitsI x (by omega) (by omega) _).mono ?_; rintro e w2 ⟨rfl, hb2⟩)
        go_roundw
        case rel => exact ⟨k + 1, l ++ [44] ++ Lib.itoa x, by omega, by go_num, by first | rfl | simp [ByteArray.mk_append_mk] | (rw [show (⟨l.toArray⟩ ++ ⟨#[44]⟩ : ByteArray) = ⟨(l ++ [44]).toArray⟩ from ByteArray.mk_append_mk l [44]]; exact congrArg Value.string (ByteArray.mk_append_mk _ _)), HN, HB.out.trans (hb2.mono hsz)⟩
        case measure => simp [intOf]; omega
    · obtain rfl : k = T.length := by omega
      have HTK : Hid (l = commaL T) := by show _ = _; rw [HL.out, List.take_length]
      have bel : Below w.heap.size w wr := HB1.out.trans (HB.out.mono HB1.out.size)
      by_cases hT : T = []
      · have HE : Hid (textC d = [45]) := HT0.out hT
        have hl0 : l = [] := by rw [HTK.out, hT]; rfl
        subst hl0
        clear hT HT0 HT1
        go_wp2
        go_ret2
        exact ⟨ret_si (by rw [HE.out]) rfl, bel⟩
      · have HE : Hid (textC d = l) := by show _ = _; rw [HT1.out hT, HTK.out]
        have hln : l ≠ [] := by rw [HTK.out]; exact commaL_ne hT
        have q0 : (l == []) = false := by rw [beq_eq_false_iff_ne]; exact hln
        clear hT HT0 HT1
        go_wp2
        go_ret2
        exact ⟨ret_si (by rw [HE.out]) rfl, bel⟩

set_option maxHeartbeats 1000000 in
theorem refText_no (v : Value) (d : List Int) (w : World) (h1 : IsI w v d) (hc : checkL d ≠ 0) :
    Calls Tryz.prog 62 #[v] w fun e w' => e = .returned (.tuple #[.string ⟨(textC d).toArray⟩, .int .i64 (checkL d)]) ∧ Below w.heap.size w w' := by
  have H1 : Hid (IsI w v d) := h1
  have q : (checkL d != 0) = true := by simp [hc]
  have HE : Hid (textC d = []) := textC_no hc
  clear h1 hc
  go_enter Tryz.func62, Tryz.ntmps62
  go_wp2_with (go_at_call 39; refine (refCheck_any _ _ _ H1.out).mono ?_; rintro e w' ⟨rfl, hw⟩; replace hw := hw.symm; subst hw)
  go_ret2
  exact ⟨ret_si (by rw [HE.out]) rfl, Below.refl _ _⟩

/-- The document's Text. -/
theorem refText_any (v : Value) (d : List Int) (w : World) (h1 : IsI w v d) :
    Calls Tryz.prog 62 #[v] w fun e w' => e = .returned (.tuple #[.string ⟨(textC d).toArray⟩, .int .i64 (checkL d)]) ∧ Below w.heap.size w w' := by
  by_cases hc : checkL d = 0
  · rw [hc]; exact refText_ok v d w h1 hc
  · exact refText_no v d w h1 hc

end Go.Proofs.YtaocjmipjibiaaaGreatDoor
