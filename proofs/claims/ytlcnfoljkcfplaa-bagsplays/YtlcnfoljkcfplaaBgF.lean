/- What Send, Lose, Double, Peek, Deliver do with a net. -/
import Derived.Test.YtlcnfoljkcfplaaBgE
namespace Go.Proofs.Ytlcnfoljkcfplaa
open Go.RowKit
set_option linter.unusedVariables false
set_option linter.unusedSimpArgs false

/-- What Send tells, and leaves. -/
def sendE (n : Nat) (B : Nat → List Pc) (f t : Int) (p : List UInt8) : Int := if linkE n f t = 0 then (if 65545 < p.length then 3 else putE B (plc n f t)) else linkE n f t
def sendN (n : Nat) (B : Nat → List Pc) (f t : Int) (p : List UInt8) : Nat → List Pc := if linkE n f t = 0 ∧ ¬ 65545 < p.length then putN B (plc n f t) (p, false) else B

set_option maxRecDepth 100000 in
set_option maxHeartbeats 2000000 in
theorem send_any (F : Nat → Prop) (nb n : Nat) (B : Nat → List Pc) (f t : Int) (v : Value) (p : List UInt8) (w : World) (h : NetOk F w nb n B) (hv : IsB w v p) :
    Calls Try.prog 7 #[.pointer (some ⟨nb, 0, none⟩), .int .i64 f, .int .i64 t, v] w fun e w' => e = .returned (.int .i64 (sendE n B f t p)) ∧ NetP F nb n w w' (sendN n B f t p) := by
  obtain ⟨bb, vs, h⟩ := h
  have H : Hid (NetIs F w nb n B bb vs) := h
  have HV : Hid (IsB w v p) := hv
  obtain ⟨a1, c1, rfl, hc1, hl1, _⟩ := hv
  by_cases hl : linkE n f t = 0
  · have hb : bagV bb n f t = .pointer (some ⟨bb, plc n f t, none⟩) := by unfold bagV; rw [if_pos hl]
    have hi : plc n f t < vs.length := by rw [h.len]; exact plc_of hl
    by_cases hp : 65545 < p.length
    · have HE : Hid (sendE n B f t p = 3 ∧ sendN n B f t p = B) := ⟨by unfold sendE; rw [if_pos hl, if_pos hp], by unfold sendN; rw [if_neg (fun h => h.2 hp)]⟩
      clear h
      go_enter Try.func7, Try.ntmps7
      go_wp2_with fail
      refine (bag_any F nb n B bb vs f t _ H.out).mono ?_
      rintro e w' ⟨rfl, hw⟩
      have HW : Hid (Below w.heap.size w w') := hw
      clear hw
      rw [hb, hl]
      go_wp2
      go_ret
      exact ⟨by rw [HE.out.1]; rfl, by rw [HE.out.2]; exact NetP.same ⟨bb, vs, H.out⟩ HW.out⟩
    · have HE : Hid (sendE n B f t p = putE B (plc n f t) ∧ sendN n B f t p = putN B (plc n f t) (p, false)) := ⟨by unfold sendE; rw [if_pos hl, if_neg hp], by unfold sendN; rw [if_pos ⟨hl, hp⟩]⟩
      clear h
      go_enter Try.func7, Try.ntmps7
      go_wp2_with fail
      refine (bag_any F nb n B bb vs f t _ H.out).mono ?_
      rintro e w' ⟨rfl, hw⟩
      have HW : Hid (Below w.heap.size w w') := hw
      have kc := conv_txt (HV.out.below hw)
      clear hw
      rw [hb, hl]
      go_wp2_with fail
      refine (bagPut_any F nb n B bb vs _ hi p false _ (H.out.below HW.out) (by omega)).mono ?_
      rintro e w2 ⟨rfl, hn⟩
      have HN : Hid (NetP F nb n w' w2 (putN B (plc n f t) (p, false))) := hn
      clear hn
      go_wp2
      go_ret
      exact ⟨by rw [HE.out.1]; rfl, by rw [HE.out.2]; exact HN.out.back HW.out H.out.lt⟩
  · have hb : bagV bb n f t = .pointer none := by unfold bagV; rw [if_neg hl]
    have hq : (linkE n f t == 0) = false := by simpa using hl
    have HE : Hid (sendE n B f t p = linkE n f t ∧ sendN n B f t p = B) := ⟨by unfold sendE; rw [if_neg hl], by unfold sendN; rw [if_neg (fun h => hl h.1)]⟩
    clear h
    go_enter Try.func7, Try.ntmps7
    go_wp2_with fail
    refine (bag_any F nb n B bb vs f t _ H.out).mono ?_
    rintro e w' ⟨rfl, hw⟩
    have HW : Hid (Below w.heap.size w w') := hw
    clear hw
    rw [hb]
    go_wp2
    go_ret
    exact ⟨by rw [HE.out.1]; rfl, by rw [HE.out.2]; exact NetP.same ⟨bb, vs, H.out⟩ HW.out⟩

/-- What Lose leaves. -/
def loseN (n : Nat) (B : Nat → List Pc) (f t i : Int) : Nat → List Pc := if withE n B f t i = 0 then upd B (plc n f t) ((B (plc n f t)).eraseIdx i.toNat) else B

set_option maxRecDepth 100000 in
set_option maxHeartbeats 2000000 in
theorem lose_any (F : Nat → Prop) (nb n : Nat) (B : Nat → List Pc) (f t i : Int) (w : World) (h : NetOk F w nb n B) :
    Calls Try.prog 8 #[.pointer (some ⟨nb, 0, none⟩), .int .i64 f, .int .i64 t, .int .i64 i] w fun e w' => e = .returned (.int .i64 (withE n B f t i)) ∧ NetS F nb n w w' (loseN n B f t i) := by
  obtain ⟨bb, vs, h⟩ := h
  have H : Hid (NetIs F w nb n B bb vs) := h
  by_cases he : withE n B f t i = 0
  · obtain ⟨hl, hi0, hi1⟩ := withE_ok he
    have hb : withV bb n B f t i = .pointer (some ⟨bb, plc n f t, none⟩) := by unfold withV; rw [if_pos he]
    have hi : plc n f t < vs.length := by rw [h.len]; exact plc_of hl
    obtain ⟨k, rfl⟩ := Int.eq_ofNat_of_zero_le hi0
    have HE : Hid (loseN n B f t (k : Int) = upd B (plc n f t) ((B (plc n f t)).eraseIdx k)) := by show _ = _; unfold loseN; rw [if_pos he]; rfl
    have hk : k < (B (plc n f t)).length := by omega
    clear h
    go_enter Try.func8, Try.ntmps8
    go_wp2_with fail
    refine (bagWith_any F nb n B bb vs f t _ _ H.out).mono ?_
    rintro e w' ⟨rfl, hw⟩
    have HW : Hid (Below w.heap.size w w') := hw
    clear hw
    rw [hb, he]
    go_wp2_with fail
    refine (bagCut_any F nb n B bb vs _ hi k _ (H.out.below HW.out) hk).mono ?_
    rintro e w2 ⟨⟨v, rfl⟩, hn⟩
    have HN : Hid (NetS F nb n w' w2 (upd B (plc n f t) ((B (plc n f t)).eraseIdx k))) := hn
    clear hn
    go_wp2
    go_ret
    exact ⟨by rw [he]; rfl, by rw [HE.out]; exact HN.out.back HW.out⟩
  · have hb : withV bb n B f t i = .pointer none := by unfold withV; rw [if_neg he]
    have hq : (withE n B f t i == 0) = false := by simpa using he
    have HE : Hid (loseN n B f t i = B) := by show _ = _; unfold loseN; rw [if_neg he]
    clear h
    go_enter Try.func8, Try.ntmps8
    go_wp2_with fail
    refine (bagWith_any F nb n B bb vs f t _ _ H.out).mono ?_
    rintro e w' ⟨rfl, hw⟩
    have HW : Hid (Below w.heap.size w w') := hw
    clear hw
    rw [hb]
    go_wp2
    go_ret
    exact ⟨rfl, by rw [HE.out]; exact NetS.same ⟨bb, vs, H.out⟩ HW.out⟩

/-- A link's parcel. -/
def pcAt (n : Nat) (B : Nat → List Pc) (f t i : Int) : Pc := if withE n B f t i = 0 then (B (plc n f t)).getD i.toNat ([], false) else ([], false)
theorem pcAt_of {n : Nat} {B : Nat → List Pc} {f t : Int} {k : Nat} (he : withE n B f t (k : Int) = 0) (hk : k < (B (plc n f t)).length) : pcAt n B f t (k : Int) = (B (plc n f t))[k] := by
  unfold pcAt
  rw [if_pos he, Int.toNat_natCast, List.getD_eq_getElem?_getD, List.getElem?_eq_getElem hk]
  rfl
theorem pcAt_no {n : Nat} {B : Nat → List Pc} {f t i : Int} (he : ¬ withE n B f t i = 0) : pcAt n B f t i = ([], false) := if_neg he

set_option maxRecDepth 100000 in
set_option maxHeartbeats 2000000 in
theorem peek_any (F : Nat → Prop) (nb n : Nat) (B : Nat → List Pc) (f t i : Int) (w : World) (h : NetOk F w nb n B) :
    Calls Try.prog 25 #[.pointer (some ⟨nb, 0, none⟩), .int .i64 f, .int .i64 t, .int .i64 i] w fun e w' => ∃ v, e = .returned (.tuple #[v, .int .i64 (withE n B f t i)]) ∧ FreshB w.heap.size w' v (pcAt n B f t i).1 ∧ Below w.heap.size w w' := by
  obtain ⟨bb, vs, h⟩ := h
  have H : Hid (NetIs F w nb n B bb vs) := h
  by_cases he : withE n B f t i = 0
  · obtain ⟨hl, hi0, hi1⟩ := withE_ok he
    have hb : withV bb n B f t i = .pointer (some ⟨bb, plc n f t, none⟩) := by unfold withV; rw [if_pos he]
    have hi : plc n f t < vs.length := by rw [h.len]; exact plc_of hl
    obtain ⟨k, rfl⟩ := Int.eq_ofNat_of_zero_le hi0
    have hk : k < (B (plc n f t)).length := by omega
    have HE : Hid (pcAt n B f t (k : Int) = (B (plc n f t))[k]) := pcAt_of he hk
    obtain ⟨g, cap, eo, hcap, x0, x1, hfr⟩ := (h.hown _ hi).cells hk
    have c0 := h.celli hi
    rw [eo] at c0
    have q1 : (0 : Int) ≤ (k : Int) := by omega
    have q2 : (k : Int) < ((B (plc n f t)).length : Int) := by omega
    obtain ⟨p, hp⟩ : ∃ p, p = (B (plc n f t))[k].1 := ⟨_, rfl⟩
    rw [← hp] at x0
    have HP : Hid (p = (B (plc n f t))[k].1) := hp
    have HG : Hid (w.heap[g]? = w.heap[g]? ∧ g < w.heap.size) := ⟨rfl, h.lt _ (h.fr _ hi g (by rw [eo]; rfl))⟩
    clear h eo x1 hfr hp
    go_enter Try.func25, Try.ntmps25
    go_wp2_with fail
    refine (bagWith_any F nb n B bb vs f t _ _ H.out).mono ?_
    rintro e w' ⟨rfl, hw⟩
    have HW : Hid (Below w.heap.size w w') := hw
    replace c0 := (hw.cell (row_lt H.out.bags)).trans c0
    replace x0 := (hw.cell (p := ⟨g, k * 2, none⟩) HG.out.2).trans x0
    clear hw
    rw [hb, he]
    obtain ⟨cp, w1, kc, hf, hb1⟩ := conv_bytes w' p
    have HF : Hid (FreshB w'.heap.size w1 (.slice (some ⟨w'.heap.size, 0, none⟩) p.length cp) p) := hf
    have HB1 : Hid (Below w'.heap.size w' w1) := hb1
    clear hf hb1
    go_wp2
    go_ret2
    refine ⟨_, by rw [he]; rfl, ?_, HW.out.trans (HB1.out.mono HW.out.size)⟩
    rw [HE.out, ← HP.out]
    exact HF.out.low HW.out.size
  · have hb : withV bb n B f t i = .pointer none := by unfold withV; rw [if_neg he]
    have hq : (withE n B f t i == 0) = false := by simpa using he
    have HE : Hid (pcAt n B f t i = ([], false)) := pcAt_no he
    clear h
    go_enter Try.func25, Try.ntmps25
    go_wp2_with fail
    refine (bagWith_any F nb n B bb vs f t _ _ H.out).mono ?_
    rintro e w' ⟨rfl, hw⟩
    have HW : Hid (Below w.heap.size w w') := hw
    clear hw
    rw [hb]
    go_wp2
    go_ret2
    exact ⟨_, rfl, by rw [HE.out]; exact .inl ⟨rfl, rfl⟩, HW.out⟩

end Go.Proofs.Ytlcnfoljkcfplaa
