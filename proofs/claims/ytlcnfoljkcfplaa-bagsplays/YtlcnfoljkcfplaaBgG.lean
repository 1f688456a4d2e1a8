/- What Deliver, Double, Spoil do with a net. -/
import Derived.Test.YtlcnfoljkcfplaaBgF
namespace Go.Proofs.Ytlcnfoljkcfplaa
open Go.RowKit
set_option linter.unusedVariables false
set_option linter.unusedSimpArgs false

set_option maxRecDepth 100000 in
set_option maxHeartbeats 2000000 in
theorem deliver_any (F : Nat → Prop) (nb n : Nat) (B : Nat → List Pc) (f t i : Int) (w : World) (h : NetOk F w nb n B) :
    Calls Try.prog 19 #[.pointer (some ⟨nb, 0, none⟩), .int .i64 f, .int .i64 t, .int .i64 i] w fun e w' => ∃ v, e = .returned (.tuple #[v, .int .i64 (withE n B f t i)]) ∧ FreshB w.heap.size w' v (pcAt n B f t i).1 ∧ NetS F nb n w w' (loseN n B f t i) := by
  have H : Hid (NetOk F w nb n B) := h
  by_cases he : withE n B f t i = 0
  · clear h
    go_enter Try.func19, Try.ntmps19
    go_wp2_with fail
    refine (peek_any F nb n B f t i _ H.out).mono ?_
    rintro e w1 ⟨v, rfl, hf, hw⟩
    have HW : Hid (Below w.heap.size w w1) := hw
    have HV : Hid (FreshB w.heap.size w1 v (pcAt n B f t i).1) := hf
    clear hw hf
    rw [he]
    go_wp2_with fail
    refine (lose_any F nb n B f t i _ (H.out.below HW.out)).mono ?_
    rintro e w2 ⟨rfl, hn⟩
    have HN : Hid (NetS F nb n w1 w2 (loseN n B f t i)) := hn
    clear hn
    rw [he]
    go_wp2
    go_ret2
    refine ⟨_, by rw [he]; rfl, ?_, HN.out.back HW.out⟩
    obtain ⟨_, ht⟩ := HN.out
    exact HV.out.keep (fun k hk hlt => ht.block k hlt (fun hF => by have := H.out.lt k hF; omega)) ht.size
  · have hq : (withE n B f t i == 0) = false := by simpa using he
    have HE : Hid (pcAt n B f t i = ([], false) ∧ loseN n B f t i = B) := ⟨pcAt_no he, by unfold loseN; rw [if_neg he]⟩
    clear h
    go_enter Try.func19, Try.ntmps19
    go_wp2_with fail
    refine (peek_any F nb n B f t i _ H.out).mono ?_
    rintro e w1 ⟨v, rfl, hf, hw⟩
    have HW : Hid (Below w.heap.size w w1) := hw
    clear hw hf
    go_wp2
    go_ret2
    exact ⟨_, rfl, by rw [HE.out.1]; exact .inl ⟨rfl, rfl⟩, by rw [HE.out.2]; exact NetS.same H.out HW.out⟩

/-- What Double tells, and leaves. -/
def dblE (n : Nat) (B : Nat → List Pc) (f t i : Int) : Int := if withE n B f t i = 0 then putE B (plc n f t) else withE n B f t i
def dblN (n : Nat) (B : Nat → List Pc) (f t i : Int) : Nat → List Pc := if withE n B f t i = 0 then putN B (plc n f t) (pcAt n B f t i) else B

set_option maxRecDepth 100000 in
set_option maxHeartbeats 2000000 in
theorem double_any (F : Nat → Prop) (nb n : Nat) (B : Nat → List Pc) (f t i : Int) (w : World) (h : NetOk F w nb n B) :
    Calls Try.prog 21 #[.pointer (some ⟨nb, 0, none⟩), .int .i64 f, .int .i64 t, .int .i64 i] w fun e w' => e = .returned (.int .i64 (dblE n B f t i)) ∧ NetP F nb n w w' (dblN n B f t i) := by
  obtain ⟨bb, vs, h⟩ := h
  have H : Hid (NetIs F w nb n B bb vs) := h
  by_cases he : withE n B f t i = 0
  · obtain ⟨hl, hi0, hi1⟩ := withE_ok he
    have hb : withV bb n B f t i = .pointer (some ⟨bb, plc n f t, none⟩) := by unfold withV; rw [if_pos he]
    have hi : plc n f t < vs.length := by rw [h.len]; exact plc_of hl
    obtain ⟨k, rfl⟩ := Int.eq_ofNat_of_zero_le hi0
    have hk : k < (B (plc n f t)).length := by omega
    obtain ⟨g, cap, eo, hcap, x0, x1, hfr⟩ := (h.hown _ hi).cells hk
    have c0 := h.celli hi
    rw [eo] at c0
    have q1 : (0 : Int) ≤ (k : Int) := by omega
    have q2 : (k : Int) < ((B (plc n f t)).length : Int) := by omega
    have hpl : (B (plc n f t))[k].1.length ≤ 65545 := (h.lim _).2 _ (List.getElem_mem hk)
    have HE : Hid (dblE n B f t (k : Int) = putE B (plc n f t) ∧ dblN n B f t (k : Int) = putN B (plc n f t) ((B (plc n f t))[k])) := ⟨by unfold dblE; rw [if_pos he], by unfold dblN; rw [if_pos he, pcAt_of he hk]⟩
    have HG : Hid (w.heap[g]? = w.heap[g]? ∧ g < w.heap.size) := ⟨rfl, h.lt _ (h.fr _ hi g (by rw [eo]; rfl))⟩
    generalize (B (plc n f t))[k] = x at *
    obtain ⟨p, sp⟩ := x
    clear h eo hfr
    go_enter Try.func21, Try.ntmps21
    go_wp2_with fail
    refine (bagWith_any F nb n B bb vs f t _ _ H.out).mono ?_
    rintro e w' ⟨rfl, hw⟩
    have HW : Hid (Below w.heap.size w w') := hw
    replace c0 := (hw.cell (row_lt H.out.bags)).trans c0
    replace x0 := (hw.cell (p := ⟨g, k * 2, none⟩) HG.out.2).trans x0
    replace x1 := (hw.cell (p := ⟨g, k * 2 + 1, none⟩) HG.out.2).trans x1
    clear hw
    rw [hb, he]
    go_wp2_with fail
    refine (bagPut_any F nb n B bb vs _ hi p sp _ (H.out.below HW.out) hpl).mono ?_
    rintro e w2 ⟨rfl, hn⟩
    have HN : Hid (NetP F nb n w' w2 (putN B (plc n f t) (p, sp))) := hn
    clear hn
    go_wp2
    go_ret
    exact ⟨by rw [HE.out.1]; rfl, by rw [HE.out.2]; exact HN.out.back HW.out H.out.lt⟩
  · have hb : withV bb n B f t i = .pointer none := by unfold withV; rw [if_neg he]
    have hq : (withE n B f t i == 0) = false := by simpa using he
    have HE : Hid (dblE n B f t i = withE n B f t i ∧ dblN n B f t i = B) := ⟨by unfold dblE; rw [if_neg he], by unfold dblN; rw [if_neg he]⟩
    clear h
    go_enter Try.func21, Try.ntmps21
    go_wp2_with fail
    refine (bagWith_any F nb n B bb vs f t _ _ H.out).mono ?_
    rintro e w' ⟨rfl, hw⟩
    have HW : Hid (Below w.heap.size w w') := hw
    clear hw
    rw [hb]
    go_wp2
    go_ret
    exact ⟨by rw [HE.out.1]; rfl, by rw [HE.out.2]; exact NetP.same ⟨bb, vs, H.out⟩ HW.out⟩

end Go.Proofs.Ytlcnfoljkcfplaa
