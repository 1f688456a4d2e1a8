/- What tells of a net: Size, hasReplica, bag, bagWith, Waiting. -/
import Derived.Test.YtlcnfoljkcfplaaBgA
namespace Go.Proofs.Ytlcnfoljkcfplaa
open Go.RowKit
set_option linter.unusedVariables false
set_option linter.unusedSimpArgs false

set_option maxHeartbeats 1000000 in
theorem size_any (F : Nat → Prop) (nb n : Nat) (B : Nat → List Pc) (w : World) (h : NetOk F w nb n B) :
    Calls Try.prog 27 #[.pointer (some ⟨nb, 0, none⟩)] w fun e w' => e = .returned (.int .i64 (n : Int)) ∧ w' = w := by
  obtain ⟨bb, vs, h⟩ := h
  have c0 := h.cell0
  clear h
  go_enter Try.func27, Try.ntmps27
  go_wp2
  go_ret
  exact ⟨rfl, rfl⟩

set_option maxHeartbeats 1000000 in
theorem has_any (F : Nat → Prop) (nb n : Nat) (B : Nat → List Pc) (r : Int) (w : World) (h : NetOk F w nb n B) :
    Calls Try.prog 29 #[.pointer (some ⟨nb, 0, none⟩), .int .i64 r] w fun e w' => e = .returned (.bool (decide (0 ≤ r ∧ r < (n : Int)))) ∧ w' = w := by
  by_cases h0 : 0 ≤ r
  · go_enter Try.func29, Try.ntmps29
    go_wp2_with fail
    refine (size_any F nb n B _ h).mono ?_
    rintro e w' ⟨rfl, hw⟩
    replace hw := hw.symm
    subst hw
    go_wp2
    go_ret
    exact ⟨by simp [h0], rfl⟩
  · have h1 : r < 0 := by omega
    go_enter Try.func29, Try.ntmps29
    go_wp2
    go_ret
    exact ⟨by simp only [show (decide (0 ≤ r)) = false from decide_eq_false (by omega)]; rfl, rfl⟩

/-- What bag answers. -/
def bagV (bb n : Nat) (f t : Int) : Value := if linkE n f t = 0 then .pointer (some ⟨bb, plc n f t, none⟩) else .pointer none

set_option maxRecDepth 100000 in
set_option maxHeartbeats 2000000 in
theorem bag_any (F : Nat → Prop) (nb n : Nat) (B : Nat → List Pc) (bb : Nat) (vs : List Value) (f t : Int) (w : World) (h : NetIs F w nb n B bb vs) :
    Calls Try.prog 13 #[.pointer (some ⟨nb, 0, none⟩), .int .i64 f, .int .i64 t] w fun e w' => e = .returned (.tuple #[bagV bb n f t, .int .i64 (linkE n f t)]) ∧ Below w.heap.size w w' := by
  have H : Hid (NetOk F w nb n B) := ⟨bb, vs, h⟩
  by_cases hf : 0 ≤ f ∧ f < (n : Int)
  · have hf' : decide (0 ≤ f ∧ f < (n : Int)) = true := by simp [hf]
    by_cases ht : 0 ≤ t ∧ t < (n : Int)
    · have ht' : decide (0 ≤ t ∧ t < (n : Int)) = true := by simp [ht]
      by_cases he : f = t
      · subst he
        have hl : linkE n f f = 7 := by unfold linkE; rw [if_pos ⟨hf, hf⟩, if_pos rfl]
        clear h
        go_enter Try.func13, Try.ntmps13
        go_wp2_with fail
        refine (has_any F nb n B f _ H.out).mono ?_
        rintro e w' ⟨rfl, hw⟩
        replace hw := hw.symm
        subst hw
        rw [hf']
        go_wp2_with fail
        refine (has_any F nb n B f _ H.out).mono ?_
        rintro e w' ⟨rfl, hw⟩
        replace hw := hw.symm
        subst hw
        rw [hf']
        go_wp2
        go_ret2
        exact ⟨by simp [bagV, hl], Below.refl _ _⟩
      · have hl : linkE n f t = 0 := by unfold linkE; rw [if_pos ⟨hf, ht⟩, if_neg he]
        have hbv : bagV bb n f t = .pointer (some ⟨bb, plc n f t, none⟩) := by unfold bagV; rw [if_pos hl]
        have HV : Hid (bagV bb n f t = .pointer (some ⟨bb, plc n f t, none⟩) ∧ linkE n f t = 0) := ⟨hbv, hl⟩
        obtain ⟨a, rfl⟩ := Int.eq_ofNat_of_zero_le hf.1
        obtain ⟨b, rfl⟩ := Int.eq_ofNat_of_zero_le ht.1
        have hpl := plc_lt (show a < n by omega) (show b < n by omega)
        have HP : Hid (plc n (a : Int) (b : Int) = a * n + b) := by show _ = _; unfold plc; simp
        have c0 := h.cell0
        have c1 := h.cell1
        have hn64 := h.small
        have hnn : n * n ≤ 4096 := Nat.mul_le_mul hn64 hn64
        have ha : a < n := by omega
        have hb : b < n := by omega
        have e1 : (a : Int) * (n : Int) = ((a * n : Nat) : Int) := by simp
        obtain ⟨m, hm⟩ : ∃ m, m = a * n := ⟨_, rfl⟩
        obtain ⟨nn, hnm⟩ : ∃ nn, nn = n * n := ⟨_, rfl⟩
        rw [← hm] at hpl e1 HP
        rw [← hnm] at hpl c1 hnn
        have he2 : ((a : Int) == (b : Int)) = false := by simp; omega
        have w1 : IntKind.i64.wrap ((m : Nat) : Int) = ((m : Nat) : Int) := by rw [IntKind.wrap_i64]; omega
        have w2 : IntKind.i64.wrap (((m : Nat) : Int) + (b : Int)) = ((m : Nat) : Int) + (b : Int) := by rw [IntKind.wrap_i64]; omega
        have w3 : (0 : Int) ≤ ((m : Nat) : Int) + (b : Int) := by omega
        have w4 : ((m : Nat) : Int) + (b : Int) < ((nn : Nat) : Int) := by omega
        have w5 : (((m : Nat) : Int) + (b : Int)).toNat = m + b := by omega
        clear h hl hbv hm hnm hf ht he
        go_enter Try.func13, Try.ntmps13
        go_wp2_with fail
        refine (has_any F nb n B _ _ H.out).mono ?_
        rintro e w' ⟨rfl, hw⟩
        replace hw := hw.symm
        subst hw
        rw [hf']
        go_wp2_with fail
        refine (has_any F nb n B _ _ H.out).mono ?_
        rintro e w' ⟨rfl, hw⟩
        replace hw := hw.symm
        subst hw
        rw [ht']
        go_wp2
        go_region
        all_goals (
          go_wp2
          go_ret2
          exact ⟨by rw [HV.out.1, HV.out.2, HP.out]; rfl, (Below.refl _ _).drew⟩)
    · have ht' : decide (0 ≤ t ∧ t < (n : Int)) = false := by simp only [decide_eq_false_iff_not]; exact ht
      have hl : linkE n f t = 1 := by unfold linkE; rw [if_neg (fun h => ht h.2)]
      clear h
      go_enter Try.func13, Try.ntmps13
      go_wp2_with fail
      refine (has_any F nb n B f _ H.out).mono ?_
      rintro e w' ⟨rfl, hw⟩
      replace hw := hw.symm
      subst hw
      rw [hf']
      go_wp2_with fail
      refine (has_any F nb n B t _ H.out).mono ?_
      rintro e w' ⟨rfl, hw⟩
      replace hw := hw.symm
      subst hw
      rw [ht']
      go_wp2
      go_ret2
      exact ⟨by simp [bagV, hl], Below.refl _ _⟩
  · have hf' : decide (0 ≤ f ∧ f < (n : Int)) = false := by simp only [decide_eq_false_iff_not]; exact hf
    have hl : linkE n f t = 1 := by unfold linkE; rw [if_neg (fun h => hf h.1)]
    clear h
    go_enter Try.func13, Try.ntmps13
    go_wp2_with fail
    refine (has_any F nb n B f _ H.out).mono ?_
    rintro e w' ⟨rfl, hw⟩
    replace hw := hw.symm
    subst hw
    rw [hf']
    go_wp2
    go_ret2
    exact ⟨by simp [bagV, hl], Below.refl _ _⟩

theorem plc_of {n : Nat} {f t : Int} (h : linkE n f t = 0) : plc n f t < n * n := by
  obtain ⟨h1, h2, _⟩ := linkE_ok h
  exact plc_lt (by omega) (by omega)

set_option maxRecDepth 100000 in
set_option maxHeartbeats 2000000 in
theorem waiting_any (F : Nat → Prop) (nb n : Nat) (B : Nat → List Pc) (f t : Int) (w : World) (h : NetOk F w nb n B) :
    Calls Try.prog 11 #[.pointer (some ⟨nb, 0, none⟩), .int .i64 f, .int .i64 t] w fun e w' => e = .returned (.int .i64 (if linkE n f t = 0 then ((B (plc n f t)).length : Int) else 0)) ∧ Below w.heap.size w w' := by
  obtain ⟨bb, vs, h⟩ := h
  have H : Hid (NetIs F w nb n B bb vs) := h
  by_cases hl : linkE n f t = 0
  · have hb : bagV bb n f t = .pointer (some ⟨bb, plc n f t, none⟩) := by unfold bagV; rw [if_pos hl]
    have hi : plc n f t < vs.length := by rw [h.len]; exact plc_of hl
    obtain ⟨a, c, e1⟩ := (h.hown _ hi).form
    have c0 := h.celli hi
    rw [e1] at c0
    have HG : Hid ((if linkE n f t = 0 then ((B (plc n f t)).length : Int) else 0) = ((B (plc n f t)).length : Int)) := if_pos hl
    clear h e1
    go_enter Try.func11, Try.ntmps11
    go_wp2_with fail
    refine (bag_any F nb n B bb vs f t _ H.out).mono ?_
    rintro e w' ⟨rfl, hw⟩
    have HW : Hid (Below w.heap.size w w') := hw
    (try replace c0 := (hw.cell (row_lt H.out.bags)).trans c0)
    clear hw
    rw [hb, hl]
    go_wp2
    go_ret
    exact ⟨rfl, HW.out⟩
  · have hb : bagV bb n f t = .pointer none := by unfold bagV; rw [if_neg hl]
    have HG : Hid ((if linkE n f t = 0 then ((B (plc n f t)).length : Int) else 0) = 0) := if_neg hl
    have hq : (linkE n f t == 0) = false := by simpa using hl
    clear h
    go_enter Try.func11, Try.ntmps11
    go_wp2_with fail
    refine (bag_any F nb n B bb vs f t _ H.out).mono ?_
    rintro e w' ⟨rfl, hw⟩
    have HW : Hid (Below w.heap.size w w') := hw
    (try replace c0 := (hw.cell (row_lt H.out.bags)).trans c0)
    clear hw
    rw [hb]
    go_wp2
    go_ret
    exact ⟨rfl, HW.out⟩

/-- Why a link's parcel is none. -/
def withE (n : Nat) (B : Nat → List Pc) (f t i : Int) : Int := if linkE n f t = 0 then (if 0 ≤ i ∧ i < ((B (plc n f t)).length : Int) then 0 else 4) else linkE n f t
theorem withE_ok {n : Nat} {B : Nat → List Pc} {f t i : Int} (h : withE n B f t i = 0) : linkE n f t = 0 ∧ 0 ≤ i ∧ i < ((B (plc n f t)).length : Int) := by
  unfold withE at h
  split at h
  · rename_i h1
    split at h
    · rename_i h2; exact ⟨h1, h2⟩
    · cases h
  · rename_i h1; exact absurd h h1
def withV (bb n : Nat) (B : Nat → List Pc) (f t i : Int) : Value := if withE n B f t i = 0 then .pointer (some ⟨bb, plc n f t, none⟩) else .pointer none

set_option maxRecDepth 100000 in
set_option maxHeartbeats 2000000 in
theorem bagWith_any (F : Nat → Prop) (nb n : Nat) (B : Nat → List Pc) (bb : Nat) (vs : List Value) (f t i : Int) (w : World) (h : NetIs F w nb n B bb vs) :
    Calls Try.prog 15 #[.pointer (some ⟨nb, 0, none⟩), .int .i64 f, .int .i64 t, .int .i64 i] w fun e w' => e = .returned (.tuple #[withV bb n B f t i, .int .i64 (withE n B f t i)]) ∧ Below w.heap.size w w' := by
  have H : Hid (NetIs F w nb n B bb vs) := h
  by_cases hl : linkE n f t = 0
  · have hb : bagV bb n f t = .pointer (some ⟨bb, plc n f t, none⟩) := by unfold bagV; rw [if_pos hl]
    have hi : plc n f t < vs.length := by rw [h.len]; exact plc_of hl
    obtain ⟨a, c, e1⟩ := (h.hown _ hi).form
    have c0 := h.celli hi
    rw [e1] at c0
    have hlen : (B (plc n f t)).length ≤ 256 := (h.lim _).1
    by_cases hk : 0 ≤ i ∧ i < ((B (plc n f t)).length : Int)
    · have he : withE n B f t i = 0 := by unfold withE; rw [if_pos hl, if_pos hk]
      have HE : Hid (withV bb n B f t i = .pointer (some ⟨bb, plc n f t, none⟩) ∧ withE n B f t i = 0) := ⟨by unfold withV; rw [if_pos he], he⟩
      have q1 : ¬ i < 0 := by omega
      have q2 : ¬ ((B (plc n f t)).length : Int) ≤ i := by omega
      clear h e1 he hk
      go_enter Try.func15, Try.ntmps15
      go_wp2_with fail
      refine (bag_any F nb n B bb vs f t _ H.out).mono ?_
      rintro e w' ⟨rfl, hw⟩
      have HW : Hid (Below w.heap.size w w') := hw
      (try replace c0 := (hw.cell (row_lt H.out.bags)).trans c0)
      clear hw
      rw [hb, hl]
      go_wp2
      go_ret2
      exact ⟨by rw [HE.out.1, HE.out.2]; rfl, HW.out⟩
    · have he : withE n B f t i = 4 := by unfold withE; rw [if_pos hl, if_neg hk]
      have HE : Hid (withV bb n B f t i = .pointer none ∧ withE n B f t i = 4) := ⟨by unfold withV; rw [if_neg (by omega)], he⟩
      clear h e1 he
      by_cases q1 : i < 0
      · clear hk
        go_enter Try.func15, Try.ntmps15
        go_wp2_with fail
        refine (bag_any F nb n B bb vs f t _ H.out).mono ?_
        rintro e w' ⟨rfl, hw⟩
        have HW : Hid (Below w.heap.size w w') := hw
        (try replace c0 := (hw.cell (row_lt H.out.bags)).trans c0)
        clear hw
        rw [hb, hl]
        go_wp2
        go_ret2
        exact ⟨by rw [HE.out.1, HE.out.2]; rfl, HW.out⟩
      · have q2 : ((B (plc n f t)).length : Int) ≤ i := by omega
        clear hk
        go_enter Try.func15, Try.ntmps15
        go_wp2_with fail
        refine (bag_any F nb n B bb vs f t _ H.out).mono ?_
        rintro e w' ⟨rfl, hw⟩
        have HW : Hid (Below w.heap.size w w') := hw
        (try replace c0 := (hw.cell (row_lt H.out.bags)).trans c0)
        clear hw
        rw [hb, hl]
        go_wp2
        go_ret2
        exact ⟨by rw [HE.out.1, HE.out.2]; rfl, HW.out⟩
  · have hb : bagV bb n f t = .pointer none := by unfold bagV; rw [if_neg hl]
    have hq : (linkE n f t == 0) = false := by simpa using hl
    have he : withE n B f t i = linkE n f t := by unfold withE; rw [if_neg hl]
    have HE : Hid (withV bb n B f t i = .pointer none ∧ withE n B f t i = linkE n f t) := ⟨by unfold withV; rw [he, if_neg hl], he⟩
    clear h he
    go_enter Try.func15, Try.ntmps15
    go_wp2_with fail
    refine (bag_any F nb n B bb vs f t _ H.out).mono ?_
    rintro e w' ⟨rfl, hw⟩
    have HW : Hid (Below w.heap.size w w') := hw
    (try replace c0 := (hw.cell (row_lt H.out.bags)).trans c0)
    clear hw
    rw [hb]
    go_wp2
    go_ret2
    exact ⟨by rw [HE.out.1, HE.out.2]; rfl, HW.out⟩

end Go.Proofs.Ytlcnfoljkcfplaa
