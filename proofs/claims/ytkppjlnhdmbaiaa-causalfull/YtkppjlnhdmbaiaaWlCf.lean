/- CausalFull is true of every input. -/
import Derived.Test.YtkppjlnhdmbaiaaCaH
namespace Go.Proofs.Ytkppjlnhdmbaiaa
open Go.RowKit
set_option linter.unusedVariables false
set_option linter.unusedSimpArgs false

set_option maxRecDepth 100000 in
set_option maxHeartbeats 8000000 in
theorem fullWalk (room : Int) (v : Value) (l : List Ch) (w : World) (hr : (Lit.int .i64 room).wf = true) (h : IsH w v l) :
    Calls Try.prog 7 #[.int .i64 room, v] w fun e w' => e = .returned (.bool true) ∧ Below w.heap.size w w' := by
  have HH : Hid (IsH w v l) := h
  obtain ⟨a1, c1, e1⟩ := h.form
  subst e1
  clear h
  go_enter Try.func7, Try.ntmps7
  go_wp2_with fail
  refine (new_any room _).mono ?_
  rintro e w1 ⟨h, hb1⟩
  have HB1 : Hid (Below w.heap.size w w1) := hb1
  rcases h with ⟨h, rfl⟩ | ⟨hrm, bb, mb, rfl, hL, hF1, hF2⟩
  · clear hb1
    go_wp2_with fail
    refine (awake_any _).mono ?_
    rintro e w2 ⟨rfl, hb2⟩
    have HB2 : Hid (Below w.heap.size w w2) := HB1.out.trans (hb2.mono HB1.out.size)
    clear hb2
    go_wp2
    go_ret
    exact ⟨rfl, HB2.out⟩
  · have HL1 : Hid (BufH (fun k => k = mb ∨ k = bb) w1 (.pointer (some ⟨bb, 0, none⟩)) room []) := ⟨[], hL.v, List.Perm.refl _, List.Pairwise.nil⟩
    have HF1 : Hid (∀ k, (k = mb ∨ k = bb) → w.heap.size ≤ k) := fun k hk => by rcases hk with rfl | rfl <;> assumption
    clear hL hb1 hF1 hF2
    go_wp2
    go_loopw [7] (fun iv wr => ∃ (i : Nat) (H : List Ch) (F : Nat → Prop), i ≤ l.length ∧ iv = .int .i64 (i : Int) ∧ (H.length : Int) ≤ room ∧ Hid (BufH F wr (.pointer (some ⟨bb, 0, none⟩)) room H) ∧ Hid (∀ k, F k → w.heap.size ≤ k) ∧ Hid (Below w.heap.size w wr)) (fun iv _ => l.length - (intOf iv).toNat)
    case atStart => exact ⟨0, [], _, Nat.zero_le _, rfl, by simp; omega, HL1, HF1, HB1⟩
    case round =>
      obtain ⟨i, H, F, hi, rfl, hHl, HL, HF, HB⟩ := hrel
      by_cases hlt : i < l.length
      · obtain ⟨_, _, e, _, hll, hrow⟩ := HH.out
        cases e
        obtain ⟨b, o, rfl, hrow2⟩ := hrow.resolve_left (by intro e; subst e; simp at hlt)
        have HC : Hid (∀ W, Below w.heap.size w W → ChAt W b (o + i * 13) l[i]) := fun W hb => (hrow2 i hlt).below hb
        have i1 : (i : Int) < (l.length : Int) := by omega
        have i0 : (0 : Int) ≤ (i : Int) := by omega
        clear hrow hrow2
        go_wp2_with fail
        refine (heldH_any F _ room H _ HL.out (by omega)).mono ?_
        rintro e w2 ⟨a2, c2, E2, rfl, hA2, hE2, hb2⟩
        have HA2 : Hid (AccH wr.heap.size (.slice a2 H.length c2) E2 w2 ∧ E2.map Prod.fst = H) := ⟨hA2, hE2⟩
        have HL2 : Hid (BufH F w2 (.pointer (some ⟨bb, 0, none⟩)) room H) := HL.out.below hb2
        have HB2 : Hid (Below w.heap.size w w2) := HB.out.trans (hb2.mono HB.out.size)
        have HFw : Hid (∀ k, F k → k < wr.heap.size) := HL.out.lt
        clear hA2 hE2 hb2 HL HB
        obtain ⟨a3, c3, hI3, hS3, k_0, k_1, k_2, k_3, k_4, k_5, k_6, k_7, k_8, k_9, k_10, k_11, k_12⟩ := (HC.out w2 HB2.out).all
        have HI3 : Hid (IsI w2 (.slice a3 l[i].deps.length c3) l[i].deps) := hI3
        have HS3 : Hid (Sized l[i]) := hS3
        clear hI3 hS3
        generalize l[i] = x at *
        obtain ⟨ac, ar, sq, ds, kd, nc, nr, pc, pr, fc, fr, nm, vl⟩ := x
        simp only at k_0 k_1 k_2 k_3 k_4 k_5 k_6 k_7 k_8 k_9 k_10 k_11 k_12 HI3 HS3
        go_wp2_with fail
        clear k_0 k_1 k_2 k_3 k_4 k_5 k_6 k_7 k_8 k_9 k_10 k_11 k_12
        refine (take_any F _ room H ac ar sq (.slice a3 ds.length c3) kd nc nr pc pr fc fr nm vl ds (.slice none 0 0) [] _ HL2.out (by omega) (IsI.non 0) HI3.out HS3.out).mono ?_
        rintro e w3 ⟨v3, E3, F3, rfl, hA3, hE3, hL3, hF3, ht3⟩
        have hz2 : wr.heap.size ≤ w2.heap.size := HA2.out.1.le
        have HA3 : Hid (AccH wr.heap.size (.slice a2 H.length c2) E2 w3 ∧ E2.map Prod.fst = H) := ⟨HA2.out.1.keep ht3.size (fun k h1 h2 => ht3.block k h2 fun hF => by have := HFw.out k hF; omega), HA2.out.2⟩
        have hHl3 : ((takeR room H [] ⟨ac, ar, sq, ds, kd, nc, nr, pc, pr, fc, fr, nm, vl⟩).1.length : Int) ≤ room := takeR_len hHl
        have HL3 : Hid (BufH F3 w3 (.pointer (some ⟨bb, 0, none⟩)) room (takeR room H [] ⟨ac, ar, sq, ds, kd, nc, nr, pc, pr, fc, fr, nm, vl⟩).1) := hL3
        have HF3 : Hid (∀ k, F3 k → w.heap.size ≤ k) := fun k hk => (hF3 k hk).elim (HF.out k) (fun h => Nat.le_trans HB2.out.size h)
        have HB3 : Hid (Below w.heap.size w w3) := HB2.out.trans (ht3.below HF.out HB2.out.size)
        have HFu : Hid ((takeR room H [] ⟨ac, ar, sq, ds, kd, nc, nr, pc, pr, fc, fr, nm, vl⟩).2.2 = 6 → takeR room H [] ⟨ac, ar, sq, ds, kd, nc, nr, pc, pr, fc, fr, nm, vl⟩ = (H, [], 6) ∧ room ≤ (H.length : Int)) := takeR_full
        obtain ⟨av, cv, ev⟩ := hA3.own.form
        have hl3 : E3.length = (takeR room H [] ⟨ac, ar, sq, ds, kd, nc, nr, pc, pr, fc, fr, nm, vl⟩).2.1.length := by have := congrArg List.length hE3; simpa using this
        rw [hl3] at ev
        subst ev
        clear hA3 hE3 hL3 hF3 ht3 hl3 HA2 HL2 HB2 HF HFw
        generalize takeR room H [] ⟨ac, ar, sq, ds, kd, nc, nr, pc, pr, fc, fr, nm, vl⟩ = R at *
        obtain ⟨H3, O3, f3⟩ := R
        simp only at hHl3 HL3 HFu ⊢
        by_cases hf : f3 = 6
        · subst hf
          obtain ⟨he, hge⟩ := HFu.out rfl
          simp only [Prod.mk.injEq] at he
          obtain ⟨rfl, rfl, _⟩ := he
          have hrH : (H3.length : Int) = room := by omega
          have hne : ((H3.length : Int) == room) = true := by simp [hrH]
          go_wp2_with fail
          refine (heldH_any F3 _ room H3 _ HL3.out (by omega)).mono ?_
          rintro e w4 ⟨a4, c4, E4, rfl, hA4, hE4, hb4⟩
          have HL4 : Hid (BufH F3 w4 (.pointer (some ⟨bb, 0, none⟩)) room H3) := HL3.out.below hb4
          have HB4 : Hid (Below w.heap.size w w4) := HB3.out.trans (hb4.mono HB3.out.size)
          have hlE : E2.length ≤ 4096 ∧ E4.length ≤ 4096 := by
            have q1 := congrArg List.length HA3.out.2
            have q2 := congrArg List.length hE4
            simp at q1 q2
            omega
          have hs1 : IsH w4 (.slice a2 H3.length c2) H3 := by
            have := (HA3.out.1.below hb4).isH (by omega)
            rw [HA3.out.2] at this
            exact this
          have hs2 : IsH w4 (.slice a4 H3.length c4) H3 := by
            have := hA4.isH (by omega)
            rw [hE4] at this
            exact this
          have HS : Hid (IsH w4 (.slice a2 H3.length c2) H3 ∧ IsH w4 (.slice a4 H3.length c4) H3) := ⟨hs1, hs2⟩
          clear hA4 hE4 hb4 hs1 hs2 HL3 HB3 HA3
          go_wp2_with fail
          refine (sameAll_eq _ _ H3 _ HS.out.1 HS.out.2).mono ?_
          rintro e w5 ⟨rfl, hb5⟩
          have HL5 : Hid (BufH F3 w5 (.pointer (some ⟨bb, 0, none⟩)) room H3) := HL4.out.below hb5
          have HB5 : Hid (Below w.heap.size w w5) := HB4.out.trans (hb5.mono HB4.out.size)
          clear hb5 HL4 HB4 HS
          go_wp2_with fail
          refine (lenH_any F3 _ room H3 _ HL5.out).mono ?_
          rintro e w6 ⟨rfl, hb6⟩
          have HL6 : Hid (BufH F3 w6 (.pointer (some ⟨bb, 0, none⟩)) room H3) := HL5.out.below hb6
          have HB6 : Hid (Below w.heap.size w w6) := HB5.out.trans (hb6.mono HB5.out.size)
          clear hb6 HL5 HB5
          go_wp2
          go_roundw
          case rel => exact ⟨i + 1, H3, F3, by omega, by go_num, hHl3, HL6, HF3, HB6⟩
          case measure => simp [intOf]; omega
        · have hf2 : (f3 == 6) = false := by simp [hf]
          go_wp2_with fail
          refine (lenH_any F3 _ room H3 _ HL3.out).mono ?_
          rintro e w6 ⟨rfl, hb6⟩
          have HL6 : Hid (BufH F3 w6 (.pointer (some ⟨bb, 0, none⟩)) room H3) := HL3.out.below hb6
          have HB6 : Hid (Below w.heap.size w w6) := HB3.out.trans (hb6.mono HB3.out.size)
          clear hb6 HL3 HB3
          go_wp2
          go_roundw
          case rel => exact ⟨i + 1, H3, F3, by omega, by go_num, hHl3, HL6, HF3, HB6⟩
          case measure => simp [intOf]; omega
      · go_wp2_with fail
        refine (awake_any _).mono ?_
        rintro e w2 ⟨rfl, hb2⟩
        have HB2 : Hid (Below w.heap.size w w2) := HB.out.trans (hb2.mono HB.out.size)
        clear hb2
        go_wp2
        go_ret
        exact ⟨rfl, HB2.out⟩

end Go.Proofs.Ytkppjlnhdmbaiaa
