/- What Spoil does with a net. -/
import Derived.Test.YtlcnfoljkcfplaaBgG
namespace Go.Proofs.Ytlcnfoljkcfplaa
open Go.RowKit
set_option linter.unusedVariables false
set_option linter.unusedSimpArgs false

/-- A bag's row is written over, where it lies. -/
theorem NetIs.over {F : Nat → Prop} {w : World} {nb n : Nat} {B : Nat → List Pc} {bb : Nat} {vs : List Value} (h : NetIs F w nb n B bb vs) {i : Nat} (hi : i < vs.length) {w1 : World} {b' : List Pc} (hg : w.grownBy w1 vs[i].ownBlock) (ho : OwnP 0 w1 vs[i] b') (hl : PcOk b') :
    NetIs F w1 nb n (upd B i b') bb vs ∧ Touch F w w1 := by
  obtain ⟨n1, n2, n3⟩ := h.ne
  have hbk : ∀ k, k < w.heap.size → vs[i].ownBlock ≠ some k → w1.heap[k]? = w.heap[k]? := fun k hk h1 => hg.block k hk (fun e => h1 e.symm)
  refine ⟨⟨(hbk nb (h.lt _ h.fl) (n3 i hi)).trans h.row, (hbk bb (h.lt _ h.fb) (n2 i hi)).trans h.bags, h.len, ?_, h.small, ?_, h.fl, h.fb, h.fr, h.dis, fun k hk => Nat.lt_of_lt_of_le (h.lt k hk) hg.size⟩, Touch.of_grown hg (fun k e _ => h.fr i hi k e)⟩
  · intro j hj
    by_cases hji : j = i
    · subst hji; rw [upd_same]; exact ho
    · rw [upd_other _ _ hji]
      exact ownsRow_keep (h.hown j hj) fun k e => hbk k (h.lt k (h.fr j hj k e)) (fun e2 => h.dis i hi j hj (fun e => hji e.symm) k e2 e)
  · intro j
    by_cases hji : j = i
    · subst hji; rw [upd_same]; exact hl
    · rw [upd_other _ _ hji]; exact h.lim j
theorem spoilL_length (p : List UInt8) (at_ mask : Int) : (spoilL p at_ mask).1.length ≤ p.length := by
  unfold spoilL
  split
  · split <;> simp
  · simp
/-- What Spoil tells, and leaves. -/
def spE (n : Nat) (B : Nat → List Pc) (f t i at_ mask : Int) : Int := if withE n B f t i = 0 then (if (pcAt n B f t i).2 = true then 5 else (spoilL (pcAt n B f t i).1 at_ mask).2) else withE n B f t i
def spN (n : Nat) (B : Nat → List Pc) (f t i at_ mask : Int) : Nat → List Pc := if spE n B f t i at_ mask = 0 then upd B (plc n f t) ((B (plc n f t)).set i.toNat ((spoilL (pcAt n B f t i).1 at_ mask).1, true)) else B
theorem spE_ok {n : Nat} {B : Nat → List Pc} {f t i at_ mask : Int} (he : withE n B f t i = 0) (hs : (pcAt n B f t i).2 = false) : spE n B f t i at_ mask = (spoilL (pcAt n B f t i).1 at_ mask).2 := by
  unfold spE
  rw [if_pos he, hs]
  rfl

set_option maxRecDepth 100000 in
set_option maxHeartbeats 4000000 in
theorem nspoil_any (F : Nat → Prop) (nb n : Nat) (B : Nat → List Pc) (f t i at_ mask : Int) (w : World) (h : NetOk F w nb n B) :
    Calls Try.prog 23 #[.pointer (some ⟨nb, 0, none⟩), .int .i64 f, .int .i64 t, .int .i64 i, .int .i64 at_, .int .i64 mask] w fun e w' => e = .returned (.int .i64 (spE n B f t i at_ mask)) ∧ NetS F nb n w w' (spN n B f t i at_ mask) := by
  obtain ⟨bb, vs, h⟩ := h
  have H : Hid (NetIs F w nb n B bb vs) := h
  by_cases he : withE n B f t i = 0
  · obtain ⟨hl, hi0, hi1⟩ := withE_ok he
    have hb : withV bb n B f t i = .pointer (some ⟨bb, plc n f t, none⟩) := by unfold withV; rw [if_pos he]
    have hi : plc n f t < vs.length := by rw [h.len]; exact plc_of hl
    obtain ⟨k, rfl⟩ := Int.eq_ofNat_of_zero_le hi0
    have hk : k < (B (plc n f t)).length := by omega
    have hpa := pcAt_of he hk
    obtain ⟨g, cap, eo, hcap, x0, x1, hfr⟩ := (h.hown _ hi).cells hk
    have c0 := h.celli hi
    rw [eo] at c0
    have q1 : (0 : Int) ≤ (k : Int) := by omega
    have q2 : (k : Int) < ((B (plc n f t)).length : Int) := by omega
    have hpl : (B (plc n f t))[k].1.length ≤ 65545 := (h.lim _).2 _ (List.getElem_mem hk)
    have HOw : Hid (OwnP 0 w (.slice (some ⟨g, 0, none⟩) (B (plc n f t)).length cap) (B (plc n f t))) := by rw [← eo]; exact h.hown _ hi
    have HEo : Hid (vs[plc n f t] = .slice (some ⟨g, 0, none⟩) (B (plc n f t)).length cap) := eo
    have HLim : Hid (PcOk (B (plc n f t))) := h.lim _
    have HG : Hid (g < w.heap.size) := h.lt _ (h.fr _ hi g (by rw [eo]; rfl))
    have hex : spE n B f t (k : Int) at_ mask = if (B (plc n f t))[k].2 = true then 5 else (spoilL (B (plc n f t))[k].1 at_ mask).2 := by unfold spE; rw [if_pos he, hpa]
    have hnx : spN n B f t (k : Int) at_ mask = if spE n B f t (k : Int) at_ mask = 0 then upd B (plc n f t) ((B (plc n f t)).set k ((spoilL (B (plc n f t))[k].1 at_ mask).1, true)) else B := by unfold spN; rw [hpa]; rfl
    generalize (B (plc n f t))[k] = x at *
    obtain ⟨p, sp⟩ := x
    simp only at hex hnx hpl x0 x1
    cases sp with
    | true =>
      have HE : Hid (spE n B f t (k : Int) at_ mask = 5 ∧ spN n B f t (k : Int) at_ mask = B) := by
        have h5 : spE n B f t (k : Int) at_ mask = 5 := by rw [hex]; rfl
        exact ⟨h5, by rw [hnx, h5]; rfl⟩
      clear h eo hfr hex hnx hpa
      go_enter Try.func23, Try.ntmps23
      go_wp2_with fail
      refine (bagWith_any F nb n B bb vs f t _ _ H.out).mono ?_
      rintro e w' ⟨rfl, hw⟩
      have HW : Hid (Below w.heap.size w w') := hw
      replace c0 := (hw.cell (row_lt H.out.bags)).trans c0
      replace x0 := (hw.cell (p := ⟨g, k * 2, none⟩) HG.out).trans x0
      replace x1 := (hw.cell (p := ⟨g, k * 2 + 1, none⟩) HG.out).trans x1
      clear hw
      rw [hb, he]
      go_wp2
      go_ret
      exact ⟨by rw [HE.out.1]; rfl, by rw [HE.out.2]; exact NetS.same ⟨bb, vs, H.out⟩ HW.out⟩
    | false =>
      have hex2 : spE n B f t (k : Int) at_ mask = (spoilL p at_ mask).2 := by rw [hex]; rfl
      have HEX : Hid (spE n B f t (k : Int) at_ mask = (spoilL p at_ mask).2) := hex2
      have HNX : Hid (spN n B f t (k : Int) at_ mask = if (spoilL p at_ mask).2 = 0 then upd B (plc n f t) ((B (plc n f t)).set k ((spoilL p at_ mask).1, true)) else B) := by show _ = _; rw [hnx, hex2]
      have HSl : Hid ((spoilL p at_ mask).1.length ≤ 65545) := Nat.le_trans (spoilL_length p at_ mask) hpl
      have HFr : Hid (∀ j, w.frozen? ⟨g, j, none⟩ = false) := hfr
      clear h eo hfr hex hnx hpa hex2
      go_enter Try.func23, Try.ntmps23
      go_wp2_with fail
      refine (bagWith_any F nb n B bb vs f t _ _ H.out).mono ?_
      rintro e w' ⟨rfl, hw⟩
      have HW : Hid (Below w.heap.size w w') := hw
      replace c0 := (hw.cell (row_lt H.out.bags)).trans c0
      replace x0 := (hw.cell (p := ⟨g, k * 2, none⟩) HG.out).trans x0
      replace x1 := (hw.cell (p := ⟨g, k * 2 + 1, none⟩) HG.out).trans x1
      clear hw
      rw [hb, he]
      obtain ⟨cp, w1, kc, hf, hb1⟩ := conv_bytes w' p
      have HF : Hid (FreshB w'.heap.size w1 (.slice (some ⟨w'.heap.size, 0, none⟩) p.length cp) p) := hf
      have HB1 : Hid (Below w.heap.size w w1) := HW.out.trans (hb1.mono HW.out.size)
      clear hf hb1
      go_wp2_with fail
      refine (spoil_any _ p at_ mask _ (HF.out.isB (by omega)) (by omega)).mono ?_
      rintro e w2 ⟨v2, rfl, ho2, hb2⟩
      have HB2 : Hid (Below w.heap.size w w2) := HB1.out.trans (hb2.mono HB1.out.size)
      have hi2 : IsB w2 v2 (spoilL p at_ mask).1 := ho2.isB (by have := HSl.out; omega)
      have kc2 := conv_txt hi2
      obtain ⟨a2, c2, e2⟩ := hi2.form
      subst e2
      clear ho2 hb2 hi2 kc
      by_cases hz : (spoilL p at_ mask).2 = 0
      · rw [hz]
        have HN2 : Hid (spN n B f t (k : Int) at_ mask = upd B (plc n f t) ((B (plc n f t)).set k ((spoilL p at_ mask).1, true))) := by show _ = _; rw [HNX.out, if_pos hz]
        have HE2 : Hid (spE n B f t (k : Int) at_ mask = 0) := by show _ = _; rw [HEX.out, hz]
        generalize (spoilL p at_ mask).1 = z at *
        replace c0 := (HB2.out.cell (p := ⟨bb, plc n f t, none⟩) (row_lt H.out.bags)).trans (by have := (HW.out.cell (p := ⟨bb, plc n f t, none⟩) (row_lt H.out.bags)); rw [this] at c0; first | exact c0 | done)
        have y0 : ∃ y, w2.cell? ⟨g, k * 2, none⟩ = some y := ⟨_, (HB2.out.cell (p := ⟨g, k * 2, none⟩) HG.out).trans (by have := (HW.out.cell (p := ⟨g, k * 2, none⟩) HG.out); rw [this] at x0; exact x0)⟩
        have y1 : ∃ y, w2.cell? ⟨g, k * 2 + 1, none⟩ = some y := ⟨_, (HB2.out.cell (p := ⟨g, k * 2 + 1, none⟩) HG.out).trans (by have := (HW.out.cell (p := ⟨g, k * 2 + 1, none⟩) HG.out); rw [this] at x1; exact x1)⟩
        obtain ⟨u0, y0⟩ := y0
        obtain ⟨u1, y1⟩ := y1
        have f0 : w2.frozen? ⟨g, k * 2, none⟩ = false := (HB2.out.frozen (p := ⟨g, k * 2, none⟩) HG.out).trans (HFr.out _)
        have f1 : w2.frozen? ⟨g, k * 2 + 1, none⟩ = false := (HB2.out.frozen (p := ⟨g, k * 2 + 1, none⟩) HG.out).trans (HFr.out _)
        clear x0 x1
        go_wp2
        go_ret
        refine ⟨by rw [HE2.out]; rfl, ?_⟩
        rw [HN2.out]
        have hN := H.out.below HB2.out
        have hO : OwnP 0 w2 (.slice (some ⟨g, 0, none⟩) (B (plc n f t)).length cap) (B (plc n f t)) := by rw [← HEo.out]; exact hN.hown _ hi
        obtain ⟨o1, o2⟩ := hO.write hk ((z, true) : Pc)
        have h3 := hN.over hi (b' := (B (plc n f t)).set k (z, true)) (w1 := (w2.setCell ⟨g, k * 2, none⟩ (.string (txt z))).setCell ⟨g, k * 2 + 1, none⟩ (.bool true)) (by rw [HEo.out]; exact o2) (by rw [HEo.out]; exact o1) ⟨by rw [List.length_set]; exact HLim.out.1, fun y hy => by
          rcases List.mem_or_eq_of_mem_set hy with hy | rfl
          · exact HLim.out.2 y hy
          · exact HSl.out⟩
        exact NetS.back ⟨⟨bb, vs, h3.1⟩, h3.2⟩ HB2.out
      · have hq : ((spoilL p at_ mask).2 == 0) = false := by simpa using hz
        have HN2 : Hid (spN n B f t (k : Int) at_ mask = B) := by show _ = _; rw [HNX.out, if_neg hz]
        generalize (spoilL p at_ mask).1 = z at *
        generalize (spoilL p at_ mask).2 = y at *
        go_wp2
        go_ret
        exact ⟨by rw [HEX.out]; rfl, by rw [HN2.out]; exact NetS.same ⟨bb, vs, H.out⟩ HB2.out⟩
  · have hb : withV bb n B f t i = .pointer none := by unfold withV; rw [if_neg he]
    have hq : (withE n B f t i == 0) = false := by simpa using he
    have HE : Hid (spE n B f t i at_ mask = withE n B f t i ∧ spN n B f t i at_ mask = B) := by
      have h1 : spE n B f t i at_ mask = withE n B f t i := by unfold spE; rw [if_neg he]
      exact ⟨h1, by unfold spN; rw [h1, if_neg he]⟩
    clear h
    go_enter Try.func23, Try.ntmps23
    go_wp2_with fail
    refine (bagWith_any F nb n B bb vs f t _ _ H.out).mono ?_
    rintro e w' ⟨rfl, hw⟩
    have HW : Hid (Below w.heap.size w w') := hw
    clear hw
    rw [hb]
    go_wp2
    go_ret
    exact ⟨by rw [HE.out.1]; rfl, by rw [HE.out.2]; exact NetS.same ⟨bb, vs, H.out⟩ HW.out⟩

end Go.Proofs.Ytlcnfoljkcfplaa
