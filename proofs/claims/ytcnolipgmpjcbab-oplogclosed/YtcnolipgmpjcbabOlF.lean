/- The document's Find and Clock. -/
import Derived.Test.YtcnolipgmpjcbabOlL
import Derived.Test.YtcnolipgmpjcbabCkU
import Derived.Laws.OwnMore
namespace Go.Proofs.Ytcnolipgmpjcbab
open Go.RowKit
set_option linter.unusedVariables false
set_option linter.unusedSimpArgs false

/-- The place of a stamp's change. -/
def findI (L : List Ch) (a r : Int) : Int := match L.findIdx? (isAt a r) with | some k => (k : Int) | none => -1
theorem findI_none {L : List Ch} {a r : Int} (h : getL L a r = none) : findI L a r = -1 := by
  have : L.findIdx? (isAt a r) = none := by rw [List.findIdx?_eq_none_iff]; intro x hx; have := (List.find?_eq_none.1 h) x hx; simpa using this
  simp [findI, this]
theorem findI_at {L : List Ch} {a r : Int} {k : Nat} (hk : k < L.length) (h : getL (L.take k) a r = none) (he : isAt a r L[k] = true) : findI L a r = k ∧ getL L a r = some L[k] := by
  have h1 : ∀ x ∈ L.take k, ¬ isAt a r x = true := List.find?_eq_none.1 h
  have h2 : L.findIdx? (isAt a r) = some k := by
    rw [List.findIdx?_eq_some_iff_getElem]
    refine ⟨hk, he, fun j hj => ?_⟩
    exact h1 _ (by rw [List.mem_take_iff_getElem]; exact ⟨j, by omega, rfl⟩)
  refine ⟨by simp [findI, h2], ?_⟩
  unfold getL
  rw [List.find?_eq_some_iff_getElem]
  refine ⟨he, k, hk, rfl, fun j hj => ?_⟩
  have := h1 (L[j]) (by rw [List.mem_take_iff_getElem]; exact ⟨j, by omega, rfl⟩)
  simpa using this
theorem getL_next {L : List Ch} {a r : Int} {k : Nat} (hk : k < L.length) (h : getL (L.take k) a r = none) (he : isAt a r L[k] = false) : getL (L.take (k + 1)) a r = none := by
  unfold getL at h ⊢
  rw [List.take_succ_eq_append_getElem hk, List.find?_append, h]
  simp [he]
theorem findI_or (L : List Ch) (a r : Int) : (findI L a r = -1 ∧ getL L a r = none) ∨ ∃ (k : Nat) (h : k < L.length), findI L a r = k ∧ getL L a r = some L[k] := by
  cases hf : getL L a r with
  | none => exact .inl ⟨findI_none hf, rfl⟩
  | some c =>
    refine .inr ?_
    obtain ⟨h1, k, hk, h2, h3⟩ := List.find?_eq_some_iff_getElem.1 hf
    subst h2
    have h4 : getL (L.take k) a r = none := by
      unfold getL
      rw [List.find?_eq_none]
      intro x hx
      rw [List.mem_take_iff_getElem] at hx
      obtain ⟨j, hj, rfl⟩ := hx
      have := h3 j (by omega)
      simpa using this
    exact ⟨k, hk, (findI_at hk h4 h1).1, rfl⟩

set_option maxHeartbeats 2000000 in
/-- The document's Find. -/
theorem find_any (v : Value) (L : List Ch) (c r : Int) (w : World) (h1 : IsH w v L) :
    Calls Try.prog 13 #[v, .agg #[.int .i64 c, .int .i64 r]] w fun e w' => e = .returned (.int .i64 (findI L c r)) ∧ Below w.heap.size w w' := by
  obtain ⟨a1, c1, rfl, hc1, hl1, r1⟩ := h1
  have hbox : Below w.heap.size w (w.alloc (.cells #[.int .i64 c, .int .i64 r] 30)) := (Below.refl _ _).alloc (Nat.le_refl _) _
  have HR : Hid (L = [] ∨ ∃ b o, a1 = some ⟨b, o, none⟩ ∧ ChsAt w b o L) := r1
  clear r1
  go_enter Try.func13, Try.ntmps13
  go_wp2
  go_loopw [5] (fun i wr => ∃ k : Nat, k ≤ L.length ∧ i = .int .i64 (k : Int) ∧ Hid (getL (L.take k) c r = none) ∧ Below (w.heap.size + 1) (w.alloc (.cells #[.int .i64 c, .int .i64 r] 30)) wr) (fun i _ => L.length - (intOf i).toNat)
  case atStart => exact ⟨0, Nat.zero_le _, rfl, (rfl : getL (L.take 0) c r = none), Below.refl _ _⟩
  case round =>
    obtain ⟨k, hk, rfl, HT, hb⟩ := hrel
    have hbw : Below w.heap.size w wr := hbox.trans (hb.mono (by omega))
    have y1 : wr.cell? ⟨w.heap.size, 0, none⟩ = some (.int .i64 c) := (hb.cell (p := ⟨w.heap.size, 0, none⟩) (by show w.heap.size < _; omega)).trans (by simp [go_sem])
    have y2 : wr.cell? ⟨w.heap.size, 1, none⟩ = some (.int .i64 r) := (hb.cell (p := ⟨w.heap.size, 1, none⟩) (by show w.heap.size < _; omega)).trans (by simp [go_sem])
    by_cases hlt : k < L.length
    · obtain ⟨b1, o1, rfl, g1⟩ := HR.out.resolve_left (by intro e; subst e; simp at hlt)
      obtain ⟨_, _, _, _, x11, x12, _⟩ := ((g1.below hbw) k hlt).all
      have k1 : (k : Int) < (L.length : Int) := by omega
      have k0 : (0 : Int) ≤ (k : Int) := by omega
      cases hm : isAt c r L[k] with
      | true =>
        have HM : Hid (findI L c r = (k : Int)) := (findI_at hlt HT.out hm).1
        have hm2 : L[k].ac = c ∧ L[k].ar = r := of_decide_eq_true hm
        rw [hm2.1] at x11
        rw [hm2.2] at x12
        clear hm hm2 g1
        go_wp2
        go_quiet (fail)
        go_wp2
        go_ret
        exact ⟨ret_i HM.out.symm, below_drewN hbw _⟩
      | false =>
        have HM : Hid (getL (L.take (k + 1)) c r = none) := getL_next hlt HT.out hm
        have hm2 : ¬ (L[k].ac = c ∧ L[k].ar = r) := of_decide_eq_false hm
        by_cases hf : L[k].ac = c
        · have q2 : (L[k].ar == r) = false := by
            rw [beq_eq_false_iff_ne]; intro e; exact hm2 ⟨hf, e⟩
          rw [hf] at x11
          clear hm hm2 hf g1
          go_wp2
          go_quiet (fail)
          go_wp2
          go_roundw
          case rel => exact ⟨k + 1, by omega, by go_num, HM, below_drewN hb _⟩
          case measure => simp [intOf]; omega
        · have q1 : (L[k].ac == c) = false := by rw [beq_eq_false_iff_ne]; exact hf
          clear hm hm2 hf g1
          go_wp2
          go_quiet (fail)
          go_wp2
          go_roundw
          case rel => exact ⟨k + 1, by omega, by go_num, HM, below_drewN hb _⟩
          case measure => simp [intOf]; omega
    · have hkl : k = L.length := by omega
      have HM : Hid (findI L c r = -1) := by
        have := HT.out
        rw [hkl, List.take_length] at this
        exact findI_none this
      go_wp2
      go_ret
      exact ⟨ret_i HM.out.symm, hbw⟩

/-- What Clock counts, as far as it has come. -/
theorem counts_next {L : List Ch} {k : Nat} (hk : k < L.length) : counts (L.take (k + 1)) = if 0 ≤ L[k].ar ∧ L[k].ar < 64 then (counts (L.take k)).set L[k].ar.toNat ((counts (L.take k)).getD L[k].ar.toNat 0 + 1) else counts (L.take k) := by
  have hc : ∀ r : Int, cntR (L.take (k + 1)) r = cntR (L.take k) r + if L[k].ar = r then 1 else 0 := fun r => by
    unfold cntR ofR
    rw [List.take_succ_eq_append_getElem hk, List.filter_append, List.length_append]
    by_cases h : L[k].ar = r <;> simp [h]
  apply List.ext_getElem
  · split <;> simp [counts]
  · intro i h1 h2
    have hi : i < 64 := by simpa [counts] using h1
    have e1 : (counts (L.take (k + 1)))[i] = (cntR (L.take (k + 1)) (i : Int) : Int) := by simp [counts]
    have e2 : (counts (L.take k))[i]'(by rw [counts_length]; exact hi) = (cntR (L.take k) (i : Int) : Int) := by simp [counts]
    refine e1.trans ?_
    rw [hc]
    by_cases h : 0 ≤ L[k].ar ∧ L[k].ar < 64
    · have e3 : (if 0 ≤ L[k].ar ∧ L[k].ar < 64 then (counts (L.take k)).set L[k].ar.toNat ((counts (L.take k)).getD L[k].ar.toNat 0 + 1) else counts (L.take k)) = (counts (L.take k)).set L[k].ar.toNat ((counts (L.take k)).getD L[k].ar.toNat 0 + 1) := if_pos h
      simp only [e3]
      rw [List.getElem_set]
      by_cases hr : L[k].ar.toNat = i
      · have hr2 : L[k].ar = (i : Int) := by omega
        rw [if_pos hr, if_pos hr2, counts_getD, hr, if_pos hi]
        omega
      · have hr2 : ¬ L[k].ar = (i : Int) := by omega
        rw [if_neg hr, if_neg hr2, e2]
        omega
    · have e3 : (if 0 ≤ L[k].ar ∧ L[k].ar < 64 then (counts (L.take k)).set L[k].ar.toNat ((counts (L.take k)).getD L[k].ar.toNat 0 + 1) else counts (L.take k)) = counts (L.take k) := if_neg h
      simp only [e3]
      have hr2 : ¬ L[k].ar = (i : Int) := by omega
      rw [if_neg hr2, e2]
      omega
theorem OwnI.write {B : Nat} {w : World} {g cap n : Nat} {D : List Int} (h : OwnI B w (.slice (some ⟨g, 0, none⟩) n cap) D) (hn : n = D.length) (j : Nat) (c : Int) : OwnI B (w.setCell ⟨g, j, none⟩ (.int .i64 c)) (.slice (some ⟨g, 0, none⟩) n cap) (D.set j c) := by
  subst hn
  obtain ⟨h1, h2⟩ := World.ownsRow.stored h j (.int .i64 c)
  unfold OwnI
  rw [List.length_set]
  have e : cellsI (D.set j c) = (cellsI D).set j (.int .i64 c) := by simp [cellsI, List.map_set]
  rw [e]
  exact h1
theorem OwnI.at {B : Nat} {w : World} {g cap n : Nat} {D : List Int} (h : OwnI B w (.slice (some ⟨g, 0, none⟩) n cap) D) {j : Nat} (hj : j < D.length) : w.cell? ⟨g, j, none⟩ = some (.int .i64 (D.getD j 0)) ∧ w.frozen? ⟨g, j, none⟩ = false := by
  rcases h.2 with ⟨e, hn⟩ | ⟨g', cap', cur, e, hg, hc, hcap, rest⟩
  · cases e
  · cases e
    refine ⟨?_, frozen_of_row w g j _ _ hc⟩
    have := World.ownsRow.cellAt h j (by omega)
    rw [this, getD_at hj]
    simp [cellsI, hj]

set_option maxRecDepth 100000 in
set_option maxHeartbeats 4000000 in
/-- The document's Clock. -/
theorem refClock_any (v : Value) (L : List Ch) (w : World) (h1 : IsH w v L) :
    Calls Try.prog 9 #[v] w fun e w' => ∃ v', e = .returned v' ∧ OwnI w.heap.size w' v' (clockL L) ∧ Below w.heap.size w w' := by
  obtain ⟨a1, c1, rfl, hc1, hl1, r1⟩ := h1
  have HR : Hid (L = [] ∨ ∃ b o, a1 = some ⟨b, o, none⟩ ∧ ChsAt w b o L) := r1
  clear r1
  obtain ⟨i0, hi, hz0, hz1, hz2⟩ := info_parts infoInt
  obtain ⟨w1, hmk, ho1, hg1⟩ := run_makeSlice_full (P := Try.prog) w w.heap.size 31 3 i0 (.int .i64 0) 1 Try.underlying31 hi hz0 hz1 .i64 .i64 64 (by omega) (by rw [hz2]; omega) (by unfold maxLen; omega) (Nat.le_refl _)
  have HO1 : Hid (OwnI w.heap.size w1 (.slice (some ⟨w.heap.size, 0, none⟩) 64 64) (counts (L.take 0))) := by
    have e : (madeCells (Value.int .i64 0).cells (64 * 1)).toList = cellsI (counts (L.take 0)) := by
      have e2 : counts (L.take 0) = List.replicate 64 0 := by simp [counts, cntR, ofR, List.map_const']
      rw [e2]
      have e3 : (madeCells (Value.int .i64 0).cells (64 * 1)).toList = List.replicate 64 (Value.int .i64 0) := toList_madeCells_one _ _
      rw [e3]
      rfl
    rw [e] at ho1
    exact ho1
  have HB1 : Hid (Below w.heap.size w w1) := (Below.refl _ _).grown hg1 (Nat.le_refl _) (fun j e => by cases e)
  replace hmk : (Instr.makeSlice 31 (.int .i64 64) (.int .i64 64)).run Try.prog w = .ok (.slice (some ⟨w.heap.size, 0, none⟩) 64 64) w1 := hmk
  clear ho1 hg1 hi hz0 hz1 hz2
  go_enter Try.func9, Try.ntmps9
  go_wp2
  clear hmk
  go_loopw [4] (fun i wr => ∃ k : Nat, k ≤ L.length ∧ i = .int .i64 (k : Int) ∧ Hid (OwnI w.heap.size wr (.slice (some ⟨w.heap.size, 0, none⟩) 64 64) (counts (L.take k))) ∧ Hid (Below w.heap.size w wr)) (fun i _ => L.length - (intOf i).toNat)
  case atStart => exact ⟨0, Nat.zero_le _, rfl, HO1, HB1⟩
  case round =>
    obtain ⟨k, hk, rfl, HO, HB⟩ := hrel
    by_cases hlt : k < L.length
    · obtain ⟨b1, o1, rfl, g1⟩ := HR.out.resolve_left (by intro e; subst e; simp at hlt)
      obtain ⟨_, _, _, _, _, x12, _⟩ := ((g1.below HB.out) k hlt).all
      have k1 : (k : Int) < (L.length : Int) := by omega
      have k0 : (0 : Int) ≤ (k : Int) := by omega
      have HN : Hid (counts (L.take (k + 1)) = if 0 ≤ L[k].ar ∧ L[k].ar < 64 then (counts (L.take k)).set L[k].ar.toNat ((counts (L.take k)).getD L[k].ar.toNat 0 + 1) else counts (L.take k)) := counts_next hlt
      generalize L[k].ar = r at *
      clear g1
      by_cases hr0 : 0 ≤ r
      · by_cases hr1 : r < 64
        · obtain ⟨rn, rfl⟩ := Int.eq_ofNat_of_zero_le hr0
          have hrn : rn < 64 := by omega
          obtain ⟨y1, y2⟩ := HO.out.at (j := rn) (by rw [counts_length]; exact hrn)
          have HC : Hid (OwnI w.heap.size (wr.setCell ⟨w.heap.size, rn, none⟩ (.int .i64 ((counts (L.take k)).getD rn 0 + 1))) (.slice (some ⟨w.heap.size, 0, none⟩) 64 64) (counts (L.take (k + 1)))) := by
            have := HO.out.write (by rw [counts_length]) rn ((counts (L.take k)).getD rn 0 + 1)
            rw [HN.out, if_pos ⟨hr0, hr1⟩]
            exact this
          have hcn : 0 ≤ (counts (L.take k)).getD rn 0 ∧ (counts (L.take k)).getD rn 0 ≤ 281474976710656 := by
            rw [counts_getD, if_pos hrn]
            have : cntR (L.take k) (rn : Int) ≤ (L.take k).length := List.length_filter_le _ _
            rw [List.length_take] at this
            omega
          have HB2 : Hid (Below w.heap.size w (wr.setCell ⟨w.heap.size, rn, none⟩ (.int .i64 ((counts (L.take k)).getD rn 0 + 1)))) := HB.out.setCell (p := ⟨w.heap.size, rn, none⟩) (Nat.le_refl _) _
          generalize (counts (L.take k)).getD rn 0 = cn at *
          clear HO HB HN
          go_wp2
          go_roundw
          case rel => exact ⟨k + 1, by omega, by go_num, HC, HB2⟩
          case measure => simp [intOf]; omega
        · have HC : Hid (counts (L.take (k + 1)) = counts (L.take k)) := by
            have := HN.out
            rw [if_neg (by omega)] at this
            exact this
          clear HN
          go_wp2
          go_roundw
          case rel => exact ⟨k + 1, by omega, by go_num, by rw [HC.out]; exact HO, HB⟩
          case measure => simp [intOf]; omega
      · have HC : Hid (counts (L.take (k + 1)) = counts (L.take k)) := by
          have := HN.out
          rw [if_neg (by omega)] at this
          exact this
        clear HN
        go_wp2
        go_roundw
        case rel => exact ⟨k + 1, by omega, by go_num, by rw [HC.out]; exact HO, HB⟩
        case measure => simp [intOf]; omega
    · have hkl : k = L.length := by omega
      have HO2 : Hid (OwnI w.heap.size wr (.slice (some ⟨w.heap.size, 0, none⟩) 64 64) (counts L)) := by
        have := HO.out
        rw [hkl, List.take_length] at this
        exact this
      have HI : Hid (IsI wr (.slice (some ⟨w.heap.size, 0, none⟩) 64 64) (counts L)) := HO2.out.isI (by rw [counts_length]; omega)
      have hszr := HB.out.size
      clear HO
      go_wp2_with ((go_at_call 23; refine (refTrim_any _ _ _ HI.out).mono ?_; rintro e w' ⟨v', rfl, ho, hb⟩; have HO3 : Hid (OwnI w.heap.size w' v' (clockL L)) := OwnI.low ho hszr; have HB3 : Hid (Below w.heap.size w w') := HB.out.trans (hb.mono hszr); clear ho hb))
      go_ret
      exact ⟨_, rfl, HO3.out, HB3.out⟩

end Go.Proofs.Ytcnolipgmpjcbab
