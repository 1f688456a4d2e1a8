/- The document's Find and Clock. -/
import Derived.Test.YtckipepodohnpaaGreatOlL
import Derived.Test.YtckipepodohnpaaGreatCkU
import Derived.Laws.OwnMore
import Derived.Test.YtckipepodohnpaaGreatOlV1
import Derived.Test.YtckipepodohnpaaGreatOlV4
import Derived.Test.YtckipepodohnpaaGreatOlNr
import Derived.Test.YtckipepodohnpaaGreatIdE
import Derived.Test.YtckipepodohnpaaGreatWdC
import Derived.Test.YtckipepodohnpaaGreatOlS
namespace Go.Proofs.YtckipepodohnpaaGreat
open Go.RowKit
set_option linter.unusedVariables false
set_option linter.unusedSimpArgs false

/-- The place of a stamp's change. -/
def findI (L : List Ch) (a r : Int) : Int := match L.findIdx? (isAt a r) with | some k => (k : Int) | none => -1
theorem findI_none {L : List Ch} {a r : Int} (h : getL L a r = none) : findI L a r = -1 := by
  have : L.findIdx? (isAt a r) = none := by rw [List.findIdx?_eq_none_iff]; intro x hx; have := (List.find?_eq_none.1 h) x hx; simpa using this
  simp [findI, this]
theorem findI_at {L : List Ch} {a r : Int} {k : Nat} (hk : k < L.length) (h : getL (L.take k) a r = none) (he : isAt a r L[k] = true) : findI L a r = k ∧ getL L a r = some L[k] := by
  have h1 : ∀ x ∈ L.take k, ¬ isAt a r x = true := List.find?_eq_none.1 h
  have h2 : L.findIdx? (isAt a r) = some k := by
    rw [List.findIdx?_eq_some_iff_getElem]
    refine ⟨hk, he, fun j hj => ?_⟩
    exact h1 _ (by rw [List.mem_take_iff_getElem]; exact ⟨j, by omega, rfl⟩)
  refine ⟨by simp [findI, h2], ?_⟩
  unfold getL
  rw [List.find?_eq_some_iff_getElem]
  refine ⟨he, k, hk, rfl, fun j hj => ?_⟩
  have := h1 (L[j]) (by rw [List.mem_take_iff_getElem]; exact ⟨j, by omega, rfl⟩)
  simpa using this
theorem getL_next {L : List Ch} {a r : Int} {k : Nat} (hk : k < L.length) (h : getL (L.take k) a r = none) (he : isAt a r L[k] = false) : getL (L.take (k + 1)) a r = none := by
  unfold getL at h ⊢
  rw [List.take_succ_eq_append_getElem hk, List.find?_append, h]
  simp [he]
theorem findI_or (L : List Ch) (a r : Int) : (findI L a r = -1 ∧ getL L a r = none) ∨ ∃ (k : Nat) (h : k < L.length), findI L a r = k ∧ getL L a r = some L[k] := by
  cases hf : getL L a r with
  | none => exact .inl ⟨findI_none hf, rfl⟩
  | some c =>
    refine .inr ?_
    obtain ⟨h1, k, hk, h2, h3⟩ := List.find?_eq_some_iff_getElem.1 hf
    subst h2
    have h4 : getL (L.take k) a r = none := by
      unfold getL
      rw [List.find?_eq_none]
      intro x hx
      rw [List.mem_take_iff_getElem] at hx
      obtain ⟨j, hj, rfl⟩ := hx
      have := h3 j (by omega)
      simpa using this
    exact ⟨k, hk, (findI_at hk h4 h1).1, rfl⟩

set_option maxHeartbeats 2000000 in
/-- The document's Find. -/
theorem find_any (v : Value) (L : List Ch) (c r : Int) (w : World) (h1 : IsH w v L) :
    Calls Tryz.prog 17 #[v, .agg #[.int .i64 c, .int .i64 r]] w fun e w' => e = .returned (.int .i64 (findI L c r)) ∧ Below w.heap.size w w' := by
  obtain ⟨a1, c1, rfl, hc1, hl1, r1⟩ := h1
  have hbox : Below w.heap.size w (w.alloc (.cells #[.int .i64 c, .int .i64 r] 31)) := (Below.refl _ _).alloc (Nat.le_refl _) _
  have HR : Hid (L = [] ∨ ∃ b o, a1 = some ⟨b, o, none⟩ ∧ ChsAt w b o L) := r1
  clear r1
  go_enter Tryz.func17, Tryz.ntmps17
  go_wp2
  go_loopw [5] (fun i wr => ∃ k : Nat, k ≤ L.length ∧ i = .int .i64 (k : Int) ∧ Hid (getL (L.take k) c r = none) ∧ Below (w.heap.size + 1) (w.alloc (.cells #[.int .i64 c, .int .i64 r] 31)) wr) (fun i _ => L.length - (intOf i).toNat)
  case atStart => exact ⟨0, Nat.zero_le _, rfl, (rfl : getL (L.take 0) c r = none), Below.refl _ _⟩
  case round =>
    obtain ⟨k, hk, rfl, HT, hb⟩ := hrel
    have hbw : Below w.heap.size w wr := hbox.trans (hb.mono (by omega))
    have y1 : wr.cell? ⟨w.heap.size, 0, none⟩ = some (.int .i64 c) := (hb.cell (p := ⟨w.heap.size, 0, none⟩) (by show w.heap.size < _; omega)).trans (by simp [go_sem])
    have y2 : wr.cell? ⟨w.heap.size, 1, none⟩ = some (.int .i64 r) := (hb.cell (p := ⟨w.heap.size, 1, none⟩) (by show w.heap.size < _; omega)).trans (by simp [go_sem])
    by_cases hlt : k < L.length
    · obtain ⟨b1, o1, rfl, g1⟩ := HR.out.resolve_left (by intro e; subst e; simp at hlt)
      obtain ⟨_, _, _, _, x11, x12, _⟩ := ((g1.below hbw) k hlt).all
      have k1 : (k : Int) < (L.length : Int) := by omega
      have k0 : (0 : Int) ≤ (k : Int) := by omega
      cases hm : isAt c r L[k] with
      | true =>
        have HM : Hid (findI L c r = (k : Int)) := (findI_at hlt HT.out hm).1
        have hm2 : L[k].ac = c ∧ L[k].ar = r := of_decide_eq_true hm
        rw [hm2.1] at x11
        rw [hm2.2] at x12
        clear hm hm2 g1
        go_wp2
        go_quiet (fail)
        go_wp2
        go_ret
        exact ⟨ret_i HM.out.symm, below_drewN hbw _⟩
      | false =>
        have HM : Hid (getL (L.take (k + 1)) c r = none) := getL_next hlt HT.out hm
        have hm2 : ¬ (L[k].ac = c ∧ L[k].ar = r) := of_decide_eq_false hm
        by_cases hf : L[k].ac = c
        · have q2 : (L[k].ar == r) = false := by
            rw [beq_eq_false_iff_ne]; intro e; exact hm2 ⟨hf, e⟩
          rw [hf] at x11
          clear hm hm2 hf g1
          go_wp2
          go_quiet (fail)
          go_wp2
          go_roundw
          case rel => exact ⟨k + 1, by omega, by go_num, HM, below_drewN hb _⟩
          case measure => simp [intOf]; omega
        · have q1 : (L[k].ac == c) = false := by rw [beq_eq_false_iff_ne]; exact hf
          clear hm hm2 hf g1
          go_wp2
          go_quiet (fail)
          go_wp2
          go_roundw
          case rel => exact ⟨k + 1, by omega, by go_num, HM, below_drewN hb _⟩
          case measure => simp [intOf]; omega
    · have hkl : k = L.length := by omega
      have HM : Hid (findI L c r = -1) := by
        have := HT.out
        rw [hkl, List.take_length] at this
        exact findI_none this
      go_wp2
      go_ret
      exact ⟨ret_i HM.out.symm, hbw⟩

/-- What Clock counts, as far as it has come. -/
theorem counts_next {L : List Ch} {k : Nat} (hk : k < L.length) : counts (L.take (k + 1)) = if 0 ≤ L[k].ar ∧ L[k].ar < 64 then (counts (L.take k)).set L[k].ar.toNat ((counts (L.take k)).getD L[k].ar.toNat 0 + 1) else counts (L.take k) := by
  have hc : ∀ r : Int, cntR (L.take (k + 1)) r = cntR (L.take k) r + if L[k].ar = r then 1 else 0 := fun r => by
    unfold cntR ofR
    rw [List.take_succ_eq_append_getElem hk, List.filter_append, List.length_append]
    by_cases h : L[k].ar = r <;> simp [h]
  apply List.ext_getElem
  · split <;> simp [counts]
  · intro i h1 h2
    have hi : i < 64 := by simpa [counts] using h1
    have e1 : (counts (L.take (k + 1)))[i] = (cntR (L.take (k + 1)) (i : Int) : Int) := by simp [counts]
    have e2 : (counts (L.take k))[i]'(by rw [counts_length]; exact hi) = (cntR (L.take k) (i : Int) : Int) := by simp [counts]
    refine e1.trans ?_
    rw [hc]
    by_cases h : 0 ≤ L[k].ar ∧ L[k].ar < 64
    · have e3 : (if 0 ≤ L[k].ar ∧ L[k].ar < 64 then (counts (L.take k)).set L[k].ar.toNat ((counts (L.take k)).getD L[k].ar.toNat 0 + 1) else counts (L.take k)) = (counts (L.take k)).set L[k].ar.toNat ((counts (L.take k)).getD L[k].ar.toNat 0 + 1) := if_pos h
      simp only [e3]
      rw [List.getElem_set]
      by_cases hr : L[k].ar.toNat = i
      · have hr2 : L[k].ar = (i : Int) := by omega
        rw [if_pos hr, if_pos hr2, counts_getD, hr, if_pos hi]
        omega
      · have hr2 : ¬ L[k].ar = (i : Int) := by omega
        rw [if_neg hr, if_neg hr2, e2]
        omega
    · have e3 : (if 0 ≤ L[k].ar ∧ L[k].ar < 64 then (counts (L.take k)).set L[k].ar.toNat ((counts (L.take k)).getD L[k].ar.toNat 0 + 1) else counts (L.take k)) = counts (L.take k) := if_neg h
      simp only [e3]
      have hr2 : ¬ L[k].ar = (i : Int) := by omega
      rw [if_neg hr2, e2]
      omega
theorem OwnI.write {B : Nat} {w : World} {g cap n : Nat} {D : List Int} (h : OwnI B w (.slice (some ⟨g, 0, none⟩) n cap) D) (hn : n = D.length) (j : Nat) (c : Int) : OwnI B (w.setCell ⟨g, j, none⟩ (.int .i64 c)) (.slice (some ⟨g, 0, none⟩) n cap) (D.set j c) := by
  subst hn
  obtain ⟨h1, h2⟩ := World.ownsRow.stored h j (.int .i64 c)
  unfold OwnI
  rw [List.length_set]
  have e : cellsI (D.set j c) = (cellsI D).set j (.int .i64 c) := by simp [cellsI, List.map_set]
  rw [e]
  exact h1
theorem OwnI.at {B : Nat} {w : World} {g cap n : Nat} {D : List Int} (h : OwnI B w (.slice (some ⟨g, 0, none⟩) n cap) D) {j : Nat} (hj : j < D.length) : w.cell? ⟨g, j, none⟩ = some (.int .i64 (D.getD j 0)) ∧ w.frozen? ⟨g, j, none⟩ = false := by
  rcases h.2 with ⟨e, hn⟩ | ⟨g', cap', cur, e, hg, hc, hcap, rest⟩
  · cases e
  · cases e
    refine ⟨?_, frozen_of_row w g j _ _ hc⟩
    have := World.ownsRow.cellAt h j (by omega)
    rw [this, getD_at hj]
    simp [cellsI, hj]

set_option maxRecDepth 100000 in
set_option maxHeartbeats 4000000 in
/-- The document's Clock. -/
theorem refClock_any (v : Value) (L : List Ch) (w : World) (h1 : IsH w v L) :
    Calls Tryz.prog 42 #[v] w fun e w' => ∃ v', e = .returned v' ∧ OwnI w.heap.size w' v' (clockL L) ∧ Below w.heap.size w w' := by
  obtain ⟨a1, c1, rfl, hc1, hl1, r1⟩ := h1
  have HR : Hid (L = [] ∨ ∃ b o, a1 = some ⟨b, o, none⟩ ∧ ChsAt w b o L) := r1
  clear r1
  obtain ⟨i0, hi, hz0, hz1, hz2⟩ := info_parts infoInt
  obtain ⟨w1, hmk, ho1, hg1⟩ := run_makeSlice_full (P := Tryz.prog) w w.heap.size 32 3 i0 (.int .i64 0) 1 Tryz.underlying32 hi hz0 hz1 .i64 .i64 64 (by omega) (by rw [hz2]; omega) (by unfold maxLen; omega) (Nat.le_refl _)
  have HO1 : Hid (OwnI w.heap.size w1 (.slice (some ⟨w.heap.size, 0, none⟩) 64 64) (counts (L.take 0))) := by
    have e : (madeCells (Value.int .i64 0).cells (64 * 1)).toList = cellsI (counts (L.take 0)) := by
      have e2 : counts (L.take 0) = List.replicate 64 0 := by simp [counts, cntR, ofR, List.map_const']
      rw [e2]
      have e3 : (madeCells (Value.int .i64 0).cells (64 * 1)).toList = List.replicate 64 (Value.int .i64 0) := toList_madeCells_one _ _
      rw [e3]
      rfl
    rw [e] at ho1
    exact ho1
  have HB1 : Hid (Below w.heap.size w w1) := (Below.refl _ _).grown hg1 (Nat.le_refl _) (fun j e => by cases e)
  replace hmk : (Instr.makeSlice 32 (.int .i64 64) (.int .i64 64)).run Tryz.prog w = .ok (.slice (some ⟨w.heap.size, 0, none⟩) 64 64) w1 := hmk
  clear ho1 hg1 hi hz0 hz1 hz2
  go_enter Tryz.func42, Tryz.ntmps42
  go_wp2
  clear hmk
  go_loopw [4] (fun i wr => ∃ k : Nat, k ≤ L.length ∧ i = .int .i64 (k : Int) ∧ Hid (OwnI w.heap.size wr (.slice (some ⟨w.heap.size, 0, none⟩) 64 64) (counts (L.take k))) ∧ Hid (Below w.heap.size w wr)) (fun i _ => L.length - (intOf i).toNat)
  case atStart => exact ⟨0, Nat.zero_le _, rfl, HO1, HB1⟩
  case round =>
    obtain ⟨k, hk, rfl, HO, HB⟩ := hrel
    by_cases hlt : k < L.length
    · obtain ⟨b1, o1, rfl, g1⟩ := HR.out.resolve_left (by intro e; subst e; simp at hlt)
      obtain ⟨_, _, _, _, _, x12, _⟩ := ((g1.below HB.out) k hlt).all
      have k1 : (k : Int) < (L.length : Int) := by omega
      have k0 : (0 : Int) ≤ (k : Int) := by omega
      have HN : Hid (counts (L.take (k + 1)) = if 0 ≤ L[k].ar ∧ L[k].ar < 64 then (counts (L.take k)).set L[k].ar.toNat ((counts (L.take k)).getD L[k].ar.toNat 0 + 1) else counts (L.take k)) := counts_next hlt
      generalize L[k].ar = r at *
      clear g1
      by_cases hr0 : 0 ≤ r
      · by_cases hr1 : r < 64
        · obtain ⟨rn, rfl⟩ := Int.eq_ofNat_of_zero_le hr0
          have hrn : rn < 64 := by omega
          obtain ⟨y1, y2⟩ := HO.out.at (j := rn) (by rw [counts_length]; exact hrn)
          have HC : Hid (OwnI w.heap.size (wr.setCell ⟨w.heap.size, rn, none⟩ (.int .i64 ((counts (L.take k)).getD rn 0 + 1))) (.slice (some ⟨w.heap.size, 0, none⟩) 64 64) (counts (L.take (k + 1)))) := by
            have := HO.out.write (by rw [counts_length]) rn ((counts (L.take k)).getD rn 0 + 1)
            rw [HN.out, if_pos ⟨hr0, hr1⟩]
            exact this
          have hcn : 0 ≤ (counts (L.take k)).getD rn 0 ∧ (counts (L.take k)).getD rn 0 ≤ 281474976710656 := by
            rw [counts_getD, if_pos hrn]
            have : cntR (L.take k) (rn : Int) ≤ (L.take k).length := List.length_filter_le _ _
            rw [List.length_take] at this
            omega
          have HB2 : Hid (Below w.heap.size w (wr.setCell ⟨w.heap.size, rn, none⟩ (.int .i64 ((counts (L.take k)).getD rn 0 + 1)))) := HB.out.setCell (p := ⟨w.heap.size, rn, none⟩) (Nat.le_refl _) _
          generalize (counts (L.take k)).getD rn 0 = cn at *
          clear HO HB HN
          go_wp2
          go_roundw
          case rel => exact ⟨k + 1, by omega, by go_num, HC, HB2⟩
          case measure => simp [intOf]; omega
        · have HC : Hid (counts (L.take (k + 1)) = counts (L.take k)) := by
            have := HN.out
            rw [if_neg (by omega)] at this
            exact this
          clear HN
          go_wp2
          go_roundw
          case rel => exact ⟨k + 1, by omega, by go_num, by rw [HC.out]; exact HO, HB⟩
          case measure => simp [intOf]; omega
      · have HC : Hid (counts (L.take (k + 1)) = counts (L.take k)) := by
          have := HN.out
          rw [if_neg (by omega)] at this
          exact this
        clear HN
        go_wp2
        go_roundw
        case rel => exact ⟨k + 1, by omega, by go_num, by rw [HC.out]; exact HO, HB⟩
        case measure => simp [intOf]; omega
    · have hkl : k = L.length := by omega
      have HO2 : Hid (OwnI w.heap.size wr (.slice (some ⟨w.heap.size, 0, none⟩) 64 64) (counts L)) := by
        have := HO.out
        rw [hkl, List.take_length] at this
        exact this
      have HI : Hid (IsI wr (.slice (some ⟨w.heap.size, 0, none⟩) 64 64) (counts L)) := HO2.out.isI (by rw [counts_length]; omega)
      have hszr := HB.out.size
      clear HO
      go_wp2_with ((go_at_call 63; refine (refTrim_any _ _ _ HI.out).mono ?_; rintro e w' ⟨v', rfl, ho, hb⟩; have HO3 : Hid (OwnI w.heap.size w' v' (clockL L)) := OwnI.low ho hszr; have HB3 : Hid (Below w.heap.size w w') := HB.out.trans (hb.mono hszr); clear ho hb))
      go_ret
      exact ⟨_, rfl, HO3.out, HB3.out⟩

end Go.Proofs.YtckipepodohnpaaGreat

namespace Go.Proofs.YtckipepodohnpaaGreat
open Go.RowKit
set_option linter.unusedVariables false
set_option linter.unusedSimpArgs false

/-- The place of a replica's change by its number. -/
def ownP (L : List Ch) (r s : Int) : Int := match L.findIdx? (isOwn r s) with | some k => (k : Int) | none => -1
theorem ownP_none {L : List Ch} {a r : Int} (h : ownC L a r = none) : ownP L a r = -1 := by
  have : L.findIdx? (isOwn a r) = none := by rw [List.findIdx?_eq_none_iff]; intro x hx; have := (List.find?_eq_none.1 h) x hx; simpa using this
  simp [ownP, this]
theorem ownP_at {L : List Ch} {a r : Int} {k : Nat} (hk : k < L.length) (h : ownC (L.take k) a r = none) (he : isOwn a r L[k] = true) : ownP L a r = k ∧ ownC L a r = some L[k] := by
  have h1 : ∀ x ∈ L.take k, ¬ isOwn a r x = true := List.find?_eq_none.1 h
  have h2 : L.findIdx? (isOwn a r) = some k := by
    rw [List.findIdx?_eq_some_iff_getElem]
    refine ⟨hk, he, fun j hj => ?_⟩
    exact h1 _ (by rw [List.mem_take_iff_getElem]; exact ⟨j, by omega, rfl⟩)
  refine ⟨by simp [ownP, h2], ?_⟩
  unfold ownC
  rw [List.find?_eq_some_iff_getElem]
  refine ⟨he, k, hk, rfl, fun j hj => ?_⟩
  have := h1 (L[j]) (by rw [List.mem_take_iff_getElem]; exact ⟨j, by omega, rfl⟩)
  simpa using this
theorem ownC_next {L : List Ch} {a r : Int} {k : Nat} (hk : k < L.length) (h : ownC (L.take k) a r = none) (he : isOwn a r L[k] = false) : ownC (L.take (k + 1)) a r = none := by
  unfold ownC at h ⊢
  rw [List.take_succ_eq_append_getElem hk, List.find?_append, h]
  simp [he]
theorem ownP_or (L : List Ch) (a r : Int) : (ownP L a r = -1 ∧ ownC L a r = none) ∨ ∃ (k : Nat) (h : k < L.length), ownP L a r = k ∧ ownC L a r = some L[k] := by
  cases hf : ownC L a r with
  | none => exact .inl ⟨ownP_none hf, rfl⟩
  | some c =>
    refine .inr ?_
    obtain ⟨h1, k, hk, h2, h3⟩ := List.find?_eq_some_iff_getElem.1 hf
    subst h2
    have h4 : ownC (L.take k) a r = none := by
      unfold ownC
      rw [List.find?_eq_none]
      intro x hx
      rw [List.mem_take_iff_getElem] at hx
      obtain ⟨j, hj, rfl⟩ := hx
      have := h3 j (by omega)
      simpa using this
    exact ⟨k, hk, (ownP_at hk h4 h1).1, rfl⟩

set_option maxHeartbeats 2000000 in
/-- The document's Own. -/
theorem refOwn_any (v : Value) (L : List Ch) (r s : Int) (w : World) (h1 : IsH w v L) :
    Calls Tryz.prog 20 #[v, .int .i64 r, .int .i64 s] w fun e w' => e = .returned (.int .i64 (ownP L r s)) ∧ Below w.heap.size w w' := by
  obtain ⟨a1, c1, rfl, hc1, hl1, r1⟩ := h1
  have HR : Hid (L = [] ∨ ∃ b o, a1 = some ⟨b, o, none⟩ ∧ ChsAt w b o L) := r1
  clear r1
  go_enter Tryz.func20, Tryz.ntmps20
  go_wp2
  go_loopw [7] (fun i wr => ∃ k : Nat, k ≤ L.length ∧ i = .int .i64 (k : Int) ∧ Hid (ownC (L.take k) r s = none) ∧ Below w.heap.size w wr) (fun i _ => L.length - (intOf i).toNat)
  case atStart => exact ⟨0, Nat.zero_le _, rfl, (rfl : ownC (L.take 0) r s = none), Below.refl _ _⟩
  case round =>
    obtain ⟨k, hk, rfl, HT, hb⟩ := hrel
    by_cases hlt : k < L.length
    · obtain ⟨b1, o1, rfl, g1⟩ := HR.out.resolve_left (by intro e; subst e; simp at hlt)
      obtain ⟨_, _, _, _, _, x12, x13, _⟩ := ((g1.below hb) k hlt).all
      have k1 : (k : Int) < (L.length : Int) := by omega
      have k0 : (0 : Int) ≤ (k : Int) := by omega
      cases hm : isOwn r s L[k] with
      | true =>
        have HM : Hid (ownP L r s = (k : Int)) := (ownP_at hlt HT.out hm).1
        have hm2 : L[k].ar = r ∧ L[k].seq = s := of_decide_eq_true hm
        rw [hm2.1] at x12
        rw [hm2.2] at x13
        clear hm hm2 g1
        go_wp2
        go_ret
        exact ⟨ret_i HM.out.symm, hb⟩
      | false =>
        have HM : Hid (ownC (L.take (k + 1)) r s = none) := ownC_next hlt HT.out hm
        have hm2 : ¬ (L[k].ar = r ∧ L[k].seq = s) := of_decide_eq_false hm
        by_cases hf : L[k].ar = r
        · have q2 : (L[k].seq == s) = false := by
            rw [beq_eq_false_iff_ne]; intro e; exact hm2 ⟨hf, e⟩
          rw [hf] at x12
          clear hm hm2 hf g1
          go_wp2
          go_roundw
          case rel => exact ⟨k + 1, by omega, by go_num, HM, hb⟩
          case measure => simp [intOf]; omega
        · have q1 : (L[k].ar == r) = false := by rw [beq_eq_false_iff_ne]; exact hf
          clear hm hm2 hf g1
          go_wp2
          go_roundw
          case rel => exact ⟨k + 1, by omega, by go_num, HM, hb⟩
          case measure => simp [intOf]; omega
    · have hkl : k = L.length := by omega
      have HM : Hid (ownP L r s = -1) := by
        have := HT.out
        rw [hkl, List.take_length] at this
        exact ownP_none this
      go_wp2
      go_ret
      exact ⟨ret_i HM.out.symm, hb⟩

set_option maxRecDepth 100000 in
set_option maxHeartbeats 2000000 in
/-- The document's Within. -/
theorem refWithin_any (ac ar sq : Int) (dv : Value) (kd nc nr pc pr fc fr : Int) (nm vl : ByteArray) (ds : List Int) (kv : Value) (kn : List Int) (w : World) (h : IsI w kv kn) :
    Calls Tryz.prog 48 #[.agg #[.int .i64 ac, .int .i64 ar, .int .i64 sq, dv, .int .i64 kd, .int .i64 nc, .int .i64 nr, .int .i64 pc, .int .i64 pr, .int .i64 fc, .int .i64 fr, .string nm, .string vl], kv] w fun e w' => e = .returned (.bool (withinB ⟨ac, ar, sq, ds, kd, nc, nr, pc, pr, fc, fr, nm, vl⟩ kn)) ∧ Below w.heap.size w w' := by
  have K0 := KeptC.start w #[.int .i64 ac, .int .i64 ar, .int .i64 sq, dv, .int .i64 kd, .int .i64 nc, .int .i64 nr, .int .i64 pc, .int .i64 pr, .int .i64 fc, .int .i64 fr, .string nm, .string vl].toList 34
  have HA : Hid (∀ W', Below w.heap.size w W' → Calls Tryz.prog 51 #[kv, .int .i64 ar] W' fun e w' => e = .returned (.int .i64 (atL kn ar)) ∧ w' = W') := fun W' hb => refAt_any kv kn ar W' (h.below hb)
  have HB : Hid (Below w.heap.size w (w.alloc (.cells #[.int .i64 ac, .int .i64 ar, .int .i64 sq, dv, .int .i64 kd, .int .i64 nc, .int .i64 nr, .int .i64 pc, .int .i64 pr, .int .i64 fc, .int .i64 fr, .string nm, .string vl] 34))) := K0.2.2
  have HW : Hid (withinB ⟨ac, ar, sq, ds, kd, nc, nr, pc, pr, fc, fr, nm, vl⟩ kn = decide (sq ≤ atL kn ar)) := rfl
  obtain ⟨a0, c0, e0⟩ := h.form
  subst e0
  clear h K0
  generalize atL kn ar = n0 at *
  go_enter Tryz.func48, Tryz.ntmps48
  go_wp2
  go_quiet ((go_at_call 51; exact Calls.quiet_of_same (HA.out _ (below_drewN HB.out _))))
  go_wp2
  go_ret
  exact ⟨ret_bool (by rw [HW.out]), below_drewN HB.out _⟩

theorem foldl_next {L : List Ch} {k : Nat} (hk : k < L.length) : (L.take (k + 1)).foldl (fun m c => max m c.ac) (0 : Int) = max ((L.take k).foldl (fun m c => max m c.ac) 0) L[k].ac := by
  rw [List.take_succ_eq_append_getElem hk, List.foldl_append]; rfl

set_option maxHeartbeats 2000000 in
/-- The document's Last. -/
theorem refLast_any (v : Value) (L : List Ch) (w : World) (h1 : IsH w v L) :
    Calls Tryz.prog 40 #[v] w fun e w' => e = .returned (.int .i64 (L.foldl (fun m c => max m c.ac) 0)) ∧ Below w.heap.size w w' := by
  obtain ⟨a1, c1, rfl, hc1, hl1, r1⟩ := h1
  have HR : Hid (L = [] ∨ ∃ b o, a1 = some ⟨b, o, none⟩ ∧ ChsAt w b o L) := r1
  clear r1
  go_enter Tryz.func40, Tryz.ntmps40
  go_wp2
  go_loopw [3, 4] (fun n i wr => ∃ k : Nat, k ≤ L.length ∧ i = .int .i64 (k : Int) ∧ n = .int .i64 ((L.take k).foldl (fun m c => max m c.ac) 0) ∧ Below w.heap.size w wr) (fun _ i _ => L.length - (intOf i).toNat)
  case atStart => exact ⟨0, Nat.zero_le _, rfl, rfl, Below.refl _ _⟩
  case round =>
    obtain ⟨k, hk, rfl, rfl, hb⟩ := hrel
    by_cases hlt : k < L.length
    · obtain ⟨b1, o1, rfl, g1⟩ := HR.out.resolve_left (by intro e; subst e; simp at hlt)
      obtain ⟨_, _, _, _, x11, _⟩ := ((g1.below hb) k hlt).all
      have k1 : (k : Int) < (L.length : Int) := by omega
      have k0 : (0 : Int) ≤ (k : Int) := by omega
      have HN : Hid ((L.take (k + 1)).foldl (fun m c => max m c.ac) (0 : Int) = max ((L.take k).foldl (fun m c => max m c.ac) 0) L[k].ac) := foldl_next hlt
      generalize (L.take k).foldl (fun m c => max m c.ac) 0 = m0 at *
      generalize L[k].ac = q0 at *
      clear g1
      go_wp2
      go_roundw
      case rel => exact ⟨k + 1, by omega, by go_num, by rw [HN.out], hb⟩
      case measure => simp [intOf]; omega
    · have hkl : k = L.length := by omega
      subst hkl
      rw [List.take_length]
      go_wp2
      go_ret
      exact ⟨rfl, hb⟩

end Go.Proofs.YtckipepodohnpaaGreat

namespace Go.Proofs.YtckipepodohnpaaGreat
open Go.RowKit
set_option linter.unusedVariables false
set_option linter.unusedSimpArgs false

set_option maxRecDepth 100000 in
set_option maxHeartbeats 8000000 in
theorem refBehind_any (v : Value) (L : List Ch) (ac ar sq : Int) (dv : Value) (kd nc nr pc pr fc fr : Int) (nm vl : ByteArray) (ds : List Int) (w : World) (h1 : IsH w v L) (hd : IsI w dv ds) :
    Calls Tryz.prog 53 #[v, .agg #[.int .i64 ac, .int .i64 ar, .int .i64 sq, dv, .int .i64 kd, .int .i64 nc, .int .i64 nr, .int .i64 pc, .int .i64 pr, .int .i64 fc, .int .i64 fr, .string nm, .string vl]] w fun e w' => e = .returned (.bool (behindR L (⟨ac, ar, sq, ds, kd, nc, nr, pc, pr, fc, fr, nm, vl⟩ : Ch))) ∧ Below w.heap.size w w' := by
  have HH : Hid (IsH w v L) := h1
  obtain ⟨a1, c1, rfl, hc1, hl1, r1⟩ := h1
  have HR : Hid (L = [] ∨ ∃ b o, a1 = some ⟨b, o, none⟩ ∧ ChsAt w b o L) := r1
  have HIc : Hid (IsI w dv ds) := hd
  obtain ⟨a0, c0, rfl, hc0, hl0, g0⟩ := hd
  have HG : Hid (ds = [] ∨ ∃ b o, a0 = some ⟨b, o, none⟩ ∧ IntsAt w b o ds) := g0
  have K0 := KeptC.start w [.int .i64 ac, .int .i64 ar, .int .i64 sq, .slice a0 ds.length c0, .int .i64 kd, .int .i64 nc, .int .i64 nr, .int .i64 pc, .int .i64 pr, .int .i64 fc, .int .i64 fr, .string nm, .string vl] 34
  obtain ⟨W0, eW⟩ : ∃ X, X = w.alloc (.cells #[.int .i64 ac, .int .i64 ar, .int .i64 sq, .slice a0 ds.length c0, .int .i64 kd, .int .i64 nc, .int .i64 nr, .int .i64 pc, .int .i64 pr, .int .i64 fc, .int .i64 fr, .string nm, .string vl] 34) := ⟨_, rfl⟩
  have HK : Hid (KeptC w w.heap.size [.int .i64 ac, .int .i64 ar, .int .i64 sq, .slice a0 ds.length c0, .int .i64 kd, .int .i64 nc, .int .i64 nr, .int .i64 pc, .int .i64 pr, .int .i64 fc, .int .i64 fr, .string nm, .string vl] W0) := by rw [eW]; exact K0
  have HE : Hid (behindR L (⟨ac, ar, sq, ds, kd, nc, nr, pc, pr, fc, fr, nm, vl⟩ : Ch) = ((List.range ds.length).all (depsR L (⟨ac, ar, sq, ds, kd, nc, nr, pc, pr, fc, fr, nm, vl⟩ : Ch)) && (namesL (⟨ac, ar, sq, ds, kd, nc, nr, pc, pr, fc, fr, nm, vl⟩ : Ch)).all (namsR L (⟨ac, ar, sq, ds, kd, nc, nr, pc, pr, fc, fr, nm, vl⟩ : Ch)))) := rfl
  clear K0 r1 g0
  go_enter Tryz.func53, Tryz.ntmps53
  go_wp2
  rw [← eW]
  clear eW
  go_loopw [5] (fun iv wr => ∃ k : Nat, k ≤ ds.length ∧ iv = .int .i64 (k : Int) ∧ Hid ((List.range k).all (depsR L (⟨ac, ar, sq, ds, kd, nc, nr, pc, pr, fc, fr, nm, vl⟩ : Ch)) = true) ∧ Hid (KeptC w w.heap.size [.int .i64 ac, .int .i64 ar, .int .i64 sq, .slice a0 ds.length c0, .int .i64 kd, .int .i64 nc, .int .i64 nr, .int .i64 pc, .int .i64 pr, .int .i64 fc, .int .i64 fr, .string nm, .string vl] wr)) (fun iv _ => ds.length - (intOf iv).toNat)
  case atStart => exact ⟨0, Nat.zero_le _, rfl, rfl, HK⟩
  case round =>
    obtain ⟨k, hk, rfl, HT, HK2⟩ := hrel
    obtain ⟨k_0, k_1, k_2, k_3, k_4, k_5, k_6, k_7, k_8, k_9, k_10, k_11, k_12⟩ := HK2.out.all
    by_cases hlt : k < ds.length
    · obtain ⟨b, o, rfl, g⟩ := HG.out.resolve_left (by intro e; subst e; simp at hlt)
      have x1 := (g.below HK2.out.2.2) k hlt
      rw [← getD_at hlt] at x1
      clear g
      have HN1 : Hid (depsR L (⟨ac, ar, sq, ds, kd, nc, nr, pc, pr, fc, fr, nm, vl⟩ : Ch) k = true → (List.range (k + 1)).all (depsR L (⟨ac, ar, sq, ds, kd, nc, nr, pc, pr, fc, fr, nm, vl⟩ : Ch)) = true) := fun hx => all_succ HT.out hx
      have HN2 : Hid (depsR L (⟨ac, ar, sq, ds, kd, nc, nr, pc, pr, fc, fr, nm, vl⟩ : Ch) k = false → behindR L (⟨ac, ar, sq, ds, kd, nc, nr, pc, pr, fc, fr, nm, vl⟩ : Ch) = false) := fun hx => by rw [HE.out, all_not hlt hx]; rfl
      have HP0 : Hid (depsR L (⟨ac, ar, sq, ds, kd, nc, nr, pc, pr, fc, fr, nm, vl⟩ : Ch) k = (decide (ds.getD k 0 = 0) || (match ownC L k (ds.getD k 0) with | none => false | some d => ltB d (⟨ac, ar, sq, ds, kd, nc, nr, pc, pr, fc, fr, nm, vl⟩ : Ch)))) := rfl
      generalize ds.getD k 0 = n0 at *
      have k1 : (k : Int) < (ds.length : Int) := by omega
      have k0 : (0 : Int) ≤ (k : Int) := by omega
      by_cases hn : n0 = 0
      · subst hn
        have HN3 : Hid ((List.range (k + 1)).all (depsR L (⟨ac, ar, sq, ds, kd, nc, nr, pc, pr, fc, fr, nm, vl⟩ : Ch)) = true) := HN1.out (by rw [HP0.out]; rfl)
        clear HP0 HN1 HN2
        go_wp2
        go_roundw
        case rel => exact ⟨k + 1, by omega, by first | rfl | go_num, HN3, HK2⟩
        case measure => simp [intOf]; omega
      · have hn2 : (n0 == 0) = false := by rw [beq_eq_false_iff_ne]; exact hn
        have HP1 : Hid (depsR L (⟨ac, ar, sq, ds, kd, nc, nr, pc, pr, fc, fr, nm, vl⟩ : Ch) k = (match ownC L k n0 with | none => false | some d => ltB d (⟨ac, ar, sq, ds, kd, nc, nr, pc, pr, fc, fr, nm, vl⟩ : Ch))) := by
          show _ = _
          rw [HP0.out, decide_eq_false hn]; rfl
        clear HP0 hn
        go_wp2_with fail
        refine (refOwn_any _ L (k : Int) n0 _ (HH.out.below HK2.out.2.2)).mono ?_
        rintro e W1 ⟨rfl, hb1⟩
        replace HK2 : Hid (KeptC w w.heap.size [.int .i64 ac, .int .i64 ar, .int .i64 sq, .slice (some ⟨b, o, none⟩) ds.length c0, .int .i64 kd, .int .i64 nc, .int .i64 nr, .int .i64 pc, .int .i64 pr, .int .i64 fc, .int .i64 fr, .string nm, .string vl] W1) := HK2.out.step hb1
        clear x1 k_0 k_1 k_2 k_3 k_4 k_5 k_6 k_7 k_8 k_9 k_10 k_11 k_12 hb1
        rcases ownP_or L (k : Int) n0 with ⟨e1, e2⟩ | ⟨j, hj, e1, e2⟩
        · rw [e1]
          have HF : Hid (depsR L (⟨ac, ar, sq, ds, kd, nc, nr, pc, pr, fc, fr, nm, vl⟩ : Ch) k = false) := by
            show _ = _
            rw [HP1.out, e2]
          clear e1 e2 HP1 HN1
          go_upto_region 6 with fail
          refine wp_region_held_drew (S := fun W' => KeptC w w.heap.size [.int .i64 ac, .int .i64 ar, .int .i64 sq, .slice (some ⟨b, o, none⟩) ds.length c0, .int .i64 kd, .int .i64 nc, .int .i64 nr, .int .i64 pc, .int .i64 pr, .int .i64 fc, .int .i64 fr, .string nm, .string vl] W') (by kernel_rfl) HK2.out.drew (fun hHeld => ?_)
          obtain ⟨Ua3u0, eW⟩ : ∃ X, X = W1.drew := ⟨_, rfl⟩
          have hb : Below W1.heap.size W1 Ua3u0 := by rw [eW]; exact (Below.refl _ _).drew
          rw [← eW] at hHeld ⊢
          clear eW hb
          refine wpAnyH_take (i := 0) (oi := ⟨some 31, _, _, _, _, _⟩) (v := ?va3ux0) rfl (by kernel_rfl) (by kernel_rfl) (by kernel_rfl) (fun _ _ _ h => h) (Or.inl ⟨by rfl, ?hya3ux0⟩) hHeld ?resta3ux0
          case hya3ux0 => (intro w _; go_simp; try with_reducible rfl)
          simp only [Act.put, List.setIfInBounds_toArray, List.set_cons_zero, List.set_cons_succ]
          refine wpAnyH_take (i := 1) (oi := ⟨some 32, _, _, _, _, _⟩) (v := ?va3ux1) rfl (by kernel_rfl) (by kernel_rfl) (by kernel_rfl) (fun _ _ _ h => h) (Or.inl ⟨by rfl, ?hya3ux1⟩) hHeld ?resta3ux1
          case hya3ux1 => (intro w hSw; (try dsimp only at hSw); have hk := hSw; obtain ⟨k_0, k_1, k_2, k_3, k_4, k_5, k_6, k_7, k_8, k_9, k_10, k_11, k_12⟩ := hk.all; go_simp; try with_reducible rfl)
          simp only [Act.put, List.setIfInBounds_toArray, List.set_cons_zero, List.set_cons_succ]
          refine wpAnyH_take (i := 2) (oi := ⟨some 33, _, _, _, _, _⟩) (v := ?va3ux2) rfl (by kernel_rfl) (by kernel_rfl) (by kernel_rfl) (fun _ _ _ h => h) (Or.inl ⟨by rfl, ?hya3ux2⟩) hHeld ?resta3ux2
          case hya3ux2 => (intro w _; go_simp; try with_reducible rfl)
          simp only [Act.put, List.setIfInBounds_toArray, List.set_cons_zero, List.set_cons_succ]
          refine wpAnyH_take (i := 3) (oi := ⟨some 34, _, _, _, _, _⟩) (v := undef) rfl (by kernel_rfl) (by kernel_rfl) (by kernel_rfl) (fun _ _ _ h => h) (Or.inr ⟨by rfl, rfl⟩) hHeld ?_
          simp only [Act.put, List.setIfInBounds_toArray, List.set_cons_zero, List.set_cons_succ]
          refine wpAnyH_take (i := 4) (oi := ⟨some 35, _, _, _, _, _⟩) (v := undef) rfl (by kernel_rfl) (by kernel_rfl) (by kernel_rfl) (fun _ _ _ h => h) (Or.inr ⟨by rfl, rfl⟩) hHeld ?_
          simp only [Act.put, List.setIfInBounds_toArray, List.set_cons_zero, List.set_cons_succ]
          refine wpAnyH_take (i := 5) (oi := ⟨some 36, _, _, _, _, _⟩) (v := undef) rfl (by kernel_rfl) (by kernel_rfl) (by kernel_rfl) (fun _ _ _ h => h) (Or.inr ⟨by rfl, rfl⟩) hHeld ?_
          simp only [Act.put, List.setIfInBounds_toArray, List.set_cons_zero, List.set_cons_succ]
          refine wpAnyH_take (i := 6) (oi := ⟨some 37, _, _, _, _, _⟩) (v := undef) rfl (by kernel_rfl) (by kernel_rfl) (by kernel_rfl) (fun _ _ _ h => h) (Or.inr ⟨by rfl, rfl⟩) hHeld ?_
          simp only [Act.put, List.setIfInBounds_toArray, List.set_cons_zero, List.set_cons_succ]
          refine wpAnyH_take (i := 7) (oi := ⟨some 38, _, _, _, _, _⟩) (v := undef) rfl (by kernel_rfl) (by kernel_rfl) (by kernel_rfl) (fun _ _ _ h => h) (Or.inr ⟨by rfl, rfl⟩) hHeld ?_
          simp only [Act.put, List.setIfInBounds_toArray, List.set_cons_zero, List.set_cons_succ]
          refine wpAnyH_take (i := 8) (oi := ⟨some 39, _, _, _, _, _⟩) (v := undef) rfl (by kernel_rfl) (by kernel_rfl) (by kernel_rfl) (fun _ _ _ h => h) (Or.inr ⟨by rfl, rfl⟩) hHeld ?_
          simp only [Act.put, List.setIfInBounds_toArray, List.set_cons_zero, List.set_cons_succ]
          refine wpAnyH_take (i := 9) (oi := ⟨some 40, _, _, _, _, _⟩) (v := undef) rfl (by kernel_rfl) (by kernel_rfl) (by kernel_rfl) (fun _ _ _ h => h) (Or.inr ⟨by rfl, rfl⟩) hHeld ?_
          simp only [Act.put, List.setIfInBounds_toArray, List.set_cons_zero, List.set_cons_succ]
          refine wpAnyH_take (i := 10) (oi := ⟨some 41, _, _, _, _, _⟩) (v := undef) rfl (by kernel_rfl) (by kernel_rfl) (by kernel_rfl) (fun _ _ _ h => h) (Or.inr ⟨by rfl, rfl⟩) hHeld ?_
          simp only [Act.put, List.setIfInBounds_toArray, List.set_cons_zero, List.set_cons_succ]
          refine wpAnyH_take (i := 11) (oi := ⟨some 42, _, _, _, _, _⟩) (v := undef) rfl (by kernel_rfl) (by kernel_rfl) (by kernel_rfl) (fun _ _ _ h => h) (Or.inr ⟨by rfl, rfl⟩) hHeld ?_
          simp only [Act.put, List.setIfInBounds_toArray, List.set_cons_zero, List.set_cons_succ]
          refine wpAnyH_take (i := 12) (oi := ⟨some 43, _, _, _, _, _⟩) (v := ?va3ux12) rfl (by kernel_rfl) (by kernel_rfl) (by kernel_rfl) (fun _ _ _ h => h) (Or.inl ⟨by rfl, ?hya3ux12⟩) hHeld ?resta3ux12
          case hya3ux12 => (intro w _; go_simp; try with_reducible rfl)
          simp only [Act.put, List.setIfInBounds_toArray, List.set_cons_zero, List.set_cons_succ]
          refine wpAnyH_done (by kernel_rfl) ?_ _
          have HK3 : Hid (KeptC w w.heap.size [.int .i64 ac, .int .i64 ar, .int .i64 sq, .slice (some ⟨b, o, none⟩) ds.length c0, .int .i64 kd, .int .i64 nc, .int .i64 nr, .int .i64 pc, .int .i64 pr, .int .i64 fc, .int .i64 fr, .string nm, .string vl] Ua3u0) := hHeld
          clear hHeld
          go_wp2
          go_ret
          exact ⟨ret_bool (HN2.out HF.out).symm, HK3.out.2.2⟩
        · rw [e1]
          obtain ⟨b1, o1, rfl, g1⟩ := HR.out.resolve_left (by intro e; subst e; simp at hj)
          obtain ⟨le, hle⟩ : ∃ x, x = lessS L[j].ac L[j].ar ac ar := ⟨_, rfl⟩
          have HLE : Hid (depsR L (⟨ac, ar, sq, ds, kd, nc, nr, pc, pr, fc, fr, nm, vl⟩ : Ch) k = le) := by
            show _ = _
            rw [HP1.out, e2, hle]; rfl
          have hp : ∀ W', Below w.heap.size w W' → W'.cell? ⟨b1, o1 + j * 13, none⟩ = some (.int .i64 L[j].ac) ∧ W'.cell? ⟨b1, o1 + j * 13 + 1, none⟩ = some (.int .i64 L[j].ar) := fun W' hb => by
            obtain ⟨_, _, _, _, z0, z1, _⟩ := ((g1.below hb) j hj).all
            exact ⟨z0, z1⟩
          generalize L[j].ac = pa at *
          generalize L[j].ar = pq at *
          have HLq : Hid (le = lessS pa pq ac ar) := hle
          have HP : Hid (∀ W', Below w.heap.size w W' → W'.cell? ⟨b1, o1 + j * 13, none⟩ = some (.int .i64 pa) ∧ W'.cell? ⟨b1, o1 + j * 13 + 1, none⟩ = some (.int .i64 pq)) := hp
          have j1 : (j : Int) < (L.length : Int) := by omega
          have j0 : (0 : Int) ≤ (j : Int) := by omega
          have j2 : decide ((j : Int) < 0) = false := decide_eq_false (by omega)
          clear e1 e2 HP1 hle hp g1
          go_upto_region 6 with fail
          refine wp_region_held_drew (S := fun W' => KeptC w w.heap.size [.int .i64 ac, .int .i64 ar, .int .i64 sq, .slice (some ⟨b, o, none⟩) ds.length c0, .int .i64 kd, .int .i64 nc, .int .i64 nr, .int .i64 pc, .int .i64 pr, .int .i64 fc, .int .i64 fr, .string nm, .string vl] W') (by kernel_rfl) HK2.out.drew (fun hHeld => ?_)
          obtain ⟨Ub4u0, eW⟩ : ∃ X, X = W1.drew := ⟨_, rfl⟩
          have hb : Below W1.heap.size W1 Ub4u0 := by rw [eW]; exact (Below.refl _ _).drew
          rw [← eW] at hHeld ⊢
          clear eW hb
          refine wpAnyH_take (i := 0) (oi := ⟨some 31, _, _, _, _, _⟩) (v := ?vb4ux0) rfl (by kernel_rfl) (by kernel_rfl) (by kernel_rfl) (fun _ _ _ h => h) (Or.inl ⟨by rfl, ?hyb4ux0⟩) hHeld ?restb4ux0
          case hyb4ux0 => (intro w _; go_simp; try with_reducible rfl)
          simp only [Act.put, List.setIfInBounds_toArray, List.set_cons_zero, List.set_cons_succ]
          refine wpAnyH_take (i := 1) (oi := ⟨some 32, _, _, _, _, _⟩) (v := ?vb4ux1) rfl (by kernel_rfl) (by kernel_rfl) (by kernel_rfl) (fun _ _ _ h => h) (Or.inl ⟨by rfl, ?hyb4ux1⟩) hHeld ?restb4ux1
          case hyb4ux1 => (intro w hSw; (try dsimp only at hSw); have hk := hSw; obtain ⟨k_0, k_1, k_2, k_3, k_4, k_5, k_6, k_7, k_8, k_9, k_10, k_11, k_12⟩ := hk.all; obtain ⟨p_1, p_2⟩ := HP.out _ hk.2.2; go_simp; try with_reducible rfl)
          simp only [Act.put, List.setIfInBounds_toArray, List.set_cons_zero, List.set_cons_succ]
          refine wpAnyH_take (i := 2) (oi := ⟨some 33, _, _, _, _, _⟩) (v := ?vb4ux2) rfl (by kernel_rfl) (by kernel_rfl) (by kernel_rfl) (fun _ _ _ h => h) (Or.inl ⟨by rfl, ?hyb4ux2⟩) hHeld ?restb4ux2
          case hyb4ux2 => (intro w _; go_simp; try with_reducible rfl)
          simp only [Act.put, List.setIfInBounds_toArray, List.set_cons_zero, List.set_cons_succ]
          refine wpAnyH_take (i := 3) (oi := ⟨some 34, _, _, _, _, _⟩) (v := ?vb4ux3) rfl (by kernel_rfl) (by kernel_rfl) (by kernel_rfl) (fun _ _ _ h => h) (Or.inl ⟨by rfl, ?hyb4ux3⟩) hHeld ?restb4ux3
          case hyb4ux3 => (intro w _; go_simp; try with_reducible rfl)
          simp only [Act.put, List.setIfInBounds_toArray, List.set_cons_zero, List.set_cons_succ]
          refine wpAnyH_take (i := 4) (oi := ⟨some 35, _, _, _, _, _⟩) (v := ?vb4ux4) rfl (by kernel_rfl) (by kernel_rfl) (by kernel_rfl) (fun _ _ _ h => h) (Or.inl ⟨by rfl, ?hyb4ux4⟩) hHeld ?restb4ux4
          case hyb4ux4 => (intro w _; go_simp; try with_reducible rfl)
          simp only [Act.put, List.setIfInBounds_toArray, List.set_cons_zero, List.set_cons_succ]
          refine wpAnyH_take (i := 5) (oi := ⟨some 36, _, _, _, _, _⟩) (v := ?vb4ux5) rfl (by kernel_rfl) (by kernel_rfl) (by kernel_rfl) (fun _ _ _ h => h) (Or.inl ⟨by rfl, ?hyb4ux5⟩) hHeld ?restb4ux5
          case hyb4ux5 => (intro w hSw; (try dsimp only at hSw); have hk := hSw; obtain ⟨k_0, k_1, k_2, k_3, k_4, k_5, k_6, k_7, k_8, k_9, k_10, k_11, k_12⟩ := hk.all; obtain ⟨p_1, p_2⟩ := HP.out _ hk.2.2; go_simp; try with_reducible rfl)
          simp only [Act.put, List.setIfInBounds_toArray, List.set_cons_zero, List.set_cons_succ]
          refine wpAnyH_take (i := 6) (oi := ⟨some 37, _, _, _, _, _⟩) (v := ?vb4ux6) rfl (by kernel_rfl) (by kernel_rfl) (by kernel_rfl) (fun _ _ _ h => h) (Or.inl ⟨by rfl, ?hyb4ux6⟩) hHeld ?restb4ux6
          case hyb4ux6 => (intro w _; go_simp; try with_reducible rfl)
          simp only [Act.put, List.setIfInBounds_toArray, List.set_cons_zero, List.set_cons_succ]
          refine wpAnyH_take (i := 7) (oi := ⟨some 38, _, _, _, _, _⟩) (v := ?vb4ux7) rfl (by kernel_rfl) (by kernel_rfl) (by kernel_rfl) (fun _ _ _ h => h) (Or.inl ⟨by rfl, ?hyb4ux7⟩) hHeld ?restb4ux7
          case hyb4ux7 => (intro w hSw; (try dsimp only at hSw); have hk := hSw; obtain ⟨k_0, k_1, k_2, k_3, k_4, k_5, k_6, k_7, k_8, k_9, k_10, k_11, k_12⟩ := hk.all; obtain ⟨p_1, p_2⟩ := HP.out _ hk.2.2; go_simp; try with_reducible rfl)
          simp only [Act.put, List.setIfInBounds_toArray, List.set_cons_zero, List.set_cons_succ]
          refine wpAnyH_take (i := 8) (oi := ⟨some 39, _, _, _, _, _⟩) (v := ?vb4ux8) rfl (by kernel_rfl) (by kernel_rfl) (by kernel_rfl) (fun _ _ _ h => h) (Or.inl ⟨by rfl, ?hyb4ux8⟩) hHeld ?restb4ux8
          case hyb4ux8 => (intro w _; go_simp; try with_reducible rfl)
          simp only [Act.put, List.setIfInBounds_toArray, List.set_cons_zero, List.set_cons_succ]
          refine wpAnyH_take (i := 9) (oi := ⟨some 40, _, _, _, _, _⟩) (v := ?vb4ux9) rfl (by kernel_rfl) (by kernel_rfl) (by kernel_rfl) (fun _ _ _ h => h) (Or.inl ⟨by rfl, ?hyb4ux9⟩) hHeld ?restb4ux9
          case hyb4ux9 => (intro w hSw; (try dsimp only at hSw); have hk := hSw; obtain ⟨k_0, k_1, k_2, k_3, k_4, k_5, k_6, k_7, k_8, k_9, k_10, k_11, k_12⟩ := hk.all; obtain ⟨p_1, p_2⟩ := HP.out _ hk.2.2; go_simp; try with_reducible rfl)
          simp only [Act.put, List.setIfInBounds_toArray, List.set_cons_zero, List.set_cons_succ]
          refine wpAnyH_ready (rs := [10]) (by kernel_rfl) (by simp) ?_
          refine AllReadyH.cons (o := ⟨some 41, _, _, _, _, _⟩) rfl (fun K hK => ?_) AllReadyH.nil
          go_simp
          refine (refLess_bel pa pq ac ar _).mono ?_
          rintro e Ub4u1 ⟨ele, hb⟩
          rw [← HLq.out] at ele
          subst ele
          (try go_wp2_with fail)
          refine hK.out _ _ (hHeld.step hb) (fun hHeld2 => ?_)
          clear hK K hHeld
          have hHeld := hHeld2
          clear hHeld2
          (try simp only [Act.put, List.setIfInBounds_toArray, List.set_cons_zero, List.set_cons_succ])
          clear hb
          refine wpAnyH_take (i := 11) (oi := ⟨some 42, _, _, _, _, _⟩) (v := ?vb4u_10x11) rfl (by kernel_rfl) (by kernel_rfl) (by kernel_rfl) (fun _ _ _ h => h) (Or.inl ⟨by rfl, ?hyb4u_10x11⟩) hHeld ?restb4u_10x11
          case hyb4u_10x11 => (intro w _; go_simp; try with_reducible rfl)
          simp only [Act.put, List.setIfInBounds_toArray, List.set_cons_zero, List.set_cons_succ]
          refine wpAnyH_take (i := 12) (oi := ⟨some 43, _, _, _, _, _⟩) (v := ?vb4u_10x12) rfl (by kernel_rfl) (by kernel_rfl) (by kernel_rfl) (fun _ _ _ h => h) (Or.inl ⟨by rfl, ?hyb4u_10x12⟩) hHeld ?restb4u_10x12
          case hyb4u_10x12 => (intro w _; go_simp; try with_reducible rfl)
          simp only [Act.put, List.setIfInBounds_toArray, List.set_cons_zero, List.set_cons_succ]
          refine wpAnyH_done (by kernel_rfl) ?_ _
          have HK3 : Hid (KeptC w w.heap.size [.int .i64 ac, .int .i64 ar, .int .i64 sq, .slice (some ⟨b, o, none⟩) ds.length c0, .int .i64 kd, .int .i64 nc, .int .i64 nr, .int .i64 pc, .int .i64 pr, .int .i64 fc, .int .i64 fr, .string nm, .string vl] Ub4u1) := hHeld
          clear hHeld
          cases le
          · go_wp2
            go_ret
            exact ⟨ret_bool (HN2.out HLE.out).symm, HK3.out.2.2⟩
          · have HN3 := HN1.out HLE.out
            clear HN1 HN2
            go_wp2
            go_roundw
            case rel => exact ⟨k + 1, by omega, by first | rfl | go_num, HN3, HK3⟩
            case measure => simp [intOf]; omega
    · obtain rfl : k = ds.length := by omega
      go_wp2_with fail
      refine (refNames_any ac ar sq (.slice a0 ds.length c0) kd nc nr pc pr fc fr nm vl ds _).mono ?_
      rintro e W6 ⟨v6, rfl, hs6, hb6⟩
      have HK6 : Hid (KeptC w w.heap.size [.int .i64 ac, .int .i64 ar, .int .i64 sq, .slice a0 ds.length c0, .int .i64 kd, .int .i64 nc, .int .i64 nr, .int .i64 pc, .int .i64 pr, .int .i64 fc, .int .i64 fr, .string nm, .string vl] W6) := HK2.out.step hb6
      obtain ⟨N, eN⟩ : ∃ N, N = S.sortL (namesL (⟨ac, ar, sq, ds, kd, nc, nr, pc, pr, fc, fr, nm, vl⟩ : Ch)) := ⟨_, rfl⟩
      rw [← eN] at hs6
      have HEN : Hid (behindR L (⟨ac, ar, sq, ds, kd, nc, nr, pc, pr, fc, fr, nm, vl⟩ : Ch) = N.all (namsR L (⟨ac, ar, sq, ds, kd, nc, nr, pc, pr, fc, fr, nm, vl⟩ : Ch))) := by
        show _ = _
        rw [HE.out, HT.out, eN, all_sort]; rfl
      obtain ⟨a6, c6, rfl, hc6, hl6, r6⟩ := hs6
      have R6 : Hid (N = [] ∨ ∃ b o, a6 = some ⟨b, o, none⟩ ∧ S.RowAt W6 b o N) := r6
      have HB6 : Hid (BelowH W6 W6) := Below.refl _ _
      clear r6 eN hb6 hlt hk HT HE HK2 k_0 k_1 k_2 k_3 k_4 k_5 k_6 k_7 k_8 k_9 k_10 k_11 k_12
      go_wp2
      go_loopw [8] (fun jv wq => ∃ m : Nat, m ≤ N.length ∧ jv = .int .i64 (m : Int) ∧ Hid ((N.take m).all (namsR L (⟨ac, ar, sq, ds, kd, nc, nr, pc, pr, fc, fr, nm, vl⟩ : Ch)) = true) ∧ Hid (KeptC w w.heap.size [.int .i64 ac, .int .i64 ar, .int .i64 sq, .slice a0 ds.length c0, .int .i64 kd, .int .i64 nc, .int .i64 nr, .int .i64 pc, .int .i64 pr, .int .i64 fc, .int .i64 fr, .string nm, .string vl] wq) ∧ Hid (BelowH W6 wq)) (fun jv _ => N.length - (intOf jv).toNat)
      case atStart => exact ⟨0, Nat.zero_le _, rfl, rfl, HK6, HB6⟩
      case round =>
        rename World => wq
        obtain ⟨m, hm, rfl, HT, HK2, HBq⟩ := hrel
        obtain ⟨k_0, k_1, k_2, k_3, k_4, k_5, k_6, k_7, k_8, k_9, k_10, k_11, k_12⟩ := HK2.out.all
        by_cases hml : m < N.length
        · obtain ⟨b6, o6, rfl, g6⟩ := R6.out.resolve_left (by intro e; subst e; simp at hml)
          obtain ⟨y1, y2⟩ := (g6.below HBq.out) m hml
          have HNt : Hid (namsR L (⟨ac, ar, sq, ds, kd, nc, nr, pc, pr, fc, fr, nm, vl⟩ : Ch) N[m] = true → (N.take (m + 1)).all (namsR L (⟨ac, ar, sq, ds, kd, nc, nr, pc, pr, fc, fr, nm, vl⟩ : Ch)) = true) := fun h => all_take hml HT.out h
          have HNf : Hid (namsR L (⟨ac, ar, sq, ds, kd, nc, nr, pc, pr, fc, fr, nm, vl⟩ : Ch) N[m] = false → behindR L (⟨ac, ar, sq, ds, kd, nc, nr, pc, pr, fc, fr, nm, vl⟩ : Ch) = false) := fun h => by rw [HEN.out, all_nat hml h]
          have HNv : Hid (namsR L (⟨ac, ar, sq, ds, kd, nc, nr, pc, pr, fc, fr, nm, vl⟩ : Ch) N[m] = (match getL L N[m].1 N[m].2 with | none => false | some d => withinB d ds)) := rfl
          generalize namsR L (⟨ac, ar, sq, ds, kd, nc, nr, pc, pr, fc, fr, nm, vl⟩ : Ch) N[m] = nv at *
          generalize N[m].1 = n1 at *
          generalize N[m].2 = n2 at *
          have m1 : (m : Int) < (N.length : Int) := by omega
          have m0 : (0 : Int) ≤ (m : Int) := by omega
          clear g6
          go_wp2_with fail
          refine (find_any _ L n1 n2 _ (HH.out.below HK2.out.2.2)).mono ?_
          rintro e W1 ⟨rfl, hb1⟩
          replace HK2 : Hid (KeptC w w.heap.size [.int .i64 ac, .int .i64 ar, .int .i64 sq, .slice a0 ds.length c0, .int .i64 kd, .int .i64 nc, .int .i64 nr, .int .i64 pc, .int .i64 pr, .int .i64 fc, .int .i64 fr, .string nm, .string vl] W1) := HK2.out.step hb1
          replace HBq : Hid (BelowH W6 W1) := HBq.out.below hb1
          clear y1 y2 hb1 k_0 k_1 k_2 k_3 k_4 k_5 k_6 k_7 k_8 k_9 k_10 k_11 k_12
          rcases findI_or L n1 n2 with ⟨e1, e2⟩ | ⟨j, hj, e1, e2⟩
          · rw [e1]
            have HF : Hid (nv = false) := by
              show _ = _
              rw [HNv.out, e2]
            clear e1 e2 HNv HNt
            go_upto_region 13 with fail
            refine wp_region_held_drew (S := fun W' => KeptC w w.heap.size [.int .i64 ac, .int .i64 ar, .int .i64 sq, .slice a0 ds.length c0, .int .i64 kd, .int .i64 nc, .int .i64 nr, .int .i64 pc, .int .i64 pr, .int .i64 fc, .int .i64 fr, .string nm, .string vl] W') (by kernel_rfl) HK2.out.drew (fun hHeld => ?_)
            obtain ⟨Uc5u0, eW⟩ : ∃ X, X = W1.drew := ⟨_, rfl⟩
            have hb : Below W1.heap.size W1 Uc5u0 := by rw [eW]; exact (Below.refl _ _).drew
            rw [← eW] at hHeld ⊢
            clear eW hb
            refine wpAnyH_take (i := 0) (oi := ⟨some 58, _, _, _, _, _⟩) (v := ?vc5ux0) rfl (by kernel_rfl) (by kernel_rfl) (by kernel_rfl) (fun _ _ _ h => h) (Or.inl ⟨by rfl, ?hyc5ux0⟩) hHeld ?restc5ux0
            case hyc5ux0 => (intro w _; go_simp; try with_reducible rfl)
            simp only [Act.put, List.setIfInBounds_toArray, List.set_cons_zero, List.set_cons_succ]
            refine wpAnyH_take (i := 1) (oi := ⟨some 59, _, _, _, _, _⟩) (v := ?vc5ux1) rfl (by kernel_rfl) (by kernel_rfl) (by kernel_rfl) (fun _ _ _ h => h) (Or.inl ⟨by rfl, ?hyc5ux1⟩) hHeld ?restc5ux1
            case hyc5ux1 => (intro w hSw; (try dsimp only at hSw); have hk := hSw; obtain ⟨k_0, k_1, k_2, k_3, k_4, k_5, k_6, k_7, k_8, k_9, k_10, k_11, k_12⟩ := hk.all; go_simp; try with_reducible rfl)
            simp only [Act.put, List.setIfInBounds_toArray, List.set_cons_zero, List.set_cons_succ]
            refine wpAnyH_take (i := 2) (oi := ⟨some 60, _, _, _, _, _⟩) (v := ?vc5ux2) rfl (by kernel_rfl) (by kernel_rfl) (by kernel_rfl) (fun _ _ _ h => h) (Or.inl ⟨by rfl, ?hyc5ux2⟩) hHeld ?restc5ux2
            case hyc5ux2 => (intro w _; go_simp; try with_reducible rfl)
            simp only [Act.put, List.setIfInBounds_toArray, List.set_cons_zero, List.set_cons_succ]
            refine wpAnyH_take (i := 3) (oi := ⟨some 61, _, _, _, _, _⟩) (v := undef) rfl (by kernel_rfl) (by kernel_rfl) (by kernel_rfl) (fun _ _ _ h => h) (Or.inr ⟨by rfl, rfl⟩) hHeld ?_
            simp only [Act.put, List.setIfInBounds_toArray, List.set_cons_zero, List.set_cons_succ]
            refine wpAnyH_take (i := 4) (oi := ⟨some 62, _, _, _, _, _⟩) (v := undef) rfl (by kernel_rfl) (by kernel_rfl) (by kernel_rfl) (fun _ _ _ h => h) (Or.inr ⟨by rfl, rfl⟩) hHeld ?_
            simp only [Act.put, List.setIfInBounds_toArray, List.set_cons_zero, List.set_cons_succ]
            refine wpAnyH_take (i := 5) (oi := ⟨some 63, _, _, _, _, _⟩) (v := undef) rfl (by kernel_rfl) (by kernel_rfl) (by kernel_rfl) (fun _ _ _ h => h) (Or.inr ⟨by rfl, rfl⟩) hHeld ?_
            simp only [Act.put, List.setIfInBounds_toArray, List.set_cons_zero, List.set_cons_succ]
            refine wpAnyH_take (i := 6) (oi := ⟨some 64, _, _, _, _, _⟩) (v := undef) rfl (by kernel_rfl) (by kernel_rfl) (by kernel_rfl) (fun _ _ _ h => h) (Or.inr ⟨by rfl, rfl⟩) hHeld ?_
            simp only [Act.put, List.setIfInBounds_toArray, List.set_cons_zero, List.set_cons_succ]
            refine wpAnyH_take (i := 7) (oi := ⟨some 65, _, _, _, _, _⟩) (v := undef) rfl (by kernel_rfl) (by kernel_rfl) (by kernel_rfl) (fun _ _ _ h => h) (Or.inr ⟨by rfl, rfl⟩) hHeld ?_
            simp only [Act.put, List.setIfInBounds_toArray, List.set_cons_zero, List.set_cons_succ]
            refine wpAnyH_take (i := 8) (oi := ⟨some 66, _, _, _, _, _⟩) (v := undef) rfl (by kernel_rfl) (by kernel_rfl) (by kernel_rfl) (fun _ _ _ h => h) (Or.inr ⟨by rfl, rfl⟩) hHeld ?_
            simp only [Act.put, List.setIfInBounds_toArray, List.set_cons_zero, List.set_cons_succ]
            refine wpAnyH_take (i := 9) (oi := ⟨some 67, _, _, _, _, _⟩) (v := undef) rfl (by kernel_rfl) (by kernel_rfl) (by kernel_rfl) (fun _ _ _ h => h) (Or.inr ⟨by rfl, rfl⟩) hHeld ?_
            simp only [Act.put, List.setIfInBounds_toArray, List.set_cons_zero, List.set_cons_succ]
            refine wpAnyH_take (i := 10) (oi := ⟨some 68, _, _, _, _, _⟩) (v := undef) rfl (by kernel_rfl) (by kernel_rfl) (by kernel_rfl) (fun _ _ _ h => h) (Or.inr ⟨by rfl, rfl⟩) hHeld ?_
            simp only [Act.put, List.setIfInBounds_toArray, List.set_cons_zero, List.set_cons_succ]
            refine wpAnyH_take (i := 11) (oi := ⟨some 69, _, _, _, _, _⟩) (v := ?vc5ux11) rfl (by kernel_rfl) (by kernel_rfl) (by kernel_rfl) (fun _ _ _ h => h) (Or.inl ⟨by rfl, ?hyc5ux11⟩) hHeld ?restc5ux11
            case hyc5ux11 => (intro w _; go_simp; try with_reducible rfl)
            simp only [Act.put, List.setIfInBounds_toArray, List.set_cons_zero, List.set_cons_succ]
            refine wpAnyH_done (by kernel_rfl) ?_ _
            have HK3 : Hid (KeptC w w.heap.size [.int .i64 ac, .int .i64 ar, .int .i64 sq, .slice a0 ds.length c0, .int .i64 kd, .int .i64 nc, .int .i64 nr, .int .i64 pc, .int .i64 pr, .int .i64 fc, .int .i64 fr, .string nm, .string vl] Uc5u0) := hHeld
            clear hHeld
            go_wp2
            go_ret
            exact ⟨ret_bool (HNf.out HF.out).symm, HK3.out.2.2⟩
          · rw [e1]
            obtain ⟨b1, o1, rfl, g1⟩ := HR.out.resolve_left (by intro e; subst e; simp at hj)
            have hV : nv = withinB L[j] ds := by rw [HNv.out, e2]
            obtain ⟨a2, e2', _, _, z⟩ := (g1 j hj).all
            have hp : ∀ W', Below w.heap.size w W' → W'.cell? ⟨b1, o1 + j * 13, none⟩ = some (.int .i64 L[j].ac) ∧ W'.cell? ⟨b1, o1 + j * 13 + 1, none⟩ = some (.int .i64 L[j].ar) ∧ W'.cell? ⟨b1, o1 + j * 13 + 2, none⟩ = some (.int .i64 L[j].seq) ∧ W'.cell? ⟨b1, o1 + j * 13 + 3, none⟩ = some (.slice a2 L[j].deps.length e2') ∧ W'.cell? ⟨b1, o1 + j * 13 + 4, none⟩ = some (.int .i64 L[j].kind) ∧ W'.cell? ⟨b1, o1 + j * 13 + 5, none⟩ = some (.int .i64 L[j].nc) ∧ W'.cell? ⟨b1, o1 + j * 13 + 6, none⟩ = some (.int .i64 L[j].nr) ∧ W'.cell? ⟨b1, o1 + j * 13 + 7, none⟩ = some (.int .i64 L[j].pc) ∧ W'.cell? ⟨b1, o1 + j * 13 + 8, none⟩ = some (.int .i64 L[j].pr) ∧ W'.cell? ⟨b1, o1 + j * 13 + 9, none⟩ = some (.int .i64 L[j].fc) ∧ W'.cell? ⟨b1, o1 + j * 13 + 10, none⟩ = some (.int .i64 L[j].fr) ∧ W'.cell? ⟨b1, o1 + j * 13 + 11, none⟩ = some (.string L[j].name) ∧ W'.cell? ⟨b1, o1 + j * 13 + 12, none⟩ = some (.string L[j].value) := fun W' hb => by
              have hb1 : b1 < w.heap.size := (g1 j hj).lt
              obtain ⟨z0, z1, z2, z3, z4, z5, z6, z7, z8, z9, z10, z11, z12⟩ := z
              exact ⟨(hb.cell (p := ⟨b1, o1 + j * 13, none⟩) hb1).trans z0, (hb.cell (p := ⟨b1, o1 + j * 13 + 1, none⟩) hb1).trans z1, (hb.cell (p := ⟨b1, o1 + j * 13 + 2, none⟩) hb1).trans z2, (hb.cell (p := ⟨b1, o1 + j * 13 + 3, none⟩) hb1).trans z3, (hb.cell (p := ⟨b1, o1 + j * 13 + 4, none⟩) hb1).trans z4, (hb.cell (p := ⟨b1, o1 + j * 13 + 5, none⟩) hb1).trans z5, (hb.cell (p := ⟨b1, o1 + j * 13 + 6, none⟩) hb1).trans z6, (hb.cell (p := ⟨b1, o1 + j * 13 + 7, none⟩) hb1).trans z7, (hb.cell (p := ⟨b1, o1 + j * 13 + 8, none⟩) hb1).trans z8, (hb.cell (p := ⟨b1, o1 + j * 13 + 9, none⟩) hb1).trans z9, (hb.cell (p := ⟨b1, o1 + j * 13 + 10, none⟩) hb1).trans z10, (hb.cell (p := ⟨b1, o1 + j * 13 + 11, none⟩) hb1).trans z11, (hb.cell (p := ⟨b1, o1 + j * 13 + 12, none⟩) hb1).trans z12⟩
            obtain ⟨⟨ac2, ar2, sq2, ds2, kd2, nc2, nr2, pc2, pr2, fc2, fr2, nm2, vl2⟩, ec2⟩ : ∃ c, c = L[j] := ⟨_, rfl⟩
            rw [← ec2] at hV hp
            simp only at hp
            have HWq : Hid (nv = withinB (⟨ac2, ar2, sq2, ds2, kd2, nc2, nr2, pc2, pr2, fc2, fr2, nm2, vl2⟩ : Ch) ds) := hV
            have HP : Hid (∀ W', Below w.heap.size w W' → W'.cell? ⟨b1, o1 + j * 13, none⟩ = some (.int .i64 ac2) ∧ W'.cell? ⟨b1, o1 + j * 13 + 1, none⟩ = some (.int .i64 ar2) ∧ W'.cell? ⟨b1, o1 + j * 13 + 2, none⟩ = some (.int .i64 sq2) ∧ W'.cell? ⟨b1, o1 + j * 13 + 3, none⟩ = some (.slice a2 ds2.length e2') ∧ W'.cell? ⟨b1, o1 + j * 13 + 4, none⟩ = some (.int .i64 kd2) ∧ W'.cell? ⟨b1, o1 + j * 13 + 5, none⟩ = some (.int .i64 nc2) ∧ W'.cell? ⟨b1, o1 + j * 13 + 6, none⟩ = some (.int .i64 nr2) ∧ W'.cell? ⟨b1, o1 + j * 13 + 7, none⟩ = some (.int .i64 pc2) ∧ W'.cell? ⟨b1, o1 + j * 13 + 8, none⟩ = some (.int .i64 pr2) ∧ W'.cell? ⟨b1, o1 + j * 13 + 9, none⟩ = some (.int .i64 fc2) ∧ W'.cell? ⟨b1, o1 + j * 13 + 10, none⟩ = some (.int .i64 fr2) ∧ W'.cell? ⟨b1, o1 + j * 13 + 11, none⟩ = some (.string nm2) ∧ W'.cell? ⟨b1, o1 + j * 13 + 12, none⟩ = some (.string vl2)) := hp
            have j1 : (j : Int) < (L.length : Int) := by omega
            have j0 : (0 : Int) ≤ (j : Int) := by omega
            have j2 : decide ((j : Int) < 0) = false := decide_eq_false (by omega)
            clear e1 e2 HNv hV hp g1 z ec2
            go_upto_region 13 with fail
            refine wp_region_held_drew (S := fun W' => KeptC w w.heap.size [.int .i64 ac, .int .i64 ar, .int .i64 sq, .slice a0 ds.length c0, .int .i64 kd, .int .i64 nc, .int .i64 nr, .int .i64 pc, .int .i64 pr, .int .i64 fc, .int .i64 fr, .string nm, .string vl] W') (by kernel_rfl) HK2.out.drew (fun hHeld => ?_)
            obtain ⟨Ud6u0, eW⟩ : ∃ X, X = W1.drew := ⟨_, rfl⟩
            have hb : Below W1.heap.size W1 Ud6u0 := by rw [eW]; exact (Below.refl _ _).drew
            replace HBq : Hid (BelowH W6 Ud6u0) := HBq.out.below hb
            rw [← eW] at hHeld ⊢
            clear eW hb
            refine wpAnyH_take (i := 0) (oi := ⟨some 58, _, _, _, _, _⟩) (v := ?vd6ux0) rfl (by kernel_rfl) (by kernel_rfl) (by kernel_rfl) (fun _ _ _ h => h) (Or.inl ⟨by rfl, ?hyd6ux0⟩) hHeld ?restd6ux0
            case hyd6ux0 => (intro w _; go_simp; try with_reducible rfl)
            simp only [Act.put, List.setIfInBounds_toArray, List.set_cons_zero, List.set_cons_succ]
            refine wpAnyH_take (i := 1) (oi := ⟨some 59, _, _, _, _, _⟩) (v := ?vd6ux1) rfl (by kernel_rfl) (by kernel_rfl) (by kernel_rfl) (fun _ _ _ h => h) (Or.inl ⟨by rfl, ?hyd6ux1⟩) hHeld ?restd6ux1
            case hyd6ux1 => (intro w hSw; (try dsimp only at hSw); have hk := hSw; obtain ⟨k_0, k_1, k_2, k_3, k_4, k_5, k_6, k_7, k_8, k_9, k_10, k_11, k_12⟩ := hk.all; obtain ⟨p_0, p_1, p_2, p_3, p_4, p_5, p_6, p_7, p_8, p_9, p_10, p_11, p_12⟩ := HP.out _ hk.2.2; go_simp; try with_reducible rfl)
            simp only [Act.put, List.setIfInBounds_toArray, List.set_cons_zero, List.set_cons_succ]
            refine wpAnyH_take (i := 2) (oi := ⟨some 60, _, _, _, _, _⟩) (v := ?vd6ux2) rfl (by kernel_rfl) (by kernel_rfl) (by kernel_rfl) (fun _ _ _ h => h) (Or.inl ⟨by rfl, ?hyd6ux2⟩) hHeld ?restd6ux2
            case hyd6ux2 => (intro w _; go_simp; try with_reducible rfl)
            simp only [Act.put, List.setIfInBounds_toArray, List.set_cons_zero, List.set_cons_succ]
            refine wpAnyH_take (i := 3) (oi := ⟨some 61, _, _, _, _, _⟩) (v := ?vd6ux3) rfl (by kernel_rfl) (by kernel_rfl) (by kernel_rfl) (fun _ _ _ h => h) (Or.inl ⟨by rfl, ?hyd6ux3⟩) hHeld ?restd6ux3
            case hyd6ux3 => (intro w _; go_simp; try with_reducible rfl)
            simp only [Act.put, List.setIfInBounds_toArray, List.set_cons_zero, List.set_cons_succ]
            refine wpAnyH_take (i := 4) (oi := ⟨some 62, _, _, _, _, _⟩) (v := ?vd6ux4) rfl (by kernel_rfl) (by kernel_rfl) (by kernel_rfl) (fun _ _ _ h => h) (Or.inl ⟨by rfl, ?hyd6ux4⟩) hHeld ?restd6ux4
            case hyd6ux4 => (intro w _; go_simp; try with_reducible rfl)
            simp only [Act.put, List.setIfInBounds_toArray, List.set_cons_zero, List.set_cons_succ]
            refine wpAnyH_take (i := 5) (oi := ⟨some 63, _, _, _, _, _⟩) (v := ?vd6ux5) rfl (by kernel_rfl) (by kernel_rfl) (by kernel_rfl) (fun _ _ _ h => h) (Or.inl ⟨by rfl, ?hyd6ux5⟩) hHeld ?restd6ux5
            case hyd6ux5 => (intro w hSw; (try dsimp only at hSw); have hk := hSw; obtain ⟨k_0, k_1, k_2, k_3, k_4, k_5, k_6, k_7, k_8, k_9, k_10, k_11, k_12⟩ := hk.all; obtain ⟨p_0, p_1, p_2, p_3, p_4, p_5, p_6, p_7, p_8, p_9, p_10, p_11, p_12⟩ := HP.out _ hk.2.2; go_simp; try with_reducible rfl)
            simp only [Act.put, List.setIfInBounds_toArray, List.set_cons_zero, List.set_cons_succ]
            refine wpAnyH_take (i := 6) (oi := ⟨some 64, _, _, _, _, _⟩) (v := ?vd6ux6) rfl (by kernel_rfl) (by kernel_rfl) (by kernel_rfl) (fun _ _ _ h => h) (Or.inl ⟨by rfl, ?hyd6ux6⟩) hHeld ?restd6ux6
            case hyd6ux6 => (intro w hSw; (try dsimp only at hSw); have hk := hSw; obtain ⟨k_0, k_1, k_2, k_3, k_4, k_5, k_6, k_7, k_8, k_9, k_10, k_11, k_12⟩ := hk.all; obtain ⟨p_0, p_1, p_2, p_3, p_4, p_5, p_6, p_7, p_8, p_9, p_10, p_11, p_12⟩ := HP.out _ hk.2.2; go_simp; try with_reducible rfl)
            simp only [Act.put, List.setIfInBounds_toArray, List.set_cons_zero, List.set_cons_succ]
            refine wpAnyH_take (i := 7) (oi := ⟨some 65, _, _, _, _, _⟩) (v := ?vd6ux7) rfl (by kernel_rfl) (by kernel_rfl) (by kernel_rfl) (fun _ _ _ h => h) (Or.inl ⟨by rfl, ?hyd6ux7⟩) hHeld ?restd6ux7
            case hyd6ux7 => (intro w _; go_simp; try with_reducible rfl)
            simp only [Act.put, List.setIfInBounds_toArray, List.set_cons_zero, List.set_cons_succ]
            refine wpAnyH_take (i := 8) (oi := ⟨some 66, _, _, _, _, _⟩) (v := ?vd6ux8) rfl (by kernel_rfl) (by kernel_rfl) (by kernel_rfl) (fun _ _ _ h => h) (Or.inl ⟨by rfl, ?hyd6ux8⟩) hHeld ?restd6ux8
            case hyd6ux8 => (intro w hSw; (try dsimp only at hSw); have hk := hSw; obtain ⟨k_0, k_1, k_2, k_3, k_4, k_5, k_6, k_7, k_8, k_9, k_10, k_11, k_12⟩ := hk.all; obtain ⟨p_0, p_1, p_2, p_3, p_4, p_5, p_6, p_7, p_8, p_9, p_10, p_11, p_12⟩ := HP.out _ hk.2.2; go_simp; try with_reducible rfl)
            simp only [Act.put, List.setIfInBounds_toArray, List.set_cons_zero, List.set_cons_succ]
            refine wpAnyH_ready (rs := [9]) (by kernel_rfl) (by simp) ?_
            refine AllReadyH.cons (o := ⟨some 67, _, _, _, _, _⟩) rfl (fun K hK => ?_) AllReadyH.nil
            go_simp
            refine (refWithin_any ac2 ar2 sq2 (.slice a2 ds2.length e2') kd2 nc2 nr2 pc2 pr2 fc2 fr2 nm2 vl2 ds2 (.slice a0 ds.length c0) ds _ (HIc.out.below hHeld.2.2)).mono ?_
            rintro e Ud6u1 ⟨ele, hb⟩
            rw [← HWq.out] at ele
            subst ele
            (try go_wp2_with fail)
            refine hK.out _ _ (hHeld.step hb) (fun hHeld2 => ?_)
            clear hK K hHeld
            have hHeld := hHeld2
            clear hHeld2
            (try simp only [Act.put, List.setIfInBounds_toArray, List.set_cons_zero, List.set_cons_succ])
            replace HBq : Hid (BelowH W6 Ud6u1) := HBq.out.below hb
            clear hb
            refine wpAnyH_take (i := 10) (oi := ⟨some 68, _, _, _, _, _⟩) (v := ?vd6u_9x10) rfl (by kernel_rfl) (by kernel_rfl) (by kernel_rfl) (fun _ _ _ h => h) (Or.inl ⟨by rfl, ?hyd6u_9x10⟩) hHeld ?restd6u_9x10
            case hyd6u_9x10 => (intro w _; go_simp; try with_reducible rfl)
            simp only [Act.put, List.setIfInBounds_toArray, List.set_cons_zero, List.set_cons_succ]
            refine wpAnyH_take (i := 11) (oi := ⟨some 69, _, _, _, _, _⟩) (v := ?vd6u_9x11) rfl (by kernel_rfl) (by kernel_rfl) (by kernel_rfl) (fun _ _ _ h => h) (Or.inl ⟨by rfl, ?hyd6u_9x11⟩) hHeld ?restd6u_9x11
            case hyd6u_9x11 => (intro w _; go_simp; try with_reducible rfl)
            simp only [Act.put, List.setIfInBounds_toArray, List.set_cons_zero, List.set_cons_succ]
            refine wpAnyH_done (by kernel_rfl) ?_ _
            have HK3 : Hid (KeptC w w.heap.size [.int .i64 ac, .int .i64 ar, .int .i64 sq, .slice a0 ds.length c0, .int .i64 kd, .int .i64 nc, .int .i64 nr, .int .i64 pc, .int .i64 pr, .int .i64 fc, .int .i64 fr, .string nm, .string vl] Ud6u1) := hHeld
            clear hHeld
            cases nv
            · go_wp2
              go_ret
              exact ⟨ret_bool (HNf.out (by simp)).symm, HK3.out.2.2⟩
            · have HN3 := HNt.out rfl
              go_wp2
              go_roundw
              case rel => exact ⟨m + 1, by omega, by first | rfl | go_num, HN3, HK3, HBq⟩
              case measure => simp [intOf]; omega
        · obtain rfl : m = N.length := by omega
          have HX : Hid (behindR L (⟨ac, ar, sq, ds, kd, nc, nr, pc, pr, fc, fr, nm, vl⟩ : Ch) = true) := by
            show _ = _
            rw [HEN.out, ← HT.out, List.take_length]
          go_wp2
          go_ret
          exact ⟨ret_bool HX.out.symm, HK2.out.2.2⟩

end Go.Proofs.YtckipepodohnpaaGreat

namespace Go.Proofs.YtckipepodohnpaaGreat
open Go.RowKit
set_option linter.unusedVariables false

set_option maxHeartbeats 1000000 in
/-- The document's Under. -/
theorem under_any (v1 v2 : Value) (d1 d2 : List Int) (w : World) (h1 : IsI w v1 d1) (h2 : IsI w v2 d2) :
    Calls Tryz.prog 52 #[v1, v2] w fun e w' => e = .returned (.bool (underB d1 d2)) ∧ Below w.heap.size w w' := by
  obtain ⟨a1, c1, rfl, hc1, hl1, r1⟩ := h1
  have HR : Hid (d1 = [] ∨ ∃ b o, a1 = some ⟨b, o, none⟩ ∧ IntsAt w b o d1) := r1
  clear r1
  obtain ⟨a2, c2, e2⟩ := h2.form
  subst e2
  have H2 : Hid (IsI w (.slice a2 d2.length c2) d2) := h2
  clear h2
  go_enter Tryz.func52, Tryz.ntmps52
  go_wp2
  go_loopw [5] (fun i wr => ∃ k : Nat, k ≤ d1.length ∧ i = .int .i64 (k : Int) ∧ Hid (∀ r, r < k → d1.getD r 0 ≤ d2.getD r 0) ∧ Hid (Below w.heap.size w wr)) (fun i _ => d1.length - (intOf i).toNat)
  case atStart => exact ⟨0, Nat.zero_le _, rfl, fun r h => by omega, Below.refl _ _⟩
  case round =>
    obtain ⟨k, hk, rfl, HA, HB⟩ := hrel
    by_cases hlt : k < d1.length
    · obtain ⟨b1, o1, rfl, g1⟩ := HR.out.resolve_left (by intro e; subst e; simp at hlt)
      have x1 := (g1.below HB.out) k hlt
      clear g1
      have k1 : (k : Int) < (d1.length : Int) := by omega
      have k0 : (0 : Int) ≤ (k : Int) := by omega
      have hat := atL_nat d2 k
      have hgt := getD_at hlt
      by_cases hx : atL d2 (k : Int) < d1[k]
      · have HE : Hid (underB d1 d2 = false) := underB_no d1 d2 k hlt (by rw [← hat, hgt]; exact hx)
        clear hat hgt
        go_wp2
        go_quiet ((go_at_call 51; exact Calls.quiet_of_same (refAt_any _ d2 _ _ (H2.out.below (below_drewN HB.out _)))))
        go_wp2
        go_ret
        exact ⟨ret_b HE.out.symm, below_drewN HB.out _⟩
      · have HM : Hid (∀ r, r < k + 1 → d1.getD r 0 ≤ d2.getD r 0) := fun r hr => by
          rcases Nat.lt_or_ge r k with h | h
          · exact HA.out r h
          · obtain rfl : r = k := by omega
            rw [← hat, hgt]; omega
        clear hat hgt
        go_wp2
        go_quiet ((go_at_call 51; exact Calls.quiet_of_same (refAt_any _ d2 _ _ (H2.out.below (below_drewN HB.out _)))))
        go_wp2
        go_roundw
        case rel => exact ⟨k + 1, by omega, by go_num, HM, below_drewN HB.out _⟩
        case measure => simp [intOf]; omega
    · have HE : Hid (underB d1 d2 = true) := (underB_iff d1 d2).2 fun r hr => HA.out r (by omega)
      go_wp2
      go_ret
      exact ⟨ret_b HE.out.symm, HB.out⟩

end Go.Proofs.YtckipepodohnpaaGreat

namespace Go.Proofs.YtckipepodohnpaaGreat
open Go.RowKit
set_option linter.unusedVariables false
set_option linter.unusedSimpArgs false

set_option maxRecDepth 100000 in
set_option maxHeartbeats 8000000 in
theorem refWhy_any (v : Value) (L : List Ch) (room : Int) (ac ar sq : Int) (dv : Value) (kd nc nr pc pr fc fr : Int) (nm vl : ByteArray) (ds : List Int) (w : World) (h1 : IsH w v L) (hd : IsI w dv ds) (hsz : Sized (⟨ac, ar, sq, ds, kd, nc, nr, pc, pr, fc, fr, nm, vl⟩ : Ch)) :
    Calls Tryz.prog 31 #[v, .int .i64 room, .agg #[.int .i64 ac, .int .i64 ar, .int .i64 sq, dv, .int .i64 kd, .int .i64 nc, .int .i64 nr, .int .i64 pc, .int .i64 pr, .int .i64 fc, .int .i64 fr, .string nm, .string vl]] w fun e w' => e = .returned (.int .i64 (whyR L room (⟨ac, ar, sq, ds, kd, nc, nr, pc, pr, fc, fr, nm, vl⟩ : Ch))) ∧ Below w.heap.size w w' := by
  have HH : Hid (IsH w v L) := h1
  obtain ⟨a1, c1, rfl, hc1, hl1, r1⟩ := h1
  have HR : Hid (L = [] ∨ ∃ b o, a1 = some ⟨b, o, none⟩ ∧ ChsAt w b o L) := r1
  have HIc : Hid (IsI w dv ds) := hd
  obtain ⟨a0, c0, e0⟩ := hd.form
  subst e0
  have HSz : Hid (Sized (⟨ac, ar, sq, ds, kd, nc, nr, pc, pr, fc, fr, nm, vl⟩ : Ch)) := hsz
  have K0 := KeptC.start w [.int .i64 ac, .int .i64 ar, .int .i64 sq, .slice a0 ds.length c0, .int .i64 kd, .int .i64 nc, .int .i64 nr, .int .i64 pc, .int .i64 pr, .int .i64 fc, .int .i64 fr, .string nm, .string vl] 34
  obtain ⟨W0, eW⟩ : ∃ X, X = w.alloc (.cells #[.int .i64 ac, .int .i64 ar, .int .i64 sq, .slice a0 ds.length c0, .int .i64 kd, .int .i64 nc, .int .i64 nr, .int .i64 pc, .int .i64 pr, .int .i64 fc, .int .i64 fr, .string nm, .string vl] 34) := ⟨_, rfl⟩
  have HK : Hid (KeptC w w.heap.size [.int .i64 ac, .int .i64 ar, .int .i64 sq, .slice a0 ds.length c0, .int .i64 kd, .int .i64 nc, .int .i64 nr, .int .i64 pc, .int .i64 pr, .int .i64 fc, .int .i64 fr, .string nm, .string vl] W0) := by rw [eW]; exact K0
  have HE : Hid (whyR L room (⟨ac, ar, sq, ds, kd, nc, nr, pc, pr, fc, fr, nm, vl⟩ : Ch) = if checkCh (⟨ac, ar, sq, ds, kd, nc, nr, pc, pr, fc, fr, nm, vl⟩ : Ch) ≠ 0 then checkCh (⟨ac, ar, sq, ds, kd, nc, nr, pc, pr, fc, fr, nm, vl⟩ : Ch) else
      match getL L ac ar with
      | some d => if sameB d (⟨ac, ar, sq, ds, kd, nc, nr, pc, pr, fc, fr, nm, vl⟩ : Ch) = true then 5 else 7
      | none => if (ownC L ar sq).isSome = true then 7 else
        if sq ≠ atL (clockL L) ar + 1 ∨ underB ds (clockL L) = false then 4 else
        if behindR L (⟨ac, ar, sq, ds, kd, nc, nr, pc, pr, fc, fr, nm, vl⟩ : Ch) = false then 2 else if room ≤ (L.length : Int) then 6 else 0) := rfl
  generalize whyR L room (⟨ac, ar, sq, ds, kd, nc, nr, pc, pr, fc, fr, nm, vl⟩ : Ch) = ww at *
  clear K0 r1 hd hsz
  go_enter Tryz.func31, Tryz.ntmps31
  go_wp2_with fail
  rw [← eW]
  clear eW
  refine (refCheckCh_any ac ar sq (.slice a0 ds.length c0) kd nc nr pc pr fc fr nm vl ds HSz.out.1 _ (HIc.out.below HK.out.2.2)).mono ?_
  rintro e W1 ⟨rfl, hb1⟩
  have HK1 : Hid (KeptC w w.heap.size [.int .i64 ac, .int .i64 ar, .int .i64 sq, .slice a0 ds.length c0, .int .i64 kd, .int .i64 nc, .int .i64 nr, .int .i64 pc, .int .i64 pr, .int .i64 fc, .int .i64 fr, .string nm, .string vl] W1) := HK.out.step hb1
  obtain ⟨k_0, k_1, k_2, k_3, k_4, k_5, k_6, k_7, k_8, k_9, k_10, k_11, k_12⟩ := HK1.out.all
  clear hb1 HK
  by_cases hck : checkCh (⟨ac, ar, sq, ds, kd, nc, nr, pc, pr, fc, fr, nm, vl⟩ : Ch) = 0
  · have HR0 := right_of hck
    simp only at HR0
    rw [hck]
    have HE2 : Hid (ww = match getL L ac ar with
      | some d => if sameB d (⟨ac, ar, sq, ds, kd, nc, nr, pc, pr, fc, fr, nm, vl⟩ : Ch) = true then 5 else 7
      | none => if (ownC L ar sq).isSome = true then 7 else
        if sq ≠ atL (clockL L) ar + 1 ∨ underB ds (clockL L) = false then 4 else
        if behindR L (⟨ac, ar, sq, ds, kd, nc, nr, pc, pr, fc, fr, nm, vl⟩ : Ch) = false then 2 else if room ≤ (L.length : Int) then 6 else 0) := by
      have := HE.out
      rw [if_neg (by rw [hck]; simp)] at this
      exact this
    clear HE hck
    go_wp2_with fail
    refine (find_any _ L ac ar _ (HH.out.below HK1.out.2.2)).mono ?_
    rintro e W2 ⟨rfl, hb2⟩
    have HK2 : Hid (KeptC w w.heap.size [.int .i64 ac, .int .i64 ar, .int .i64 sq, .slice a0 ds.length c0, .int .i64 kd, .int .i64 nc, .int .i64 nr, .int .i64 pc, .int .i64 pr, .int .i64 fc, .int .i64 fr, .string nm, .string vl] W2) := HK1.out.step hb2
    clear hb2 k_0 k_1 k_2 k_3 k_4 k_5 k_6 k_7 k_8 k_9 k_10 k_11 k_12 HK1
    rcases findI_or L ac ar with ⟨e1, e2⟩ | ⟨j, hj, e1, e2⟩
    · rw [e1]
      have HE3 : Hid (ww = if (ownC L ar sq).isSome = true then 7 else
        if sq ≠ atL (clockL L) ar + 1 ∨ underB ds (clockL L) = false then 4 else
        if behindR L (⟨ac, ar, sq, ds, kd, nc, nr, pc, pr, fc, fr, nm, vl⟩ : Ch) = false then 2 else if room ≤ (L.length : Int) then 6 else 0) := by
        have := HE2.out
        rw [e2] at this
        exact this
      clear e1 e2 HE2
      go_upto_region 4 with fail
      refine wp_region_held_drew (S := fun W' => KeptC w w.heap.size [.int .i64 ac, .int .i64 ar, .int .i64 sq, .slice a0 ds.length c0, .int .i64 kd, .int .i64 nc, .int .i64 nr, .int .i64 pc, .int .i64 pr, .int .i64 fc, .int .i64 fr, .string nm, .string vl] W') (by kernel_rfl) HK2.out.drew (fun hHeld => ?_)
      obtain ⟨Ub8u0, eW⟩ : ∃ X, X = W2.drew := ⟨_, rfl⟩
      have hb : Below W2.heap.size W2 Ub8u0 := by rw [eW]; exact (Below.refl _ _).drew
      rw [← eW] at hHeld ⊢
      clear eW hb
      refine wpAnyH_take (i := 0) (oi := ⟨some 18, _, _, _, _, _⟩) (v := ?vb8ux0) rfl (by kernel_rfl) (by kernel_rfl) (by kernel_rfl) (fun _ _ _ h => h) (Or.inl ⟨by rfl, ?hyb8ux0⟩) hHeld ?restb8ux0
      case hyb8ux0 => (intro w _; go_simp; try with_reducible rfl)
      simp only [Act.put, List.setIfInBounds_toArray, List.set_cons_zero, List.set_cons_succ]
      refine wpAnyH_take (i := 1) (oi := ⟨some 19, _, _, _, _, _⟩) (v := ?vb8ux1) rfl (by kernel_rfl) (by kernel_rfl) (by kernel_rfl) (fun _ _ _ h => h) (Or.inl ⟨by rfl, ?hyb8ux1⟩) hHeld ?restb8ux1
      case hyb8ux1 => (intro w hSw; (try dsimp only at hSw); have hk := hSw; obtain ⟨k_0, k_1, k_2, k_3, k_4, k_5, k_6, k_7, k_8, k_9, k_10, k_11, k_12⟩ := hk.all; go_simp; try with_reducible rfl)
      simp only [Act.put, List.setIfInBounds_toArray, List.set_cons_zero, List.set_cons_succ]
      refine wpAnyH_take (i := 2) (oi := ⟨some 20, _, _, _, _, _⟩) (v := ?vb8ux2) rfl (by kernel_rfl) (by kernel_rfl) (by kernel_rfl) (fun _ _ _ h => h) (Or.inl ⟨by rfl, ?hyb8ux2⟩) hHeld ?restb8ux2
      case hyb8ux2 => (intro w _; go_simp; try with_reducible rfl)
      simp only [Act.put, List.setIfInBounds_toArray, List.set_cons_zero, List.set_cons_succ]
      refine wpAnyH_take (i := 3) (oi := ⟨some 21, _, _, _, _, _⟩) (v := undef) rfl (by kernel_rfl) (by kernel_rfl) (by kernel_rfl) (fun _ _ _ h => h) (Or.inr ⟨by rfl, rfl⟩) hHeld ?_
      simp only [Act.put, List.setIfInBounds_toArray, List.set_cons_zero, List.set_cons_succ]
      refine wpAnyH_take (i := 4) (oi := ⟨some 22, _, _, _, _, _⟩) (v := undef) rfl (by kernel_rfl) (by kernel_rfl) (by kernel_rfl) (fun _ _ _ h => h) (Or.inr ⟨by rfl, rfl⟩) hHeld ?_
      simp only [Act.put, List.setIfInBounds_toArray, List.set_cons_zero, List.set_cons_succ]
      refine wpAnyH_take (i := 5) (oi := ⟨some 23, _, _, _, _, _⟩) (v := undef) rfl (by kernel_rfl) (by kernel_rfl) (by kernel_rfl) (fun _ _ _ h => h) (Or.inr ⟨by rfl, rfl⟩) hHeld ?_
      simp only [Act.put, List.setIfInBounds_toArray, List.set_cons_zero, List.set_cons_succ]
      refine wpAnyH_take (i := 6) (oi := ⟨some 24, _, _, _, _, _⟩) (v := undef) rfl (by kernel_rfl) (by kernel_rfl) (by kernel_rfl) (fun _ _ _ h => h) (Or.inr ⟨by rfl, rfl⟩) hHeld ?_
      simp only [Act.put, List.setIfInBounds_toArray, List.set_cons_zero, List.set_cons_succ]
      refine wpAnyH_take (i := 7) (oi := ⟨some 25, _, _, _, _, _⟩) (v := undef) rfl (by kernel_rfl) (by kernel_rfl) (by kernel_rfl) (fun _ _ _ h => h) (Or.inr ⟨by rfl, rfl⟩) hHeld ?_
      simp only [Act.put, List.setIfInBounds_toArray, List.set_cons_zero, List.set_cons_succ]
      refine wpAnyH_take (i := 8) (oi := ⟨some 26, _, _, _, _, _⟩) (v := undef) rfl (by kernel_rfl) (by kernel_rfl) (by kernel_rfl) (fun _ _ _ h => h) (Or.inr ⟨by rfl, rfl⟩) hHeld ?_
      simp only [Act.put, List.setIfInBounds_toArray, List.set_cons_zero, List.set_cons_succ]
      refine wpAnyH_take (i := 9) (oi := ⟨some 27, _, _, _, _, _⟩) (v := ?vb8ux9) rfl (by kernel_rfl) (by kernel_rfl) (by kernel_rfl) (fun _ _ _ h => h) (Or.inl ⟨by rfl, ?hyb8ux9⟩) hHeld ?restb8ux9
      case hyb8ux9 => (intro w _; go_simp; try with_reducible rfl)
      simp only [Act.put, List.setIfInBounds_toArray, List.set_cons_zero, List.set_cons_succ]
      refine wpAnyH_done (by kernel_rfl) ?_ _
      have HK3 : Hid (KeptC w w.heap.size [.int .i64 ac, .int .i64 ar, .int .i64 sq, .slice a0 ds.length c0, .int .i64 kd, .int .i64 nc, .int .i64 nr, .int .i64 pc, .int .i64 pr, .int .i64 fc, .int .i64 fr, .string nm, .string vl] Ub8u0) := hHeld
      clear hHeld
      obtain ⟨k_0, k_1, k_2, k_3, k_4, k_5, k_6, k_7, k_8, k_9, k_10, k_11, k_12⟩ := HK3.out.all
      go_wp2_with fail
      refine (refOwn_any _ L ar sq _ (HH.out.below HK3.out.2.2)).mono ?_
      rintro e W4 ⟨rfl, hb4⟩
      have HK4 : Hid (KeptC w w.heap.size [.int .i64 ac, .int .i64 ar, .int .i64 sq, .slice a0 ds.length c0, .int .i64 kd, .int .i64 nc, .int .i64 nr, .int .i64 pc, .int .i64 pr, .int .i64 fc, .int .i64 fr, .string nm, .string vl] W4) := HK3.out.step hb4
      clear hb4 k_0 k_1 k_2 k_3 k_4 k_5 k_6 k_7 k_8 k_9 k_10 k_11 k_12 HK3
      rcases ownP_or L ar sq with ⟨e1, e2⟩ | ⟨j, hj, e1, e2⟩
      · rw [e1]
        have HE4 : Hid (ww = if sq ≠ atL (clockL L) ar + 1 ∨ underB ds (clockL L) = false then 4 else
          if behindR L (⟨ac, ar, sq, ds, kd, nc, nr, pc, pr, fc, fr, nm, vl⟩ : Ch) = false then 2 else if room ≤ (L.length : Int) then 6 else 0) := by
          have := HE3.out
          rw [e2] at this
          exact this
        have hat : atL (clockL L) ar = cntR L ar := clockL_at L (by omega) (by omega)
        have hle := cntR_le L ar
        clear e1 e2 HE3
        go_wp2_with fail
        refine (refClock_any _ L _ (HH.out.below HK4.out.2.2)).mono ?_
        rintro e W5 ⟨v5, rfl, ho5, hb5⟩
        have HK2 : Hid (KeptC w w.heap.size [.int .i64 ac, .int .i64 ar, .int .i64 sq, .slice a0 ds.length c0, .int .i64 kd, .int .i64 nc, .int .i64 nr, .int .i64 pc, .int .i64 pr, .int .i64 fc, .int .i64 fr, .string nm, .string vl] W5) := HK4.out.step hb5
        have hi5 := ho5.isI (by have := clockL_length L; omega)
        obtain ⟨a5, c5, e5⟩ := hi5.form
        subst e5
        generalize clockL L = ck at *
        have HIk : Hid (IsI W5 (.slice a5 ck.length c5) ck) := hi5
        generalize cntR L ar = cn at *
        have hwr : IntKind.i64.wrap (atL ck ar + 1) = atL ck ar + 1 := by rw [IntKind.wrap_i64]; omega
        clear hi5 ho5 hb5 HK4 hat hle
        obtain ⟨n0, hn0⟩ : ∃ n, n = atL ck ar := ⟨_, rfl⟩
        rw [← hn0] at hwr HE4
        have HAt : Hid (atL ck ar = n0) := hn0.symm
        clear hn0
        by_cases hsq : sq = n0 + 1
        · have hq : (sq == n0 + 1) = true := by rw [beq_iff_eq]; exact hsq
          have hq2 : (sq != n0 + 1) = false := by rw [bne_eq_false_iff_eq]; exact hsq
          obtain ⟨ub, hub⟩ : ∃ b, b = underB ds ck := ⟨_, rfl⟩
          have HUq : Hid (ub = underB ds ck) := hub
          have HE5 : Hid (ww = if ub = false then 4 else
            if behindR L (⟨ac, ar, sq, ds, kd, nc, nr, pc, pr, fc, fr, nm, vl⟩ : Ch) = false then 2 else if room ≤ (L.length : Int) then 6 else 0) := by
            have := HE4.out
            rw [← hub] at this
            simp only [hsq, ne_eq, not_true_eq_false, false_or] at this
            exact this
          clear hub HE4 hsq
          go_upto_region 9 with fail
          refine wp_region_held_drew (S := fun W' => KeptC w w.heap.size [.int .i64 ac, .int .i64 ar, .int .i64 sq, .slice a0 ds.length c0, .int .i64 kd, .int .i64 nc, .int .i64 nr, .int .i64 pc, .int .i64 pr, .int .i64 fc, .int .i64 fr, .string nm, .string vl] W') (by kernel_rfl) HK2.out.drew (fun hHeld => ?_)
          obtain ⟨Uc9u0, eW⟩ : ∃ X, X = W5.drew := ⟨_, rfl⟩
          have hb : Below W5.heap.size W5 Uc9u0 := by rw [eW]; exact (Below.refl _ _).drew
          replace HIk : Hid (IsI Uc9u0 (.slice a5 ck.length c5) ck) := HIk.out.below hb
          rw [← eW] at hHeld ⊢
          clear eW hb
          refine wpAnyH_take (i := 0) (oi := ⟨some 42, _, _, _, _, _⟩) (v := ?vc9ux0) rfl (by kernel_rfl) (by kernel_rfl) (by kernel_rfl) (fun _ _ _ h => h) (Or.inl ⟨by rfl, ?hyc9ux0⟩) hHeld ?restc9ux0
          case hyc9ux0 => (intro w _; go_simp; try with_reducible rfl)
          simp only [Act.put, List.setIfInBounds_toArray, List.set_cons_zero, List.set_cons_succ]
          refine wpAnyH_take (i := 1) (oi := ⟨some 43, _, _, _, _, _⟩) (v := ?vc9ux1) rfl (by kernel_rfl) (by kernel_rfl) (by kernel_rfl) (fun _ _ _ h => h) (Or.inl ⟨by rfl, ?hyc9ux1⟩) hHeld ?restc9ux1
          case hyc9ux1 => (intro w hSw; (try dsimp only at hSw); have hk := hSw; obtain ⟨k_0, k_1, k_2, k_3, k_4, k_5, k_6, k_7, k_8, k_9, k_10, k_11, k_12⟩ := hk.all; go_simp; try with_reducible rfl)
          simp only [Act.put, List.setIfInBounds_toArray, List.set_cons_zero, List.set_cons_succ]
          refine wpAnyH_take (i := 2) (oi := ⟨some 44, _, _, _, _, _⟩) (v := ?vc9ux2) rfl (by kernel_rfl) (by kernel_rfl) (by kernel_rfl) (fun _ _ _ h => h) (Or.inl ⟨by rfl, ?hyc9ux2⟩) hHeld ?restc9ux2
          case hyc9ux2 => (intro w _; go_simp; try with_reducible rfl)
          simp only [Act.put, List.setIfInBounds_toArray, List.set_cons_zero, List.set_cons_succ]
          refine wpAnyH_take (i := 3) (oi := ⟨some 45, _, _, _, _, _⟩) (v := ?vc9ux3) rfl (by kernel_rfl) (by kernel_rfl) (by kernel_rfl) (fun _ _ _ h => h) (Or.inl ⟨by rfl, ?hyc9ux3⟩) hHeld ?restc9ux3
          case hyc9ux3 => (intro w _; go_simp; try with_reducible rfl)
          simp only [Act.put, List.setIfInBounds_toArray, List.set_cons_zero, List.set_cons_succ]
          refine wpAnyH_take (i := 4) (oi := ⟨some 46, _, _, _, _, _⟩) (v := ?vc9ux4) rfl (by kernel_rfl) (by kernel_rfl) (by kernel_rfl) (fun _ _ _ h => h) (Or.inl ⟨by rfl, ?hyc9ux4⟩) hHeld ?restc9ux4
          case hyc9ux4 => (intro w _; go_simp; try with_reducible rfl)
          simp only [Act.put, List.setIfInBounds_toArray, List.set_cons_zero, List.set_cons_succ]
          refine wpAnyH_take (i := 5) (oi := ⟨some 47, _, _, _, _, _⟩) (v := ?vc9ux5) rfl (by kernel_rfl) (by kernel_rfl) (by kernel_rfl) (fun _ _ _ h => h) (Or.inl ⟨by rfl, ?hyc9ux5⟩) hHeld ?restc9ux5
          case hyc9ux5 => (intro w hSw; (try dsimp only at hSw); have hk := hSw; obtain ⟨k_0, k_1, k_2, k_3, k_4, k_5, k_6, k_7, k_8, k_9, k_10, k_11, k_12⟩ := hk.all; go_simp; try with_reducible rfl)
          simp only [Act.put, List.setIfInBounds_toArray, List.set_cons_zero, List.set_cons_succ]
          refine wpAnyH_ready (rs := [6]) (by kernel_rfl) (by simp) ?_
          refine AllReadyH.cons (o := ⟨some 48, _, _, _, _, _⟩) rfl (fun K hK => ?_) AllReadyH.nil
          go_simp
          refine (refAt_any _ ck ar _ HIk.out).mono ?_
          rintro e w' ⟨rfl, hw⟩
          replace hw := hw.symm
          subst hw
          rw [HAt.out]
          (try go_wp2_with fail)
          refine hK.out _ _ (hHeld) (fun hHeld2 => ?_)
          clear hK K hHeld
          have hHeld := hHeld2
          clear hHeld2
          (try simp only [Act.put, List.setIfInBounds_toArray, List.set_cons_zero, List.set_cons_succ])
          refine wpAnyH_take (i := 7) (oi := ⟨some 49, _, _, _, _, _⟩) (v := ?vc9u_6x7) rfl (by kernel_rfl) (by kernel_rfl) (by kernel_rfl) (fun _ _ _ h => h) (Or.inl ⟨by rfl, ?hyc9u_6x7⟩) hHeld ?restc9u_6x7
          case hyc9u_6x7 => (intro w hSw; (try dsimp only at hSw); have hk := hSw; obtain ⟨k_0, k_1, k_2, k_3, k_4, k_5, k_6, k_7, k_8, k_9, k_10, k_11, k_12⟩ := hk.all; go_simp; try with_reducible rfl)
          simp only [Act.put, List.setIfInBounds_toArray, List.set_cons_zero, List.set_cons_succ]
          refine wpAnyH_take (i := 8) (oi := ⟨some 50, _, _, _, _, _⟩) (v := ?vc9u_6x8) rfl (by kernel_rfl) (by kernel_rfl) (by kernel_rfl) (fun _ _ _ h => h) (Or.inl ⟨by rfl, ?hyc9u_6x8⟩) hHeld ?restc9u_6x8
          case hyc9u_6x8 => (intro w hSw; (try dsimp only at hSw); have hk := hSw; obtain ⟨k_0, k_1, k_2, k_3, k_4, k_5, k_6, k_7, k_8, k_9, k_10, k_11, k_12⟩ := hk.all; go_simp; try with_reducible rfl)
          simp only [Act.put, List.setIfInBounds_toArray, List.set_cons_zero, List.set_cons_succ]
          refine wpAnyH_take (i := 9) (oi := ⟨some 51, _, _, _, _, _⟩) (v := ?vc9u_6x9) rfl (by kernel_rfl) (by kernel_rfl) (by kernel_rfl) (fun _ _ _ h => h) (Or.inl ⟨by rfl, ?hyc9u_6x9⟩) hHeld ?restc9u_6x9
          case hyc9u_6x9 => (intro w _; go_simp; try with_reducible rfl)
          simp only [Act.put, List.setIfInBounds_toArray, List.set_cons_zero, List.set_cons_succ]
          refine wpAnyH_take (i := 10) (oi := ⟨some 52, _, _, _, _, _⟩) (v := ?vc9u_6x10) rfl (by kernel_rfl) (by kernel_rfl) (by kernel_rfl) (fun _ _ _ h => h) (Or.inl ⟨by rfl, ?hyc9u_6x10⟩) hHeld ?restc9u_6x10
          case hyc9u_6x10 => (intro w _; go_simp; try with_reducible rfl)
          simp only [Act.put, List.setIfInBounds_toArray, List.set_cons_zero, List.set_cons_succ]
          refine wpAnyH_take (i := 11) (oi := ⟨some 53, _, _, _, _, _⟩) (v := ?vc9u_6x11) rfl (by kernel_rfl) (by kernel_rfl) (by kernel_rfl) (fun _ _ _ h => h) (Or.inl ⟨by rfl, ?hyc9u_6x11⟩) hHeld ?restc9u_6x11
          case hyc9u_6x11 => (intro w hSw; (try dsimp only at hSw); have hk := hSw; obtain ⟨k_0, k_1, k_2, k_3, k_4, k_5, k_6, k_7, k_8, k_9, k_10, k_11, k_12⟩ := hk.all; go_simp; try with_reducible rfl)
          simp only [Act.put, List.setIfInBounds_toArray, List.set_cons_zero, List.set_cons_succ]
          refine wpAnyH_take (i := 12) (oi := ⟨some 54, _, _, _, _, _⟩) (v := ?vc9u_6x12) rfl (by kernel_rfl) (by kernel_rfl) (by kernel_rfl) (fun _ _ _ h => h) (Or.inl ⟨by rfl, ?hyc9u_6x12⟩) hHeld ?restc9u_6x12
          case hyc9u_6x12 => (intro w _; go_simp; try with_reducible rfl)
          simp only [Act.put, List.setIfInBounds_toArray, List.set_cons_zero, List.set_cons_succ]
          refine wpAnyH_ready (rs := [13]) (by kernel_rfl) (by simp) ?_
          refine AllReadyH.cons (o := ⟨some 55, _, _, _, _, _⟩) rfl (fun K hK => ?_) AllReadyH.nil
          go_simp
          refine (under_any _ _ ds ck _ (HIc.out.below hHeld.2.2) HIk.out).mono ?_
          rintro e Uc9u2 ⟨ele, hb⟩
          rw [← HUq.out] at ele
          subst ele
          (try go_wp2_with fail)
          refine hK.out _ _ (hHeld.step hb) (fun hHeld2 => ?_)
          clear hK K hHeld
          have hHeld := hHeld2
          clear hHeld2
          (try simp only [Act.put, List.setIfInBounds_toArray, List.set_cons_zero, List.set_cons_succ])
          replace HIk : Hid (IsI Uc9u2 (.slice a5 ck.length c5) ck) := HIk.out.below hb
          clear hb
          refine wpAnyH_take (i := 14) (oi := ⟨some 56, _, _, _, _, _⟩) (v := ?vc9u_6_13x14) rfl (by kernel_rfl) (by kernel_rfl) (by kernel_rfl) (fun _ _ _ h => h) (Or.inl ⟨by rfl, ?hyc9u_6_13x14⟩) hHeld ?restc9u_6_13x14
          case hyc9u_6_13x14 => (intro w _; go_simp; try with_reducible rfl)
          simp only [Act.put, List.setIfInBounds_toArray, List.set_cons_zero, List.set_cons_succ]
          refine wpAnyH_take (i := 15) (oi := ⟨some 57, _, _, _, _, _⟩) (v := ?vc9u_6_13x15) rfl (by kernel_rfl) (by kernel_rfl) (by kernel_rfl) (fun _ _ _ h => h) (Or.inl ⟨by rfl, ?hyc9u_6_13x15⟩) hHeld ?restc9u_6_13x15
          case hyc9u_6_13x15 => (intro w _; go_simp; try with_reducible rfl)
          simp only [Act.put, List.setIfInBounds_toArray, List.set_cons_zero, List.set_cons_succ]
          refine wpAnyH_done (by kernel_rfl) ?_ _
          have HK3 : Hid (KeptC w w.heap.size [.int .i64 ac, .int .i64 ar, .int .i64 sq, .slice a0 ds.length c0, .int .i64 kd, .int .i64 nc, .int .i64 nr, .int .i64 pc, .int .i64 pr, .int .i64 fc, .int .i64 fr, .string nm, .string vl] Uc9u2) := hHeld
          clear hHeld
          cases ub
          · have hw4 : Hid (ww = 4) := by rw [HE5.out]; exact (rfl : (4 : Int) = 4)
            go_wp2
            go_ret
            exact ⟨ret_i hw4.out.symm, HK3.out.2.2⟩
          · have HE6 : Hid (ww = if behindR L (⟨ac, ar, sq, ds, kd, nc, nr, pc, pr, fc, fr, nm, vl⟩ : Ch) = false then 2 else if room ≤ (L.length : Int) then 6 else 0) := HE5.out
            obtain ⟨k_0, k_1, k_2, k_3, k_4, k_5, k_6, k_7, k_8, k_9, k_10, k_11, k_12⟩ := HK3.out.all
            clear HE5 HUq
            go_wp2_with fail
            refine (refBehind_any _ L ac ar sq (.slice a0 ds.length c0) kd nc nr pc pr fc fr nm vl ds _ (HH.out.below HK3.out.2.2) (HIc.out.below HK3.out.2.2)).mono ?_
            rintro e W7 ⟨rfl, hb7⟩
            replace HK3 : Hid (KeptC w w.heap.size [.int .i64 ac, .int .i64 ar, .int .i64 sq, .slice a0 ds.length c0, .int .i64 kd, .int .i64 nc, .int .i64 nr, .int .i64 pc, .int .i64 pr, .int .i64 fc, .int .i64 fr, .string nm, .string vl] W7) := HK3.out.step hb7
            clear k_0 k_1 k_2 k_3 k_4 k_5 k_6 k_7 k_8 k_9 k_10 k_11 k_12 hb7
            generalize behindR L (⟨ac, ar, sq, ds, kd, nc, nr, pc, pr, fc, fr, nm, vl⟩ : Ch) = bb at *
            cases bb
            · have hw4 : Hid (ww = 2) := by rw [HE6.out]; exact (rfl : (2 : Int) = 2)
              go_wp2
              go_ret
              exact ⟨ret_i hw4.out.symm, HK3.out.2.2⟩
            · have HE7 : Hid (ww = if room ≤ (L.length : Int) then 6 else 0) := HE6.out
              clear HE6
              by_cases hr : room ≤ (L.length : Int)
              · have hw4 : Hid (ww = 6) := by rw [HE7.out, if_pos hr]; exact (rfl : (6 : Int) = 6)
                go_wp2
                go_ret
                exact ⟨ret_i hw4.out.symm, HK3.out.2.2⟩
              · have hw4 : Hid (ww = 0) := by rw [HE7.out, if_neg hr]; exact (rfl : (0 : Int) = 0)
                go_wp2
                go_ret
                exact ⟨ret_i hw4.out.symm, HK3.out.2.2⟩
        · have hq : (sq == n0 + 1) = false := by rw [beq_eq_false_iff_ne]; exact hsq
          have hq2 : (sq != n0 + 1) = true := by rw [bne_iff_ne]; exact hsq
          have hw4 : Hid (ww = 4) := by rw [HE4.out, if_pos (.inl hsq)]; exact (rfl : (4 : Int) = 4)
          clear hsq HE4
          go_upto_region 9 with fail
          refine wp_region_held_drew (S := fun W' => KeptC w w.heap.size [.int .i64 ac, .int .i64 ar, .int .i64 sq, .slice a0 ds.length c0, .int .i64 kd, .int .i64 nc, .int .i64 nr, .int .i64 pc, .int .i64 pr, .int .i64 fc, .int .i64 fr, .string nm, .string vl] W') (by kernel_rfl) HK2.out.drew (fun hHeld => ?_)
          obtain ⟨Ud10u0, eW⟩ : ∃ X, X = W5.drew := ⟨_, rfl⟩
          have hb : Below W5.heap.size W5 Ud10u0 := by rw [eW]; exact (Below.refl _ _).drew
          replace HIk : Hid (IsI Ud10u0 (.slice a5 ck.length c5) ck) := HIk.out.below hb
          rw [← eW] at hHeld ⊢
          clear eW hb
          refine wpAnyH_take (i := 0) (oi := ⟨some 42, _, _, _, _, _⟩) (v := ?vd10ux0) rfl (by kernel_rfl) (by kernel_rfl) (by kernel_rfl) (fun _ _ _ h => h) (Or.inl ⟨by rfl, ?hyd10ux0⟩) hHeld ?restd10ux0
          case hyd10ux0 => (intro w _; go_simp; try with_reducible rfl)
          simp only [Act.put, List.setIfInBounds_toArray, List.set_cons_zero, List.set_cons_succ]
          refine wpAnyH_take (i := 1) (oi := ⟨some 43, _, _, _, _, _⟩) (v := ?vd10ux1) rfl (by kernel_rfl) (by kernel_rfl) (by kernel_rfl) (fun _ _ _ h => h) (Or.inl ⟨by rfl, ?hyd10ux1⟩) hHeld ?restd10ux1
          case hyd10ux1 => (intro w hSw; (try dsimp only at hSw); have hk := hSw; obtain ⟨k_0, k_1, k_2, k_3, k_4, k_5, k_6, k_7, k_8, k_9, k_10, k_11, k_12⟩ := hk.all; go_simp; try with_reducible rfl)
          simp only [Act.put, List.setIfInBounds_toArray, List.set_cons_zero, List.set_cons_succ]
          refine wpAnyH_take (i := 2) (oi := ⟨some 44, _, _, _, _, _⟩) (v := ?vd10ux2) rfl (by kernel_rfl) (by kernel_rfl) (by kernel_rfl) (fun _ _ _ h => h) (Or.inl ⟨by rfl, ?hyd10ux2⟩) hHeld ?restd10ux2
          case hyd10ux2 => (intro w _; go_simp; try with_reducible rfl)
          simp only [Act.put, List.setIfInBounds_toArray, List.set_cons_zero, List.set_cons_succ]
          refine wpAnyH_take (i := 3) (oi := ⟨some 45, _, _, _, _, _⟩) (v := ?vd10ux3) rfl (by kernel_rfl) (by kernel_rfl) (by kernel_rfl) (fun _ _ _ h => h) (Or.inl ⟨by rfl, ?hyd10ux3⟩) hHeld ?restd10ux3
          case hyd10ux3 => (intro w _; go_simp; try with_reducible rfl)
          simp only [Act.put, List.setIfInBounds_toArray, List.set_cons_zero, List.set_cons_succ]
          refine wpAnyH_take (i := 4) (oi := ⟨some 46, _, _, _, _, _⟩) (v := ?vd10ux4) rfl (by kernel_rfl) (by kernel_rfl) (by kernel_rfl) (fun _ _ _ h => h) (Or.inl ⟨by rfl, ?hyd10ux4⟩) hHeld ?restd10ux4
          case hyd10ux4 => (intro w _; go_simp; try with_reducible rfl)
          simp only [Act.put, List.setIfInBounds_toArray, List.set_cons_zero, List.set_cons_succ]
          refine wpAnyH_take (i := 5) (oi := ⟨some 47, _, _, _, _, _⟩) (v := ?vd10ux5) rfl (by kernel_rfl) (by kernel_rfl) (by kernel_rfl) (fun _ _ _ h => h) (Or.inl ⟨by rfl, ?hyd10ux5⟩) hHeld ?restd10ux5
          case hyd10ux5 => (intro w hSw; (try dsimp only at hSw); have hk := hSw; obtain ⟨k_0, k_1, k_2, k_3, k_4, k_5, k_6, k_7, k_8, k_9, k_10, k_11, k_12⟩ := hk.all; go_simp; try with_reducible rfl)
          simp only [Act.put, List.setIfInBounds_toArray, List.set_cons_zero, List.set_cons_succ]
          refine wpAnyH_ready (rs := [6]) (by kernel_rfl) (by simp) ?_
          refine AllReadyH.cons (o := ⟨some 48, _, _, _, _, _⟩) rfl (fun K hK => ?_) AllReadyH.nil
          go_simp
          refine (refAt_any _ ck ar _ HIk.out).mono ?_
          rintro e w' ⟨rfl, hw⟩
          replace hw := hw.symm
          subst hw
          rw [HAt.out]
          (try go_wp2_with fail)
          refine hK.out _ _ (hHeld) (fun hHeld2 => ?_)
          clear hK K hHeld
          have hHeld := hHeld2
          clear hHeld2
          (try simp only [Act.put, List.setIfInBounds_toArray, List.set_cons_zero, List.set_cons_succ])
          refine wpAnyH_take (i := 7) (oi := ⟨some 49, _, _, _, _, _⟩) (v := ?vd10u_6x7) rfl (by kernel_rfl) (by kernel_rfl) (by kernel_rfl) (fun _ _ _ h => h) (Or.inl ⟨by rfl, ?hyd10u_6x7⟩) hHeld ?restd10u_6x7
          case hyd10u_6x7 => (intro w hSw; (try dsimp only at hSw); have hk := hSw; obtain ⟨k_0, k_1, k_2, k_3, k_4, k_5, k_6, k_7, k_8, k_9, k_10, k_11, k_12⟩ := hk.all; go_simp; try with_reducible rfl)
          simp only [Act.put, List.setIfInBounds_toArray, List.set_cons_zero, List.set_cons_succ]
          refine wpAnyH_take (i := 8) (oi := ⟨some 50, _, _, _, _, _⟩) (v := ?vd10u_6x8) rfl (by kernel_rfl) (by kernel_rfl) (by kernel_rfl) (fun _ _ _ h => h) (Or.inl ⟨by rfl, ?hyd10u_6x8⟩) hHeld ?restd10u_6x8
          case hyd10u_6x8 => (intro w hSw; (try dsimp only at hSw); have hk := hSw; obtain ⟨k_0, k_1, k_2, k_3, k_4, k_5, k_6, k_7, k_8, k_9, k_10, k_11, k_12⟩ := hk.all; go_simp; try with_reducible rfl)
          simp only [Act.put, List.setIfInBounds_toArray, List.set_cons_zero, List.set_cons_succ]
          refine wpAnyH_take (i := 9) (oi := ⟨some 51, _, _, _, _, _⟩) (v := ?vd10u_6x9) rfl (by kernel_rfl) (by kernel_rfl) (by kernel_rfl) (fun _ _ _ h => h) (Or.inl ⟨by rfl, ?hyd10u_6x9⟩) hHeld ?restd10u_6x9
          case hyd10u_6x9 => (intro w _; go_simp; try with_reducible rfl)
          simp only [Act.put, List.setIfInBounds_toArray, List.set_cons_zero, List.set_cons_succ]
          refine wpAnyH_take (i := 10) (oi := ⟨some 52, _, _, _, _, _⟩) (v := undef) rfl (by kernel_rfl) (by kernel_rfl) (by kernel_rfl) (fun _ _ _ h => h) (Or.inr ⟨by rfl, rfl⟩) hHeld ?_
          simp only [Act.put, List.setIfInBounds_toArray, List.set_cons_zero, List.set_cons_succ]
          refine wpAnyH_take (i := 11) (oi := ⟨some 53, _, _, _, _, _⟩) (v := undef) rfl (by kernel_rfl) (by kernel_rfl) (by kernel_rfl) (fun _ _ _ h => h) (Or.inr ⟨by rfl, rfl⟩) hHeld ?_
          simp only [Act.put, List.setIfInBounds_toArray, List.set_cons_zero, List.set_cons_succ]
          refine wpAnyH_take (i := 12) (oi := ⟨some 54, _, _, _, _, _⟩) (v := undef) rfl (by kernel_rfl) (by kernel_rfl) (by kernel_rfl) (fun _ _ _ h => h) (Or.inr ⟨by rfl, rfl⟩) hHeld ?_
          simp only [Act.put, List.setIfInBounds_toArray, List.set_cons_zero, List.set_cons_succ]
          refine wpAnyH_take (i := 13) (oi := ⟨some 55, _, _, _, _, _⟩) (v := undef) rfl (by kernel_rfl) (by kernel_rfl) (by kernel_rfl) (fun _ _ _ h => h) (Or.inr ⟨by rfl, rfl⟩) hHeld ?_
          simp only [Act.put, List.setIfInBounds_toArray, List.set_cons_zero, List.set_cons_succ]
          refine wpAnyH_take (i := 14) (oi := ⟨some 56, _, _, _, _, _⟩) (v := undef) rfl (by kernel_rfl) (by kernel_rfl) (by kernel_rfl) (fun _ _ _ h => h) (Or.inr ⟨by rfl, rfl⟩) hHeld ?_
          simp only [Act.put, List.setIfInBounds_toArray, List.set_cons_zero, List.set_cons_succ]
          refine wpAnyH_take (i := 15) (oi := ⟨some 57, _, _, _, _, _⟩) (v := ?vd10u_6x15) rfl (by kernel_rfl) (by kernel_rfl) (by kernel_rfl) (fun _ _ _ h => h) (Or.inl ⟨by rfl, ?hyd10u_6x15⟩) hHeld ?restd10u_6x15
          case hyd10u_6x15 => (intro w _; go_simp; try with_reducible rfl)
          simp only [Act.put, List.setIfInBounds_toArray, List.set_cons_zero, List.set_cons_succ]
          refine wpAnyH_done (by kernel_rfl) ?_ _
          have HK3 : Hid (KeptC w w.heap.size [.int .i64 ac, .int .i64 ar, .int .i64 sq, .slice a0 ds.length c0, .int .i64 kd, .int .i64 nc, .int .i64 nr, .int .i64 pc, .int .i64 pr, .int .i64 fc, .int .i64 fr, .string nm, .string vl] Ud10u0) := hHeld
          clear hHeld
          go_wp2
          go_ret
          exact ⟨ret_i hw4.out.symm, HK3.out.2.2⟩
      · rw [e1]
        have hw4 : Hid (ww = 7) := by rw [HE3.out, e2]; exact (rfl : (7 : Int) = 7)
        have j0 : (0 : Int) ≤ (j : Int) := by omega
        clear e1 e2 HE3
        go_wp2
        go_ret
        exact ⟨ret_i hw4.out.symm, HK4.out.2.2⟩
    · rw [e1]
      obtain ⟨b1, o1, rfl, g1⟩ := HR.out.resolve_left (by intro e; subst e; simp at hj)
      have hV : ww = if sameB L[j] (⟨ac, ar, sq, ds, kd, nc, nr, pc, pr, fc, fr, nm, vl⟩ : Ch) = true then 5 else 7 := by rw [HE2.out, e2]
      obtain ⟨a2, e2', i2, _, z⟩ := (g1 j hj).all
      have hp : ∀ W', Below w.heap.size w W' → W'.cell? ⟨b1, o1 + j * 13, none⟩ = some (.int .i64 L[j].ac) ∧ W'.cell? ⟨b1, o1 + j * 13 + 1, none⟩ = some (.int .i64 L[j].ar) ∧ W'.cell? ⟨b1, o1 + j * 13 + 2, none⟩ = some (.int .i64 L[j].seq) ∧ W'.cell? ⟨b1, o1 + j * 13 + 3, none⟩ = some (.slice a2 L[j].deps.length e2') ∧ W'.cell? ⟨b1, o1 + j * 13 + 4, none⟩ = some (.int .i64 L[j].kind) ∧ W'.cell? ⟨b1, o1 + j * 13 + 5, none⟩ = some (.int .i64 L[j].nc) ∧ W'.cell? ⟨b1, o1 + j * 13 + 6, none⟩ = some (.int .i64 L[j].nr) ∧ W'.cell? ⟨b1, o1 + j * 13 + 7, none⟩ = some (.int .i64 L[j].pc) ∧ W'.cell? ⟨b1, o1 + j * 13 + 8, none⟩ = some (.int .i64 L[j].pr) ∧ W'.cell? ⟨b1, o1 + j * 13 + 9, none⟩ = some (.int .i64 L[j].fc) ∧ W'.cell? ⟨b1, o1 + j * 13 + 10, none⟩ = some (.int .i64 L[j].fr) ∧ W'.cell? ⟨b1, o1 + j * 13 + 11, none⟩ = some (.string L[j].name) ∧ W'.cell? ⟨b1, o1 + j * 13 + 12, none⟩ = some (.string L[j].value) := fun W' hb => by
        have hb1 : b1 < w.heap.size := (g1 j hj).lt
        obtain ⟨z0, z1, z2, z3, z4, z5, z6, z7, z8, z9, z10, z11, z12⟩ := z
        exact ⟨(hb.cell (p := ⟨b1, o1 + j * 13, none⟩) hb1).trans z0, (hb.cell (p := ⟨b1, o1 + j * 13 + 1, none⟩) hb1).trans z1, (hb.cell (p := ⟨b1, o1 + j * 13 + 2, none⟩) hb1).trans z2, (hb.cell (p := ⟨b1, o1 + j * 13 + 3, none⟩) hb1).trans z3, (hb.cell (p := ⟨b1, o1 + j * 13 + 4, none⟩) hb1).trans z4, (hb.cell (p := ⟨b1, o1 + j * 13 + 5, none⟩) hb1).trans z5, (hb.cell (p := ⟨b1, o1 + j * 13 + 6, none⟩) hb1).trans z6, (hb.cell (p := ⟨b1, o1 + j * 13 + 7, none⟩) hb1).trans z7, (hb.cell (p := ⟨b1, o1 + j * 13 + 8, none⟩) hb1).trans z8, (hb.cell (p := ⟨b1, o1 + j * 13 + 9, none⟩) hb1).trans z9, (hb.cell (p := ⟨b1, o1 + j * 13 + 10, none⟩) hb1).trans z10, (hb.cell (p := ⟨b1, o1 + j * 13 + 11, none⟩) hb1).trans z11, (hb.cell (p := ⟨b1, o1 + j * 13 + 12, none⟩) hb1).trans z12⟩
      obtain ⟨⟨ac2, ar2, sq2, ds2, kd2, nc2, nr2, pc2, pr2, fc2, fr2, nm2, vl2⟩, ec2⟩ : ∃ c, c = L[j] := ⟨_, rfl⟩
      rw [← ec2] at hV hp i2
      simp only at hp
      have HI2 : Hid (∀ W', Below w.heap.size w W' → IsI W' (.slice a2 ds2.length e2') ds2) := fun W' hb => IsI.below i2 hb
      have HP : Hid (∀ W', Below w.heap.size w W' → W'.cell? ⟨b1, o1 + j * 13, none⟩ = some (.int .i64 ac2) ∧ W'.cell? ⟨b1, o1 + j * 13 + 1, none⟩ = some (.int .i64 ar2) ∧ W'.cell? ⟨b1, o1 + j * 13 + 2, none⟩ = some (.int .i64 sq2) ∧ W'.cell? ⟨b1, o1 + j * 13 + 3, none⟩ = some (.slice a2 ds2.length e2') ∧ W'.cell? ⟨b1, o1 + j * 13 + 4, none⟩ = some (.int .i64 kd2) ∧ W'.cell? ⟨b1, o1 + j * 13 + 5, none⟩ = some (.int .i64 nc2) ∧ W'.cell? ⟨b1, o1 + j * 13 + 6, none⟩ = some (.int .i64 nr2) ∧ W'.cell? ⟨b1, o1 + j * 13 + 7, none⟩ = some (.int .i64 pc2) ∧ W'.cell? ⟨b1, o1 + j * 13 + 8, none⟩ = some (.int .i64 pr2) ∧ W'.cell? ⟨b1, o1 + j * 13 + 9, none⟩ = some (.int .i64 fc2) ∧ W'.cell? ⟨b1, o1 + j * 13 + 10, none⟩ = some (.int .i64 fr2) ∧ W'.cell? ⟨b1, o1 + j * 13 + 11, none⟩ = some (.string nm2) ∧ W'.cell? ⟨b1, o1 + j * 13 + 12, none⟩ = some (.string vl2)) := hp
      obtain ⟨sb, hsb⟩ : ∃ b, b = sameB (⟨ac2, ar2, sq2, ds2, kd2, nc2, nr2, pc2, pr2, fc2, fr2, nm2, vl2⟩ : Ch) (⟨ac, ar, sq, ds, kd, nc, nr, pc, pr, fc, fr, nm, vl⟩ : Ch) := ⟨_, rfl⟩
      rw [← hsb] at hV
      have HSq : Hid (sb = sameB (⟨ac2, ar2, sq2, ds2, kd2, nc2, nr2, pc2, pr2, fc2, fr2, nm2, vl2⟩ : Ch) (⟨ac, ar, sq, ds, kd, nc, nr, pc, pr, fc, fr, nm, vl⟩ : Ch)) := hsb
      have HV : Hid (ww = if sb = true then 5 else 7) := hV
      have j1 : (j : Int) < (L.length : Int) := by omega
      have j0 : (0 : Int) ≤ (j : Int) := by omega
      have j2 : decide ((0 : Int) ≤ (j : Int)) = true := decide_eq_true j0
      clear e1 e2 HE2 hV hp g1 z ec2 i2 hsb
      go_upto_region 4 with fail
      refine wp_region_held_drew (S := fun W' => KeptC w w.heap.size [.int .i64 ac, .int .i64 ar, .int .i64 sq, .slice a0 ds.length c0, .int .i64 kd, .int .i64 nc, .int .i64 nr, .int .i64 pc, .int .i64 pr, .int .i64 fc, .int .i64 fr, .string nm, .string vl] W') (by kernel_rfl) HK2.out.drew (fun hHeld => ?_)
      obtain ⟨Ua7u0, eW⟩ : ∃ X, X = W2.drew := ⟨_, rfl⟩
      have hb : Below W2.heap.size W2 Ua7u0 := by rw [eW]; exact (Below.refl _ _).drew
      rw [← eW] at hHeld ⊢
      clear eW hb
      refine wpAnyH_take (i := 0) (oi := ⟨some 18, _, _, _, _, _⟩) (v := ?va7ux0) rfl (by kernel_rfl) (by kernel_rfl) (by kernel_rfl) (fun _ _ _ h => h) (Or.inl ⟨by rfl, ?hya7ux0⟩) hHeld ?resta7ux0
      case hya7ux0 => (intro w _; go_simp; try with_reducible rfl)
      simp only [Act.put, List.setIfInBounds_toArray, List.set_cons_zero, List.set_cons_succ]
      refine wpAnyH_take (i := 1) (oi := ⟨some 19, _, _, _, _, _⟩) (v := ?va7ux1) rfl (by kernel_rfl) (by kernel_rfl) (by kernel_rfl) (fun _ _ _ h => h) (Or.inl ⟨by rfl, ?hya7ux1⟩) hHeld ?resta7ux1
      case hya7ux1 => (intro w hSw; (try dsimp only at hSw); have hk := hSw; obtain ⟨k_0, k_1, k_2, k_3, k_4, k_5, k_6, k_7, k_8, k_9, k_10, k_11, k_12⟩ := hk.all; obtain ⟨p_0, p_1, p_2, p_3, p_4, p_5, p_6, p_7, p_8, p_9, p_10, p_11, p_12⟩ := HP.out _ hk.2.2; go_simp; try with_reducible rfl)
      simp only [Act.put, List.setIfInBounds_toArray, List.set_cons_zero, List.set_cons_succ]
      refine wpAnyH_take (i := 2) (oi := ⟨some 20, _, _, _, _, _⟩) (v := ?va7ux2) rfl (by kernel_rfl) (by kernel_rfl) (by kernel_rfl) (fun _ _ _ h => h) (Or.inl ⟨by rfl, ?hya7ux2⟩) hHeld ?resta7ux2
      case hya7ux2 => (intro w _; go_simp; try with_reducible rfl)
      simp only [Act.put, List.setIfInBounds_toArray, List.set_cons_zero, List.set_cons_succ]
      refine wpAnyH_take (i := 3) (oi := ⟨some 21, _, _, _, _, _⟩) (v := ?va7ux3) rfl (by kernel_rfl) (by kernel_rfl) (by kernel_rfl) (fun _ _ _ h => h) (Or.inl ⟨by rfl, ?hya7ux3⟩) hHeld ?resta7ux3
      case hya7ux3 => (intro w _; go_simp; try with_reducible rfl)
      simp only [Act.put, List.setIfInBounds_toArray, List.set_cons_zero, List.set_cons_succ]
      refine wpAnyH_take (i := 4) (oi := ⟨some 22, _, _, _, _, _⟩) (v := ?va7ux4) rfl (by kernel_rfl) (by kernel_rfl) (by kernel_rfl) (fun _ _ _ h => h) (Or.inl ⟨by rfl, ?hya7ux4⟩) hHeld ?resta7ux4
      case hya7ux4 => (intro w _; go_simp; try with_reducible rfl)
      simp only [Act.put, List.setIfInBounds_toArray, List.set_cons_zero, List.set_cons_succ]
      refine wpAnyH_take (i := 5) (oi := ⟨some 23, _, _, _, _, _⟩) (v := ?va7ux5) rfl (by kernel_rfl) (by kernel_rfl) (by kernel_rfl) (fun _ _ _ h => h) (Or.inl ⟨by rfl, ?hya7ux5⟩) hHeld ?resta7ux5
      case hya7ux5 => (intro w hSw; (try dsimp only at hSw); have hk := hSw; obtain ⟨k_0, k_1, k_2, k_3, k_4, k_5, k_6, k_7, k_8, k_9, k_10, k_11, k_12⟩ := hk.all; obtain ⟨p_0, p_1, p_2, p_3, p_4, p_5, p_6, p_7, p_8, p_9, p_10, p_11, p_12⟩ := HP.out _ hk.2.2; go_simp; try with_reducible rfl)
      simp only [Act.put, List.setIfInBounds_toArray, List.set_cons_zero, List.set_cons_succ]
      refine wpAnyH_take (i := 6) (oi := ⟨some 24, _, _, _, _, _⟩) (v := ?va7ux6) rfl (by kernel_rfl) (by kernel_rfl) (by kernel_rfl) (fun _ _ _ h => h) (Or.inl ⟨by rfl, ?hya7ux6⟩) hHeld ?resta7ux6
      case hya7ux6 => (intro w hSw; (try dsimp only at hSw); have hk := hSw; obtain ⟨k_0, k_1, k_2, k_3, k_4, k_5, k_6, k_7, k_8, k_9, k_10, k_11, k_12⟩ := hk.all; obtain ⟨p_0, p_1, p_2, p_3, p_4, p_5, p_6, p_7, p_8, p_9, p_10, p_11, p_12⟩ := HP.out _ hk.2.2; go_simp; try with_reducible rfl)
      simp only [Act.put, List.setIfInBounds_toArray, List.set_cons_zero, List.set_cons_succ]
      refine wpAnyH_take (i := 7) (oi := ⟨some 25, _, _, _, _, _⟩) (v := ?va7ux7) rfl (by kernel_rfl) (by kernel_rfl) (by kernel_rfl) (fun _ _ _ h => h) (Or.inl ⟨by rfl, ?hya7ux7⟩) hHeld ?resta7ux7
      case hya7ux7 => (intro w hSw; (try dsimp only at hSw); have hk := hSw; obtain ⟨k_0, k_1, k_2, k_3, k_4, k_5, k_6, k_7, k_8, k_9, k_10, k_11, k_12⟩ := hk.all; obtain ⟨p_0, p_1, p_2, p_3, p_4, p_5, p_6, p_7, p_8, p_9, p_10, p_11, p_12⟩ := HP.out _ hk.2.2; go_simp; try with_reducible rfl)
      simp only [Act.put, List.setIfInBounds_toArray, List.set_cons_zero, List.set_cons_succ]
      refine wpAnyH_ready (rs := [8]) (by kernel_rfl) (by simp) ?_
      refine AllReadyH.cons (o := ⟨some 26, _, _, _, _, _⟩) rfl (fun K hK => ?_) AllReadyH.nil
      go_simp
      refine (refSameCh_any ac2 ar2 sq2 (.slice a2 ds2.length e2') kd2 nc2 nr2 pc2 pr2 fc2 fr2 nm2 vl2 ac ar sq (.slice a0 ds.length c0) kd nc nr pc pr fc fr nm vl ds2 ds _ (HI2.out _ hHeld.2.2) (HIc.out.below hHeld.2.2)).mono ?_
      rintro e Ua7u1 ⟨ele, hb⟩
      rw [← HSq.out] at ele
      subst ele
      (try go_wp2_with fail)
      refine hK.out _ _ (hHeld.step hb) (fun hHeld2 => ?_)
      clear hK K hHeld
      have hHeld := hHeld2
      clear hHeld2
      (try simp only [Act.put, List.setIfInBounds_toArray, List.set_cons_zero, List.set_cons_succ])
      clear hb
      refine wpAnyH_take (i := 9) (oi := ⟨some 27, _, _, _, _, _⟩) (v := ?va7u_8x9) rfl (by kernel_rfl) (by kernel_rfl) (by kernel_rfl) (fun _ _ _ h => h) (Or.inl ⟨by rfl, ?hya7u_8x9⟩) hHeld ?resta7u_8x9
      case hya7u_8x9 => (intro w _; go_simp; try with_reducible rfl)
      simp only [Act.put, List.setIfInBounds_toArray, List.set_cons_zero, List.set_cons_succ]
      refine wpAnyH_done (by kernel_rfl) ?_ _
      have HK3 : Hid (KeptC w w.heap.size [.int .i64 ac, .int .i64 ar, .int .i64 sq, .slice a0 ds.length c0, .int .i64 kd, .int .i64 nc, .int .i64 nr, .int .i64 pc, .int .i64 pr, .int .i64 fc, .int .i64 fr, .string nm, .string vl] Ua7u1) := hHeld
      clear hHeld
      cases sb
      · have hw4 : Hid (ww = 7) := by rw [HV.out]; exact (rfl : (7 : Int) = 7)
        go_wp2
        go_ret
        exact ⟨ret_i hw4.out.symm, HK3.out.2.2⟩
      · have hw4 : Hid (ww = 5) := by rw [HV.out]; exact (rfl : (5 : Int) = 5)
        go_wp2
        go_ret
        exact ⟨ret_i hw4.out.symm, HK3.out.2.2⟩
  · have HE2 : Hid (ww = checkCh (⟨ac, ar, sq, ds, kd, nc, nr, pc, pr, fc, fr, nm, vl⟩ : Ch)) := by rw [HE.out, if_pos hck]; exact (rfl : checkCh (⟨ac, ar, sq, ds, kd, nc, nr, pc, pr, fc, fr, nm, vl⟩ : Ch) = _)
    have HC2 : Hid (∀ W, Below w.heap.size w W → Calls Tryz.prog 50 #[.agg #[.int .i64 ac, .int .i64 ar, .int .i64 sq, .slice a0 ds.length c0, .int .i64 kd, .int .i64 nc, .int .i64 nr, .int .i64 pc, .int .i64 pr, .int .i64 fc, .int .i64 fr, .string nm, .string vl]] W fun e w' => e = .returned (.int .i64 (checkCh (⟨ac, ar, sq, ds, kd, nc, nr, pc, pr, fc, fr, nm, vl⟩ : Ch))) ∧ Below W.heap.size W w') := fun W hb => refCheckCh_any ac ar sq (.slice a0 ds.length c0) kd nc nr pc pr fc fr nm vl ds HSz.out.1 W (HIc.out.below hb)
    generalize checkCh (⟨ac, ar, sq, ds, kd, nc, nr, pc, pr, fc, fr, nm, vl⟩ : Ch) = cc at *
    have hq : (cc == 0) = false := by rw [beq_eq_false_iff_ne]; exact hck
    have hq2 : (cc != 0) = true := by rw [bne_iff_ne]; exact hck
    clear HE hck
    go_wp2_with fail
    refine (HC2.out _ HK1.out.2.2).mono ?_
    rintro e W2 ⟨rfl, hb2⟩
    have HB2 : Hid (Below w.heap.size w W2) := (HK1.out.step hb2).2.2
    clear hb2 k_0 k_1 k_2 k_3 k_4 k_5 k_6 k_7 k_8 k_9 k_10 k_11 k_12 HK1
    go_wp2
    go_ret
    exact ⟨ret_i HE2.out.symm, HB2.out⟩

end Go.Proofs.YtckipepodohnpaaGreat
