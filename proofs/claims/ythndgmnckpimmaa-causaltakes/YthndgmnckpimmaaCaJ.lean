/- The document's next, before, put. -/
import Derived.Test.YthndgmnckpimmaaCaI
import Derived.Test.YthndgmnckpimmaaIdE
namespace Go.Proofs.Ythndgmnckpimmaa
open Go.RowKit
set_option linter.unusedVariables false
set_option linter.unusedSimpArgs false

def nextP (kn : List Int) (L : List Ch) : Int := match L.findIdx? (readyB kn) with | some k => (k : Int) | none => -1
theorem nextP_at {kn : List Int} {L : List Ch} {k : Nat} (hk : k < L.length) (h : ∀ j (hj : j < L.length), j < k → readyB kn L[j] = false) (hr : readyB kn L[k] = true) : nextP kn L = k := by
  unfold nextP
  have : L.findIdx? (readyB kn) = some k := List.findIdx?_eq_some_iff_getElem.2 ⟨hk, hr, fun j hj => by simp [h j (by omega) hj]⟩
  rw [this]
theorem nextP_none {kn : List Int} {L : List Ch} (h : ∀ j (hj : j < L.length), readyB kn L[j] = false) : nextP kn L = -1 := by
  unfold nextP
  have : L.findIdx? (readyB kn) = none := List.findIdx?_eq_none_iff.2 fun x hx => by
    obtain ⟨j, hj, rfl⟩ := List.getElem_of_mem hx
    exact h j hj
  rw [this]

set_option maxRecDepth 100000 in
set_option maxHeartbeats 4000000 in
theorem refNext_any (kv : Value) (kn : List Int) (v : Value) (L : List Ch) (w : World) (hk : IsI w kv kn) (hko : OkC kn) (h : IsH w v L) (hr : ∀ c ∈ L, checkCh c = 0) :
    Calls Try.prog 32 #[kv, v] w fun e w' => e = .returned (.int .i64 (nextP kn L)) ∧ Below w.heap.size w w' := by
  obtain ⟨a0, c0, e0⟩ := hk.form
  subst e0
  have HIk : Hid (IsI w (.slice a0 kn.length c0) kn) := hk
  have HR : Hid (∀ c ∈ L, checkCh c = 0) := hr
  obtain ⟨a1, c1, rfl, hc1, hl1, hrow⟩ := h
  have HRow : Hid (L = [] ∨ ∃ b o, a1 = some ⟨b, o, none⟩ ∧ ChsAt w b o L) := hrow
  clear hk hr hrow
  go_enter Try.func32, Try.ntmps32
  go_wp2
  go_loopw [5] (fun iv wr => ∃ k : Nat, k ≤ L.length ∧ iv = .int .i64 (k : Int) ∧ Hid (∀ j (hj : j < L.length), j < k → readyB kn L[j] = false) ∧ Hid (Below w.heap.size w wr)) (fun iv _ => L.length - (intOf iv).toNat)
  case atStart => exact ⟨0, Nat.zero_le _, rfl, fun j _ h => absurd h (Nat.not_lt_zero _), Below.refl _ _⟩
  case round =>
    obtain ⟨k, hkl, rfl, HN, HB⟩ := hrel
    by_cases hlt : k < L.length
    · obtain ⟨b, o, rfl, hrow2⟩ := HRow.out.resolve_left (by intro e; subst e; simp at hlt)
      obtain ⟨a3, c3, hI3, hS3, k_0, k_1, k_2, k_3, k_4, k_5, k_6, k_7, k_8, k_9, k_10, k_11, k_12⟩ := ((hrow2 k hlt).below HB.out).all
      have HI3 : Hid (IsI wr (.slice a3 L[k].deps.length c3) L[k].deps) := hI3
      have HC3 : Hid (checkCh L[k] = 0) := HR.out _ (List.getElem_mem hlt)
      have HAt : Hid (readyB kn L[k] = true → nextP kn L = k) := nextP_at hlt HN.out
      have HNn : Hid (readyB kn L[k] = false → ∀ j (hj : j < L.length), j < k + 1 → readyB kn L[j] = false) := fun hf j hj hj2 => by
        by_cases e : j < k
        · exact HN.out j hj e
        · obtain rfl : j = k := by omega
          exact hf
      have i1 : (k : Int) < (L.length : Int) := by omega
      have i0 : (0 : Int) ≤ (k : Int) := by omega
      clear hrow2 hI3 hS3 HN
      generalize L[k] = x at *
      obtain ⟨ac, ar, sq, ds, kd, nc, nr, pc, pr, fc, fr, nm, vl⟩ := x
      simp only at k_0 k_1 k_2 k_3 k_4 k_5 k_6 k_7 k_8 k_9 k_10 k_11 k_12 HI3
      go_wp2_with fail
      clear k_0 k_1 k_2 k_3 k_4 k_5 k_6 k_7 k_8 k_9 k_10 k_11 k_12
      refine (ripe_any ac ar sq (.slice a3 ds.length c3) kd nc nr pc pr fc fr nm vl ds _ kn _ (HIk.out.below HB.out) HI3.out hko (by have h1 := right_of HC3.out; simp only at h1; omega)).mono ?_
      rintro e w2 ⟨rfl, hb2⟩
      have HB2 : Hid (Below w.heap.size w w2) := HB.out.trans (hb2.mono HB.out.size)
      obtain ⟨rb, erb⟩ : ∃ b, b = readyB kn ⟨ac, ar, sq, ds, kd, nc, nr, pc, pr, fc, fr, nm, vl⟩ := ⟨_, rfl⟩
      rw [← erb] at HAt HNn ⊢
      clear erb hb2
      cases rb
      · have HN2 := HNn.out rfl
        have HN3 : Hid (∀ j (hj : j < L.length), j < k + 1 → readyB kn L[j] = false) := HN2
        clear HN2 HNn HAt
        go_wp2
        go_roundw
        case rel => exact ⟨k + 1, by omega, by go_num, HN3, HB2⟩
        case measure => simp [intOf]; omega
      · have HE : Hid (nextP kn L = k) := HAt.out rfl
        clear HAt HNn
        go_wp2
        go_ret
        exact ⟨ret_int HE.out.symm, HB2.out⟩
    · have HE : Hid (nextP kn L = -1) := nextP_none fun j hj => HN.out j hj (by omega)
      go_wp2
      go_ret
      exact ⟨ret_int HE.out.symm, HB.out⟩

set_option maxRecDepth 100000 in
set_option maxHeartbeats 2000000 in
theorem before_any (ac ar sq : Int) (dv : Value) (kd nc nr pc pr fc fr : Int) (nm vl : ByteArray) (ac2 ar2 sq2 : Int) (dv2 : Value) (kd2 nc2 nr2 pc2 pr2 fc2 fr2 : Int) (nm2 vl2 : ByteArray) (w : World) :
    Calls Try.prog 54 #[.agg #[.int .i64 ac, .int .i64 ar, .int .i64 sq, dv, .int .i64 kd, .int .i64 nc, .int .i64 nr, .int .i64 pc, .int .i64 pr, .int .i64 fc, .int .i64 fr, .string nm, .string vl], .agg #[.int .i64 ac2, .int .i64 ar2, .int .i64 sq2, dv2, .int .i64 kd2, .int .i64 nc2, .int .i64 nr2, .int .i64 pc2, .int .i64 pr2, .int .i64 fc2, .int .i64 fr2, .string nm2, .string vl2]] w fun e w' => e = .returned (.bool (lessS ac ar ac2 ar2 || (decide (ac = ac2 ∧ ar = ar2) && decide (sq < sq2)))) ∧ Below w.heap.size w w' := by
  have K0 : TwoB ((w.alloc (.cells #[.int .i64 ac, .int .i64 ar, .int .i64 sq, dv, .int .i64 kd, .int .i64 nc, .int .i64 nr, .int .i64 pc, .int .i64 pr, .int .i64 fc, .int .i64 fr, .string nm, .string vl] 35)).alloc (.cells #[.int .i64 ac2, .int .i64 ar2, .int .i64 sq2, dv2, .int .i64 kd2, .int .i64 nc2, .int .i64 nr2, .int .i64 pc2, .int .i64 pr2, .int .i64 fc2, .int .i64 fr2, .string nm2, .string vl2] 35)) w.heap.size #[.int .i64 ac, .int .i64 ar, .int .i64 sq, dv, .int .i64 kd, .int .i64 nc, .int .i64 nr, .int .i64 pc, .int .i64 pr, .int .i64 fc, .int .i64 fr, .string nm, .string vl] #[.int .i64 ac2, .int .i64 ar2, .int .i64 sq2, dv2, .int .i64 kd2, .int .i64 nc2, .int .i64 nr2, .int .i64 pc2, .int .i64 pr2, .int .i64 fc2, .int .i64 fr2, .string nm2, .string vl2] := by
    have h2 := heap_alloc_new (w.alloc (.cells #[.int .i64 ac, .int .i64 ar, .int .i64 sq, dv, .int .i64 kd, .int .i64 nc, .int .i64 nr, .int .i64 pc, .int .i64 pr, .int .i64 fc, .int .i64 fr, .string nm, .string vl] 35)) (.cells #[.int .i64 ac2, .int .i64 ar2, .int .i64 sq2, dv2, .int .i64 kd2, .int .i64 nc2, .int .i64 nr2, .int .i64 pc2, .int .i64 pr2, .int .i64 fc2, .int .i64 fr2, .string nm2, .string vl2] 35)
    rw [show (w.alloc (.cells #[.int .i64 ac, .int .i64 ar, .int .i64 sq, dv, .int .i64 kd, .int .i64 nc, .int .i64 nr, .int .i64 pc, .int .i64 pr, .int .i64 fc, .int .i64 fr, .string nm, .string vl] 35)).heap.size = w.heap.size + 1 by simp] at h2
    exact ⟨(Below.heap_alloc _ _ _ (by simp)).trans (heap_alloc_new w _), h2⟩
  obtain ⟨W0, eW⟩ : ∃ X, X = (w.alloc (.cells #[.int .i64 ac, .int .i64 ar, .int .i64 sq, dv, .int .i64 kd, .int .i64 nc, .int .i64 nr, .int .i64 pc, .int .i64 pr, .int .i64 fc, .int .i64 fr, .string nm, .string vl] 35)).alloc (.cells #[.int .i64 ac2, .int .i64 ar2, .int .i64 sq2, dv2, .int .i64 kd2, .int .i64 nc2, .int .i64 nr2, .int .i64 pc2, .int .i64 pr2, .int .i64 fc2, .int .i64 fr2, .string nm2, .string vl2] 35) := ⟨_, rfl⟩
  have hb0 : Below w.heap.size w W0 := by rw [eW]; exact ((Below.refl _ _).alloc (Nat.le_refl _) _).alloc (by simp) _
  rw [← eW] at K0
  have HK : Hid (TwoB W0 w.heap.size #[.int .i64 ac, .int .i64 ar, .int .i64 sq, dv, .int .i64 kd, .int .i64 nc, .int .i64 nr, .int .i64 pc, .int .i64 pr, .int .i64 fc, .int .i64 fr, .string nm, .string vl] #[.int .i64 ac2, .int .i64 ar2, .int .i64 sq2, dv2, .int .i64 kd2, .int .i64 nc2, .int .i64 nr2, .int .i64 pc2, .int .i64 pr2, .int .i64 fc2, .int .i64 fr2, .string nm2, .string vl2]) := K0
  have HB : Hid (Below w.heap.size w W0) := hb0
  clear K0 hb0
  obtain ⟨lb, elb⟩ : ∃ b, b = lessS ac ar ac2 ar2 := ⟨_, rfl⟩
  have HLb : Hid (lessS ac ar ac2 ar2 = lb) := elb.symm
  rw [← elb]
  clear elb
  go_enter Try.func54, Try.ntmps54
  go_wp2_with fail
  rw [← eW]
  clear eW
  refine (refLess_bel ac ar ac2 ar2 _).mono ?_
  rintro e w1 ⟨rfl, hb1⟩
  replace HK : Hid (TwoB w1 w.heap.size #[.int .i64 ac, .int .i64 ar, .int .i64 sq, dv, .int .i64 kd, .int .i64 nc, .int .i64 nr, .int .i64 pc, .int .i64 pr, .int .i64 fc, .int .i64 fr, .string nm, .string vl] #[.int .i64 ac2, .int .i64 ar2, .int .i64 sq2, dv2, .int .i64 kd2, .int .i64 nc2, .int .i64 nr2, .int .i64 pc2, .int .i64 pr2, .int .i64 fc2, .int .i64 fr2, .string nm2, .string vl2]) := HK.out.below hb1
  replace HB : Hid (Below w.heap.size w w1) := HB.out.trans (hb1.mono HB.out.size)
  rw [HLb.out]
  clear hb1
  obtain ⟨k_0, k_1, k_2, k_3, k_4, k_5, k_6, k_7, k_8, k_9, k_10, k_11, k_12⟩ := row_cells HK.out.1
  obtain ⟨m_0, m_1, m_2, m_3, m_4, m_5, m_6, m_7, m_8, m_9, m_10, m_11, m_12⟩ := row_cells HK.out.2
  cases lb
  · by_cases h1 : ac = ac2
    · by_cases h2 : ar = ar2
      · subst h1 h2
        go_wp2
        go_ret
        exact ⟨ret_bool (by simp), HB.out⟩
      · have h2b : (ar == ar2) = false := by simp [h2]
        go_wp2
        go_ret
        exact ⟨ret_bool (by simp [h2]), HB.out⟩
    · have h1b : (ac == ac2) = false := by simp [h1]
      go_wp2
      go_ret
      exact ⟨ret_bool (by simp [h1]), HB.out⟩
  · go_wp2
    go_ret
    exact ⟨ret_bool (by simp), HB.out⟩

end Go.Proofs.Ythndgmnckpimmaa
