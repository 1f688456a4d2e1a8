/- The walk of ClockLeast: for every three lists of numbers it returns true. -/
import Derived.Test.YtjcpnjobfedejabCkN
import Derived.Test.YtjcpnjobfedejabCkW
namespace Go.Proofs.Ytjcpnjobfedejab
open Go.RowKit
set_option linter.unusedVariables false

/-- Several slices of numbers at once. -/
def AllI (w : World) (l : List (Value × List Int)) : Prop := ∀ p ∈ l, IsI w p.1 p.2
theorem AllI.below {w w' : World} {l : List (Value × List Int)} (h : AllI w l) (hb : Below w.heap.size w w') : AllI w' l := fun p hp => (h p hp).below hb
theorem AllI.get {w : World} {l : List (Value × List Int)} {v : Value} {d : List Int} (h : AllI w l) (hm : (v, d) ∈ l) : IsI w v d := h _ hm
theorem AllI.cons {w : World} {l : List (Value × List Int)} {v : Value} {d : List Int} (h1 : IsI w v d) (h : AllI w l) : AllI w ((v, d) :: l) := fun p hp => by
  rcases List.mem_cons.1 hp with rfl | hp
  · exact h1
  · exact h p hp
theorem under_merge {a b c : List Int} (hc : OkC c) (h1 : underB a c = true) (h2 : underB b c = true) : underB (mergeL a b) c = true :=
  (underB_iff _ _).2 fun r _ => by
    rw [mergeL_getD]
    have := under_all hc h1 r
    have := under_all hc h2 r
    omega

set_option maxHeartbeats 1000000 in
theorem least_no1 (va vb vc : Value) (a b c : List Int) (w : World) (HA0 : Hid (AllI w [(va, a), (vb, b), (vc, c)])) (HB0 : Hid (Below w.heap.size w w)) (q1 : (twoL a b != 0) = true) (q2 : (twoL a b == 0) = false) (q3 : (twoL b a == 0) = false) :
    Calls Try.prog 3 #[va, vb, vc] w fun e w' => e = .returned (.bool true) ∧ Below w.heap.size w w' := by
  go_enter Try.func3, Try.ntmps3
  go_wp2_with fail
  refine (merge_any _ _ a b _ (HA0.out.get (v := va) (d := a) (by simp)) (HA0.out.get (v := vb) (d := b) (by simp))).mono ?_
  rintro e w1 ⟨vab, rfl, ho, hb⟩
  have HA1 : Hid (AllI w1 [(vab, (mergeR (a) (b))), (va, a), (vb, b), (vc, c)]) := AllI.cons (ho.isI (by have := mergeR_len (a) (b); omega)) (HA0.out.below hb)
  have HB1 : Hid (Below w.heap.size w w1) := HB0.out.trans (hb.mono HB0.out.size)
  clear hb HA0 HB0
  clear ho
  go_wp2_with fail
  refine (merge_any _ _ b a _ (HA1.out.get (v := vb) (d := b) (by simp)) (HA1.out.get (v := va) (d := a) (by simp))).mono ?_
  rintro e w2 ⟨vba, rfl, ho, hb⟩
  have HA2 : Hid (AllI w2 [(vba, (mergeR (b) (a))), (vab, (mergeR (a) (b))), (va, a), (vb, b), (vc, c)]) := AllI.cons (ho.isI (by have := mergeR_len (b) (a); omega)) (HA1.out.below hb)
  have HB2 : Hid (Below w.heap.size w w2) := HB1.out.trans (hb.mono HB1.out.size)
  clear hb HA1 HB1
  clear ho
  go_wp2_with fail
  refine (merge_any _ _ b c _ (HA2.out.get (v := vb) (d := b) (by simp)) (HA2.out.get (v := vc) (d := c) (by simp))).mono ?_
  rintro e w3 ⟨vbc, rfl, ho, hb⟩
  have HA3 : Hid (AllI w3 [(vbc, (mergeR (b) (c))), (vba, (mergeR (b) (a))), (vab, (mergeR (a) (b))), (va, a), (vb, b), (vc, c)]) := AllI.cons (ho.isI (by have := mergeR_len (b) (c); omega)) (HA2.out.below hb)
  have HB3 : Hid (Below w.heap.size w w3) := HB2.out.trans (hb.mono HB2.out.size)
  clear hb HA2 HB2
  clear ho
  go_wp2_with fail
  refine (awake_any _).mono ?_
  rintro e w' ⟨rfl, hb⟩
  go_wp2
  go_ret
  exact ⟨rfl, HB3.out.trans (hb.mono HB3.out.size)⟩

set_option maxHeartbeats 1000000 in
theorem least_no2 (va vb vc : Value) (a b c : List Int) (w : World) (HA0 : Hid (AllI w [(va, a), (vb, b), (vc, c)])) (HB0 : Hid (Below w.heap.size w w)) (t1 : Hid (twoL a b = 0)) (t2 : Hid (twoL b a = 0)) (q1 : (twoL b c != 0) = true) :
    Calls Try.prog 3 #[va, vb, vc] w fun e w' => e = .returned (.bool true) ∧ Below w.heap.size w w' := by
  go_enter Try.func3, Try.ntmps3
  go_wp2_with fail
  refine (merge_any _ _ a b _ (HA0.out.get (v := va) (d := a) (by simp)) (HA0.out.get (v := vb) (d := b) (by simp))).mono ?_
  rintro e w1 ⟨vab, rfl, ho, hb⟩
  rw [mergeR_ok t1.out] at ho
  rw [t1.out]
  have HA1 : Hid (AllI w1 [(vab, (mergeL a b)), (va, a), (vb, b), (vc, c)]) := AllI.cons (ho.isI (by have := mergeR_len (a) (b); rw [mergeR_ok t1.out] at this; omega)) (HA0.out.below hb)
  have HB1 : Hid (Below w.heap.size w w1) := HB0.out.trans (hb.mono HB0.out.size)
  clear hb HA0 HB0
  clear ho
  go_wp2_with fail
  refine (merge_any _ _ b a _ (HA1.out.get (v := vb) (d := b) (by simp)) (HA1.out.get (v := va) (d := a) (by simp))).mono ?_
  rintro e w2 ⟨vba, rfl, ho, hb⟩
  rw [mergeR_ok t2.out] at ho
  rw [t2.out]
  have HA2 : Hid (AllI w2 [(vba, (mergeL b a)), (vab, (mergeL a b)), (va, a), (vb, b), (vc, c)]) := AllI.cons (ho.isI (by have := mergeR_len (b) (a); rw [mergeR_ok t2.out] at this; omega)) (HA1.out.below hb)
  have HB2 : Hid (Below w.heap.size w w2) := HB1.out.trans (hb.mono HB1.out.size)
  clear hb HA1 HB1
  clear ho
  go_wp2_with fail
  refine (merge_any _ _ b c _ (HA2.out.get (v := vb) (d := b) (by simp)) (HA2.out.get (v := vc) (d := c) (by simp))).mono ?_
  rintro e w3 ⟨vbc, rfl, ho, hb⟩
  have HA3 : Hid (AllI w3 [(vbc, (mergeR (b) (c))), (vba, (mergeL b a)), (vab, (mergeL a b)), (va, a), (vb, b), (vc, c)]) := AllI.cons (ho.isI (by have := mergeR_len (b) (c); omega)) (HA2.out.below hb)
  have HB3 : Hid (Below w.heap.size w w3) := HB2.out.trans (hb.mono HB2.out.size)
  clear hb HA2 HB2
  clear ho
  go_wp2_with fail
  refine (awake_any _).mono ?_
  rintro e w' ⟨rfl, hb⟩
  go_wp2
  go_ret
  exact ⟨rfl, HB3.out.trans (hb.mono HB3.out.size)⟩

set_option maxHeartbeats 2000000 in
theorem least_yes (va vb vc : Value) (a b c : List Int) (w : World) (HA0 : Hid (AllI w [(va, a), (vb, b), (vc, c)])) (HB0 : Hid (Below w.heap.size w w)) (kc : Hid (OkC c)) (t1 : Hid (twoL a b = 0)) (t2 : Hid (twoL b a = 0)) (t3 : Hid (twoL b c = 0)) (t4 : Hid (twoL (mergeL a b) c = 0)) (t5 : Hid (twoL a (mergeL b c) = 0))
    (e1 : Hid (decide (mergeL a b = mergeL b a) = true)) (e2 : Hid (decide (mergeL (mergeL a b) c = mergeL a (mergeL b c)) = true)) (u1 : Hid (underB a (mergeL a b) = true)) (u2 : Hid (underB b (mergeL a b) = true)) :
    Calls Try.prog 3 #[va, vb, vc] w fun e w' => e = .returned (.bool true) ∧ Below w.heap.size w w' := by
  go_enter Try.func3, Try.ntmps3
  go_wp2_with fail
  refine (merge_any _ _ a b _ (HA0.out.get (v := va) (d := a) (by simp)) (HA0.out.get (v := vb) (d := b) (by simp))).mono ?_
  rintro e w1 ⟨vab, rfl, ho, hb⟩
  rw [mergeR_ok t1.out] at ho
  rw [t1.out]
  have HA1 : Hid (AllI w1 [(vab, (mergeL a b)), (va, a), (vb, b), (vc, c)]) := AllI.cons (ho.isI (by have := mergeR_len (a) (b); rw [mergeR_ok t1.out] at this; omega)) (HA0.out.below hb)
  have HB1 : Hid (Below w.heap.size w w1) := HB0.out.trans (hb.mono HB0.out.size)
  clear hb HA0 HB0
  clear ho
  go_wp2_with fail
  refine (merge_any _ _ b a _ (HA1.out.get (v := vb) (d := b) (by simp)) (HA1.out.get (v := va) (d := a) (by simp))).mono ?_
  rintro e w2 ⟨vba, rfl, ho, hb⟩
  rw [mergeR_ok t2.out] at ho
  rw [t2.out]
  have HA2 : Hid (AllI w2 [(vba, (mergeL b a)), (vab, (mergeL a b)), (va, a), (vb, b), (vc, c)]) := AllI.cons (ho.isI (by have := mergeR_len (b) (a); rw [mergeR_ok t2.out] at this; omega)) (HA1.out.below hb)
  have HB2 : Hid (Below w.heap.size w w2) := HB1.out.trans (hb.mono HB1.out.size)
  clear hb HA1 HB1
  clear ho
  go_wp2_with fail
  refine (merge_any _ _ b c _ (HA2.out.get (v := vb) (d := b) (by simp)) (HA2.out.get (v := vc) (d := c) (by simp))).mono ?_
  rintro e w3 ⟨vbc, rfl, ho, hb⟩
  rw [mergeR_ok t3.out] at ho
  rw [t3.out]
  have HA3 : Hid (AllI w3 [(vbc, (mergeL b c)), (vba, (mergeL b a)), (vab, (mergeL a b)), (va, a), (vb, b), (vc, c)]) := AllI.cons (ho.isI (by have := mergeR_len (b) (c); rw [mergeR_ok t3.out] at this; omega)) (HA2.out.below hb)
  have HB3 : Hid (Below w.heap.size w w3) := HB2.out.trans (hb.mono HB2.out.size)
  clear hb HA2 HB2
  clear ho
  go_wp2_with fail
  refine (merge_any _ _ (mergeL a b) c _ (HA3.out.get (v := vab) (d := (mergeL a b)) (by simp)) (HA3.out.get (v := vc) (d := c) (by simp))).mono ?_
  rintro e w4 ⟨vl, rfl, ho, hb⟩
  rw [mergeR_ok t4.out] at ho
  rw [t4.out]
  have HA4 : Hid (AllI w4 [(vl, (mergeL (mergeL a b) c)), (vbc, (mergeL b c)), (vba, (mergeL b a)), (vab, (mergeL a b)), (va, a), (vb, b), (vc, c)]) := AllI.cons (ho.isI (by have := mergeR_len ((mergeL a b)) (c); rw [mergeR_ok t4.out] at this; omega)) (HA3.out.below hb)
  have HB4 : Hid (Below w.heap.size w w4) := HB3.out.trans (hb.mono HB3.out.size)
  clear hb HA3 HB3
  clear ho
  go_wp2_with fail
  refine (merge_any _ _ a (mergeL b c) _ (HA4.out.get (v := va) (d := a) (by simp)) (HA4.out.get (v := vbc) (d := (mergeL b c)) (by simp))).mono ?_
  rintro e w5 ⟨vr, rfl, ho, hb⟩
  rw [mergeR_ok t5.out] at ho
  rw [t5.out]
  have HA5 : Hid (AllI w5 [(vr, (mergeL a (mergeL b c))), (vl, (mergeL (mergeL a b) c)), (vbc, (mergeL b c)), (vba, (mergeL b a)), (vab, (mergeL a b)), (va, a), (vb, b), (vc, c)]) := AllI.cons (ho.isI (by have := mergeR_len (a) ((mergeL b c)); rw [mergeR_ok t5.out] at this; omega)) (HA4.out.below hb)
  have HB5 : Hid (Below w.heap.size w w5) := HB4.out.trans (hb.mono HB4.out.size)
  clear hb HA4 HB4
  clear ho
  go_wp2_with fail
  refine (sameI_any _ _ (mergeL a b) (mergeL b a) _ (HA5.out.get (v := vab) (d := (mergeL a b)) (by simp)) (HA5.out.get (v := vba) (d := (mergeL b a)) (by simp))).mono ?_
  rintro e w6 ⟨rfl, hb⟩
  have HA6 : Hid (AllI w6 [(vr, (mergeL a (mergeL b c))), (vl, (mergeL (mergeL a b) c)), (vbc, (mergeL b c)), (vba, (mergeL b a)), (vab, (mergeL a b)), (va, a), (vb, b), (vc, c)]) := HA5.out.below hb
  have HB6 : Hid (Below w.heap.size w w6) := HB5.out.trans (hb.mono HB5.out.size)
  clear hb HA5 HB5
  rw [e1.out]
  go_wp2_with fail
  refine (sameI_any _ _ (mergeL (mergeL a b) c) (mergeL a (mergeL b c)) _ (HA6.out.get (v := vl) (d := (mergeL (mergeL a b) c)) (by simp)) (HA6.out.get (v := vr) (d := (mergeL a (mergeL b c))) (by simp))).mono ?_
  rintro e w7 ⟨rfl, hb⟩
  have HA7 : Hid (AllI w7 [(vr, (mergeL a (mergeL b c))), (vl, (mergeL (mergeL a b) c)), (vbc, (mergeL b c)), (vba, (mergeL b a)), (vab, (mergeL a b)), (va, a), (vb, b), (vc, c)]) := HA6.out.below hb
  have HB7 : Hid (Below w.heap.size w w7) := HB6.out.trans (hb.mono HB6.out.size)
  clear hb HA6 HB6
  rw [e2.out]
  go_wp2_with fail
  refine (under_any _ _ a (mergeL a b) _ (HA7.out.get (v := va) (d := a) (by simp)) (HA7.out.get (v := vab) (d := (mergeL a b)) (by simp))).mono ?_
  rintro e w8 ⟨rfl, hb⟩
  have HA8 : Hid (AllI w8 [(vr, (mergeL a (mergeL b c))), (vl, (mergeL (mergeL a b) c)), (vbc, (mergeL b c)), (vba, (mergeL b a)), (vab, (mergeL a b)), (va, a), (vb, b), (vc, c)]) := HA7.out.below hb
  have HB8 : Hid (Below w.heap.size w w8) := HB7.out.trans (hb.mono HB7.out.size)
  clear hb HA7 HB7
  rw [u1.out]
  go_wp2_with fail
  refine (under_any _ _ b (mergeL a b) _ (HA8.out.get (v := vb) (d := b) (by simp)) (HA8.out.get (v := vab) (d := (mergeL a b)) (by simp))).mono ?_
  rintro e w9 ⟨rfl, hb⟩
  have HA9 : Hid (AllI w9 [(vr, (mergeL a (mergeL b c))), (vl, (mergeL (mergeL a b) c)), (vbc, (mergeL b c)), (vba, (mergeL b a)), (vab, (mergeL a b)), (va, a), (vb, b), (vc, c)]) := HA8.out.below hb
  have HB9 : Hid (Below w.heap.size w w9) := HB8.out.trans (hb.mono HB8.out.size)
  clear hb HA8 HB8
  rw [u2.out]
  go_wp2_with fail
  refine (under_any _ _ a c _ (HA9.out.get (v := va) (d := a) (by simp)) (HA9.out.get (v := vc) (d := c) (by simp))).mono ?_
  rintro e w10 ⟨rfl, hb⟩
  have HA10 : Hid (AllI w10 [(vr, (mergeL a (mergeL b c))), (vl, (mergeL (mergeL a b) c)), (vbc, (mergeL b c)), (vba, (mergeL b a)), (vab, (mergeL a b)), (va, a), (vb, b), (vc, c)]) := HA9.out.below hb
  have HB10 : Hid (Below w.heap.size w w10) := HB9.out.trans (hb.mono HB9.out.size)
  clear hb HA9 HB9
  cases h1 : underB a c
  · go_wp2_with fail
    refine (awake_any _).mono ?_
    rintro e w' ⟨rfl, hb⟩
    go_wp2
    go_ret
    exact ⟨rfl, HB10.out.trans (hb.mono HB10.out.size)⟩
  · go_wp2_with fail
    refine (under_any _ _ b c _ (HA10.out.get (v := vb) (d := b) (by simp)) (HA10.out.get (v := vc) (d := c) (by simp))).mono ?_
    rintro e w11 ⟨rfl, hb⟩
    have HA11 : Hid (AllI w11 [(vr, (mergeL a (mergeL b c))), (vl, (mergeL (mergeL a b) c)), (vbc, (mergeL b c)), (vba, (mergeL b a)), (vab, (mergeL a b)), (va, a), (vb, b), (vc, c)]) := HA10.out.below hb
    have HB11 : Hid (Below w.heap.size w w11) := HB10.out.trans (hb.mono HB10.out.size)
    clear hb HA10 HB10
    cases h2 : underB b c
    · go_wp2_with fail
      refine (awake_any _).mono ?_
      rintro e w' ⟨rfl, hb⟩
      go_wp2
      go_ret
      exact ⟨rfl, HB11.out.trans (hb.mono HB11.out.size)⟩
    · have u3 : Hid (underB (mergeL a b) c = true) := under_merge kc.out h1 h2
      go_wp2_with fail
      refine (under_any _ _ (mergeL a b) c _ (HA11.out.get (v := vab) (d := (mergeL a b)) (by simp)) (HA11.out.get (v := vc) (d := c) (by simp))).mono ?_
      rintro e w12 ⟨rfl, hb⟩
      have HA12 : Hid (AllI w12 [(vr, (mergeL a (mergeL b c))), (vl, (mergeL (mergeL a b) c)), (vbc, (mergeL b c)), (vba, (mergeL b a)), (vab, (mergeL a b)), (va, a), (vb, b), (vc, c)]) := HA11.out.below hb
      have HB12 : Hid (Below w.heap.size w w12) := HB11.out.trans (hb.mono HB11.out.size)
      clear hb HA11 HB11
      rw [u3.out]
      go_wp2_with fail
      refine (awake_any _).mono ?_
      rintro e w' ⟨rfl, hb⟩
      go_wp2
      go_ret
      exact ⟨rfl, HB12.out.trans (hb.mono HB12.out.size)⟩

theorem clockLeast_walk (va : Value) (a : List Int) (vb : Value) (b : List Int) (vc : Value) (c : List Int) (w : World) (h1 : IsI w va a) (h2 : IsI w vb b) (h3 : IsI w vc c) :
    Calls Try.prog 3 #[va, vb, vc] w fun e w' => e = .returned (.bool true) ∧ Below w.heap.size w w' := by
  have HA0 : Hid (AllI w [(va, a), (vb, b), (vc, c)]) := AllI.cons h1 (AllI.cons h2 (AllI.cons h3 (fun p hp => by simp at hp)))
  have HB0 : Hid (Below w.heap.size w w) := Below.refl _ _
  by_cases hab : twoL a b = 0
  · obtain ⟨ka, kb⟩ := (twoL_ok a b).1 hab
    have hba : twoL b a = 0 := (twoL_ok b a).2 ⟨kb, ka⟩
    by_cases hbc : twoL b c = 0
    · have kc := ((twoL_ok b c).1 hbc).2
      exact least_yes va vb vc a b c w HA0 HB0 kc hab hba hbc ((twoL_ok _ _).2 ⟨ka.merge kb, kc⟩) ((twoL_ok _ _).2 ⟨ka, kb.merge kc⟩)
        (by show _ = _; rw [mergeL_comm a b]; simp) (by show _ = _; rw [mergeL_assoc]; simp) ((underB_iff _ _).2 fun r _ => by rw [mergeL_getD]; omega) ((underB_iff _ _).2 fun r _ => by rw [mergeL_getD]; omega)
    · exact least_no2 va vb vc a b c w HA0 HB0 hab hba (by simp [hbc])
  · have hba : twoL b a ≠ 0 := fun h => hab ((twoL_ok a b).2 (((twoL_ok b a).1 h).symm))
    exact least_no1 va vb vc a b c w HA0 HB0 (by simp [hab]) (by simp [hab]) (by simp [hba])

end Go.Proofs.Ytjcpnjobfedejab
