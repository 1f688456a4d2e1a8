/- check: why there is no patch. -/
import Derived.Test.YthhnglpkfcmjiaaKDiV
import Derived.Test.YthhnglpkfcmjiaaKVtF
namespace Go.Proofs.Ythhnglpkfcmjiaa
open Go.RowKit Go.Shelf
set_option linter.unusedVariables false
set_option linter.unusedSimpArgs false
attribute [local go_sem] Oper.semAt_some
/-- Why there is no patch. -/
def whyD (a b : VT) : Int := if chkT a ≠ 0 then chkT a else if chkT b ≠ 0 then chkT b else if a.k = b.k then 0 else 7
set_option maxRecDepth 100000 in
set_option maxHeartbeats 4000000 in
theorem dcheck_any (G : Nat → Prop) (a b : VT) (va vb : Value) (w : World) (ha : VIs G w va a) (hb : VIs G w vb b) (hsa : a.sz ≤ 1048576) (hba : BnA a) (hsb : b.sz ≤ 1048576) (hbb : BnA b) :
    Calls Try.prog 28 #[va, vb] w fun e w' => e = .returned (.int .i64 (whyD a b)) ∧ Below w.heap.size w w' := by
  obtain ⟨aa, ca, ak, da, e1, _⟩ := ha.form
  obtain ⟨ba, cb, bk, db, e2, _⟩ := hb.form
  subst e1 e2
  obtain ⟨W0, eW⟩ : ∃ X, X = (w.alloc (.cells #[.int .i64 a.k.1, .int .i64 a.k.2, .string a.tg, .string a.tx, .slice aa a.at_.length ca, .slice ak a.ks.length da] 27)).alloc (.cells #[.int .i64 b.k.1, .int .i64 b.k.2, .string b.tg, .string b.tx, .slice ba b.at_.length cb, .slice bk b.ks.length db] 27) := ⟨_, rfl⟩
  have hb0 : Below w.heap.size w W0 := (by rw [eW]; exact ((Below.refl _ _).alloc (Nat.le_refl _) _).alloc (by simp) _)
  have HR1 : Hid (W0.heap[w.heap.size]? = some (.cells #[.int .i64 a.k.1, .int .i64 a.k.2, .string a.tg, .string a.tx, .slice aa a.at_.length ca, .slice ak a.ks.length da] 27)) := (by show _ = _; rw [eW, Below.heap_alloc _ _ _ (by simp)]; exact heap_alloc_new _ _)
  have HR2 : Hid (W0.heap[w.heap.size + 1]? = some (.cells #[.int .i64 b.k.1, .int .i64 b.k.2, .string b.tg, .string b.tx, .slice ba b.at_.length cb, .slice bk b.ks.length db] 27)) := (by show _ = _; rw [eW]; have h9 := heap_alloc_new (w.alloc (.cells #[.int .i64 a.k.1, .int .i64 a.k.2, .string a.tg, .string a.tx, .slice aa a.at_.length ca, .slice ak a.ks.length da] 27)) (.cells #[.int .i64 b.k.1, .int .i64 b.k.2, .string b.tg, .string b.tx, .slice ba b.at_.length cb, .slice bk b.ks.length db] 27); rw [show (w.alloc (.cells #[.int .i64 a.k.1, .int .i64 a.k.2, .string a.tg, .string a.tx, .slice aa a.at_.length ca, .slice ak a.ks.length da] 27)).heap.size = w.heap.size + 1 by simp] at h9; exact h9)
  have HA : Hid (VIs G W0 (.agg #[.int .i64 a.k.1, .int .i64 a.k.2, .string a.tg, .string a.tx, .slice aa a.at_.length ca, .slice ak a.ks.length da]) a) := ha.below hb0
  have HB : Hid (VIs G W0 (.agg #[.int .i64 b.k.1, .int .i64 b.k.2, .string b.tg, .string b.tx, .slice ba b.at_.length cb, .slice bk b.ks.length db]) b) := hb.below hb0
  have HE := hide9 eW
  have HL := hide9 hb0
  clear eW hb0 ha hb
  go_enter Try.func28, Try.ntmps28
  go_upto_region 1 with fail
  rw [← HE.out]
  obtain ⟨y0, y1, y2, y3, y4, y5⟩ := row6d HR1.out
  go_wp2_with fail
  clear y0 y1 y2 y3 y4 y5 HE
  refine (check_any G a _ _ HA.out hsa hba).mono ?_
  rintro e w1 ⟨rfl, hb1⟩
  obtain ⟨cx, ecx⟩ : ∃ x, x = chkT a := ⟨_, rfl⟩
  rw [← ecx]
  have Hcx := hide9 ecx
  clear ecx
  have HL1 := hide9 (HL.out.trans (hb1.mono HL.out.size))
  replace HB := hide9 (HB.out.below hb1)
  have HR11 := hide9 ((hb1.block _ (row_lt HR1.out)).trans HR1.out)
  have HR21 := hide9 ((hb1.block _ (row_lt HR2.out)).trans HR2.out)
  clear hb1 HL HR1 HR2
  by_cases hx : cx = 0
  · subst hx
    have Hcx0 : Hid (chkT a = 0) := Hcx.out.symm
    clear Hcx
    obtain ⟨y0, y1, y2, y3, y4, y5⟩ := row6d HR21.out
    go_wp2_with fail
    clear y0 y1 y2 y3 y4 y5
    refine (check_any G b _ _ HB.out hsb hbb).mono ?_
    rintro e w2 ⟨rfl, hb2⟩
    obtain ⟨cy, ecy⟩ : ∃ x, x = chkT b := ⟨_, rfl⟩
    rw [← ecy]
    have Hcy := hide9 ecy
    clear ecy
    have HL2 := hide9 (HL1.out.trans (hb2.mono HL1.out.size))
    have HR12 := hide9 ((hb2.block _ (row_lt HR11.out)).trans HR11.out)
    have HR22 := hide9 ((hb2.block _ (row_lt HR21.out)).trans HR21.out)
    clear hb2 HL1 HR11 HR21 HA HB
    by_cases hy : cy = 0
    · subst hy
      have Hcy0 : Hid (chkT b = 0) := Hcy.out.symm
      clear Hcy
      obtain ⟨ab, hab⟩ : ∃ v : Bool, decide (a.k = b.k) = v := ⟨_, rfl⟩
      have hq := fun w9 => neSt a.k b.k ab hab w9
      obtain ⟨y0, y1, y2, y3, y4, y5⟩ := row6d HR12.out
      obtain ⟨z0, z1, z2, z3, z4, z5⟩ := row6d HR22.out
      cases ab with
      | true =>
        have Hk : Hid (a.k = b.k) := hide9 (of_decide_eq_true hab)
        clear hab
        simp only [Bool.not_true] at hq
        go_wp2
        (try rw [Exit.noGoto_ret])
        go_ret
        exact ⟨(by unfold whyD; rw [Hcx0.out, Hcy0.out, Hk.out]; simp), HL2.out⟩
      | false =>
        have Hk : Hid (¬ a.k = b.k) := hide9 (of_decide_eq_false hab)
        clear hab
        simp only [Bool.not_false] at hq
        go_wp2
        (try rw [Exit.noGoto_ret])
        go_ret
        exact ⟨(by unfold whyD; rw [Hcx0.out, Hcy0.out, if_neg (by simp), if_neg (by simp), if_neg Hk.out]; rfl), HL2.out⟩
    · have Hy : Hid (cy ≠ 0) := hy
      go_wp2
      (try rw [Exit.noGoto_ret])
      go_ret
      exact ⟨(by unfold whyD; rw [Hcx0.out, ← Hcy.out, if_neg (by simp), if_pos Hy.out]; rfl), HL2.out⟩
  · have Hx : Hid (cx ≠ 0) := hx
    go_wp2
    (try rw [Exit.noGoto_ret])
    go_ret
    exact ⟨(by unfold whyD; rw [← Hcx.out, if_pos Hx.out]; rfl), HL1.out⟩
end Go.Proofs.Ythhnglpkfcmjiaa
