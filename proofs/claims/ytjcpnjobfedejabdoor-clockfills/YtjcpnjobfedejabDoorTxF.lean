/- The walk of ClockFills: for every two lists of numbers it returns true. -/
import Derived.Test.YtjcpnjobfedejabDoorTxB
import Derived.Test.YtjcpnjobfedejabDoorTxD
import Derived.Test.YtjcpnjobfedejabDoorCkP
import Derived.Test.YtjcpnjobfedejabDoorCkK
namespace Go.Proofs.YtjcpnjobfedejabDoor
open Go.RowKit
set_option linter.unusedVariables false

/-! ### Gaps filled one by one -/
theorem next_gap (a b : List Int) (n : Nat) : ∀ m k, k + m = n → (gapsTo a b k).length < (gapsTo a b n).length → ∃ k', k ≤ k' ∧ k' < n ∧ gapsTo a b k' = gapsTo a b k ∧ b.getD k' 0 < a.getD k' 0 := by
  intro m
  induction m with
  | zero => intro k hk h; rw [show k = n by omega] at h; omega
  | succ m ih =>
    intro k hk h
    by_cases hg : b.getD k 0 < a.getD k 0
    · exact ⟨k, Nat.le_refl _, by omega, rfl, hg⟩
    · have e : gapsTo a b (k + 1) = gapsTo a b k := by rw [gapsTo_succ]; unfold gapAt; rw [if_neg hg, List.append_nil]
      obtain ⟨k', h1, h2, h3, h4⟩ := ih (k + 1) (by omega) (by rw [e]; exact h)
      exact ⟨k', by omega, h2, h3.trans e, h4⟩
theorem no_gap (a b : List Int) (n : Nat) (hn : n = a.length) : ∀ m k, k + m = n → (gapsTo a b k).length = (gapsTo a b n).length → ∀ r, k ≤ r → r < n → a.getD r 0 ≤ b.getD r 0 := by
  intro m
  induction m with
  | zero => intro k hk _ r h1 h2; omega
  | succ m ih =>
    intro k hk h r h1 h2
    have hp := gapsTo_prefix a b (k + 1) m
    rw [show k + 1 + m = n by omega] at hp
    have hl := hp.length_le
    rw [gapsTo_succ, List.length_append] at hl
    by_cases hg : b.getD k 0 < a.getD k 0
    · have e : gapAt a b k = [((k : Int), b.getD k 0 + 1, a.getD k 0)] := by unfold gapAt; rw [if_pos hg]
      rw [e] at hl
      simp at hl
      omega
    · by_cases hr : r = k
      · subst hr; omega
      · have e : gapsTo a b (k + 1) = gapsTo a b k := by rw [gapsTo_succ]; unfold gapAt; rw [if_neg hg, List.append_nil]
        exact ih (k + 1) (by omega) (by rw [e]; exact h) r (by omega) h2
theorem gap_is {a b : List Int} {k : Nat} (hk : k < a.length) (hg : b.getD k 0 < a.getD k 0) (h : (gapsTo a b k).length < (gapsL a b).length) : (gapsL a b)[(gapsTo a b k).length] = ((k : Int), b.getD k 0 + 1, a.getD k 0) := by
  have hp : gapsTo a b (k + 1) <+: gapsL a b := gapsTo_pre (by omega)
  rw [gapsTo_succ, gapAt_yes hg] at hp
  obtain ⟨t, ht⟩ := hp
  have : (gapsTo a b k ++ [((k : Int), b.getD k 0 + 1, a.getD k 0)] ++ t)[(gapsTo a b k).length]? = (gapsL a b)[(gapsTo a b k).length]? := by rw [ht]
  rw [List.append_assoc, List.getElem?_append_right (Nat.le_refl _), Nat.sub_self, List.getElem?_eq_getElem h] at this
  simpa using this.symm
/-- The list with the gaps ahead of replica k filled. -/
def fullN (a b : List Int) (k r : Nat) : Int := if r < k then max (a.getD r 0) (b.getD r 0) else b.getD r 0
def fullL (a b : List Int) (k : Nat) : List Int := (List.range 64).map (fullN a b k)
theorem fullL_length (a b : List Int) (k : Nat) : (fullL a b k).length = 64 := by simp [fullL]
theorem fullN_zero (a b : List Int) (r : Nat) : fullN a b 0 r = b.getD r 0 := by unfold fullN; rw [if_neg (by omega)]
theorem fullN_eq {a b : List Int} {k k' : Nat} (h1 : k ≤ k') (h : ∀ r, k ≤ r → r < k' → a.getD r 0 ≤ b.getD r 0) (r : Nat) : fullN a b k' r = fullN a b k r := by
  unfold fullN
  by_cases h2 : r < k
  · rw [if_pos h2, if_pos (by omega)]
  · rw [if_neg h2]
    by_cases h3 : r < k'
    · rw [if_pos h3]; have := h r (by omega) h3; omega
    · rw [if_neg h3]
theorem fullN_at (a b : List Int) (k : Nat) : fullN a b k k = b.getD k 0 := by unfold fullN; rw [if_neg (by omega)]
theorem fullN_next {a b : List Int} {k : Nat} (hg : b.getD k 0 < a.getD k 0) (r : Nat) : fullN a b (k + 1) r = if r = k then a.getD k 0 else fullN a b k r := by
  unfold fullN
  by_cases h : r = k
  · subst h; rw [if_pos (by omega), if_pos rfl]; omega
  · rw [if_neg h]
    by_cases h2 : r < k
    · rw [if_pos (by omega), if_pos h2]
    · rw [if_neg (by omega), if_neg h2]
theorem gaps_between {a b : List Int} {k k' : Nat} (h1 : k ≤ k') (h2 : gapsTo a b k' = gapsTo a b k) (hk : k' ≤ a.length) : ∀ r, k ≤ r → r < k' → a.getD r 0 ≤ b.getD r 0 := by
  intro r hr1 hr2
  by_cases hg : b.getD r 0 < a.getD r 0
  · exfalso
    have p1 := gapsTo_prefix a b k (r - k)
    have p2 := gapsTo_prefix a b (r + 1) (k' - (r + 1))
    rw [show k + (r - k) = r by omega] at p1
    rw [show r + 1 + (k' - (r + 1)) = k' by omega, h2, gapsTo_succ, gapAt_yes hg] at p2
    have l1 := p1.length_le
    have l2 := p2.length_le
    simp at l2
    omega
  · omega
theorem full_merge {a b : List Int} {k : Nat} (ha : a.length ≤ 64) (hb : b.length ≤ 64) (h : ∀ r, k ≤ r → r < a.length → a.getD r 0 ≤ b.getD r 0) (hb0 : ∀ r, 0 ≤ b.getD r 0) : trimL (fullL a b k) = mergeL a b := by
  rw [← mergeL_trim a b]
  refine trim_ext _ _ fun r => ?_
  rw [mergeL_getD]
  by_cases hr : r < 64
  · have e : (fullL a b k).getD r 0 = fullN a b k r := by simp [fullL, List.getD_eq_getElem?_getD, hr]
    rw [e]
    unfold fullN
    split
    · rfl
    · by_cases h2 : r < a.length
      · have := h r (by omega) h2; omega
      · rw [getD_out (l := a) (by omega)]; have := hb0 r; omega
  · rw [getD_out (l := fullL a b k) (by rw [fullL_length]; omega), getD_out (l := a) (by omega), getD_out (l := b) (by omega)]; rfl
/-- A made list that holds these numbers. -/
theorem full_is {W : World} {g k : Nat} {a b : List Int} (h : ∀ r, r < 64 → W.cell? ⟨g, r, none⟩ = some (.int .i64 (fullN a b k r))) : IsI W (.slice (some ⟨g, 0, none⟩) 64 64) (fullL a b k) := by
  have hl := fullL_length a b k
  refine ⟨some ⟨g, 0, none⟩, 64, by rw [hl], by rw [hl]; exact Nat.le_refl _, by rw [hl]; omega, .inr ⟨g, 0, rfl, fun i hi => ?_⟩⟩
  rw [Nat.zero_add, h i (by omega)]
  simp [fullL]

set_option maxHeartbeats 1000000 in
set_option maxRecDepth 100000 in
theorem fills_no (va vb : Value) (a b : List Int) (w : World) (h1 : IsI w va a) (h2 : IsI w vb b) (hok : twoL a b ≠ 0) (he : Env w) :
    Calls Tryd.prog 4 #[va, vb] w fun e w' => e = .returned (.bool true) ∧ Below w.heap.size w w' := by
  have H1 : Hid (IsI w va a) := h1
  have H2 : Hid (IsI w vb b) := h2
  have HEnv : Hid (Env w) := he
  have q1 : (twoL a b != 0) = true := by simp [hok]
  have q2 : (twoL a b == twoL a b) = true := by simp
  have HG0 : Hid (gapsR a b = []) := gapsR_no hok
  have HM0 : Hid (mergeR a b = []) := mergeR_no hok
  clear h1 h2 he hok
  go_enter Tryd.func4, Tryd.ntmps4
  go_wp2_with fail
  refine (gapsList_any _ _ a b _ H1.out H2.out).mono ?_
  rintro e w1 ⟨vg, rfl, hog, hb1⟩
  rw [HG0.out] at hog
  obtain ⟨ag, cg, eg⟩ := hog.form
  subst eg
  have HB1 : Hid (Below w.heap.size w w1) := hb1
  clear hog hb1
  go_wp2_with fail
  refine (merge_any _ _ a b _ (H1.out.below HB1.out) (H2.out.below HB1.out)).mono ?_
  rintro e w2 ⟨vm, rfl, hom, hb2⟩
  rw [HM0.out] at hom
  obtain ⟨am, cm, em⟩ := hom.form
  subst em
  have HB2 : Hid (Below w.heap.size w w2) := HB1.out.trans (hb2.mono HB1.out.size)
  clear hom hb2
  go_wp2_with fail
  refine (text_any _ a _ (H1.out.below HB2.out) (HEnv.out.below HB2.out)).mono ?_
  rintro e w3 ⟨rfl, hb3⟩
  have HB3 : Hid (Below w.heap.size w w3) := HB2.out.trans (hb3.mono HB2.out.size)
  clear hb3
  go_wp2_with fail
  refine (awake_any _).mono ?_
  rintro e w4 ⟨rfl, hb4⟩
  go_wp2
  go_ret
  exact ⟨rfl, HB3.out.trans (hb4.mono HB3.out.size)⟩

set_option maxHeartbeats 4000000 in
set_option maxRecDepth 100000 in
theorem fills_ok (va vb : Value) (a b : List Int) (w : World) (h1 : IsI w va a) (h2 : IsI w vb b) (hok : twoL a b = 0) (he : Env w) :
    Calls Tryd.prog 4 #[va, vb] w fun e w' => e = .returned (.bool true) ∧ Below w.heap.size w w' := by
  obtain ⟨i0, hi, hz0, hz1, hz2⟩ := info_parts infoInt
  have HKA : Hid (OkC a) := ((twoL_ok a b).1 hok).1
  have HKB : Hid (OkC b) := ((twoL_ok a b).1 hok).2
  have HCA : Hid (checkL a = 0) := (checkL_ok a).2 HKA.out
  have la := HKA.out.1
  have lb := HKB.out.1
  have H1 : Hid (IsI w va a) := h1
  have H2 : Hid (IsI w vb b) := h2
  have HEnv : Hid (Env w) := he
  have HG0 : Hid (gapsR a b = gapsL a b) := gapsR_ok hok
  have HM0 : Hid (mergeR a b = mergeL a b) := mergeR_ok hok
  have hgl : (gapsL a b).length ≤ 64 := by have := gapsTo_length a b a.length; unfold gapsL; omega
  have HML : Hid ((mergeL a b).length ≤ 64) := by show _ ≤ _; have := mergeL_length a b; omega
  obtain ⟨aa, ca, ea⟩ := h1.form
  obtain ⟨ab, cb, eb⟩ := h2.form
  subst ea eb
  clear h1 h2 he
  go_enter Tryd.func4, Tryd.ntmps4
  go_wp2_with fail
  refine (gapsList_any _ _ a b _ H1.out H2.out).mono ?_
  rintro e w1 ⟨vg, rfl, hog, hb1⟩
  rw [HG0.out] at hog
  have HIG : Hid (IsG w1 vg (gapsL a b)) := hog.isG hgl
  obtain ⟨ag, cg, eg⟩ := hog.form
  subst eg
  have HB1 : Hid (Below w.heap.size w w1) := hb1
  clear hog hb1
  rw [hok]
  go_wp2_with fail
  refine (merge_any _ _ a b _ (H1.out.below HB1.out) (H2.out.below HB1.out)).mono ?_
  rintro e w2 ⟨vm, rfl, hom, hb2⟩
  rw [HM0.out] at hom
  have HIM : Hid (IsI w2 vm (mergeL a b)) := hom.isI (by have := HML.out; omega)
  have HIG2 : Hid (IsG w2 (.slice ag (gapsL a b).length cg) (gapsL a b)) := HIG.out.below hb2
  have HB2 : Hid (Below w.heap.size w w2) := HB1.out.trans (hb2.mono HB1.out.size)
  clear hom hb2 HIG
  rw [hok]
  go_wp2_with fail
  refine (text_any _ a _ (H1.out.below HB2.out) (HEnv.out.below HB2.out)).mono ?_
  rintro e w3 ⟨rfl, hb3⟩
  rw [HCA.out]
  have HIM3 : Hid (IsI w3 vm (mergeL a b)) := HIM.out.below hb3
  have HIG3 : Hid (IsG w3 (.slice ag (gapsL a b).length cg) (gapsL a b)) := HIG2.out.below hb3
  have HB3 : Hid (Below w.heap.size w w3) := HB2.out.trans (hb3.mono HB2.out.size)
  have H23 : Hid (IsI w3 (.slice ab b.length cb) b) := H2.out.below HB3.out
  have z3 := HB3.out.size
  clear hb3 HIM HIG2
  go_wp2_with (at_make; refine wpList_make_full _ rfl _ _ 22 rfl w3.heap.size 3 i0 (.int .i64 0) 1 Tryd.underlying22 hi hz0 hz1 _ _ _ _ 64 rfl rfl (by omega) (by omega) (by rw [hz2]; omega) (by unfold maxLen; omega) (Nat.le_refl _) ?_; intro w4 hown4 hgrow4; have HO4 : Hid (w4.ownsRow w3.heap.size 3 1 (.slice (some ⟨w3.heap.size, 0, none⟩) 64 64) 64 (madeCells (Value.int .i64 0).cells (64 * 1)).toList) := hown4; clear hown4; have HG4 : Hid (w3.grownBy w4 none) := hgrow4; clear hgrow4)
  have HR4 : Hid (w4.heap[w3.heap.size]? = some (.cells (List.replicate 64 (Value.int .i64 0)).toArray 3 (0, 0))) := made_row HO4.out
  have bel4 : Below w3.heap.size w3 w4 := (Below.refl _ _).grown HG4.out (Nat.le_refl _) (fun j e => by cases e)
  clear HO4 HG4
  obtain ⟨w5, hrun, hg5, bel5⟩ := copied (n := 64) (c1 := cb) (d := b) (a1 := ab) (by omega) bel4 HR4.out (by
    obtain ⟨a', c', e', _, _, r⟩ := H23.out
    cases e'
    exact r.imp id fun ⟨b', o', e', g⟩ => ⟨b', o', e', g.below bel4⟩)
  obtain ⟨hcell, hfz⟩ := spliced_cell (n := 64) (by omega) hg5
  have HC5 : Hid (∀ r, r < 64 → w5.cell? ⟨w3.heap.size, r, none⟩ = some (.int .i64 (fullN a b 0 r))) := fun r hr => by rw [fullN_zero]; exact hcell r hr
  have HF5 : Hid (∀ r, w5.frozen? ⟨w3.heap.size, r, none⟩ = false) := hfz
  have HB5 : Hid (Below w3.heap.size w3 w5) := bel5
  clear hcell hfz hg5 bel5 bel4 HR4
  go_wp2_with (simp only [hrun])
  clear hrun
  go_loopw [12] (fun iv wr => ∃ k : Nat, k ≤ a.length ∧ iv = .int .i64 ((gapsTo a b k).length : Int) ∧ Hid (∀ r, r < 64 → wr.cell? ⟨w3.heap.size, r, none⟩ = some (.int .i64 (fullN a b k r))) ∧ Hid (∀ r, wr.frozen? ⟨w3.heap.size, r, none⟩ = false) ∧ Hid (Below w3.heap.size w3 wr)) (fun iv _ => (gapsL a b).length - (intOf iv).toNat)
  case atStart => exact ⟨0, Nat.zero_le _, rfl, HC5, HF5, HB5⟩
  case round =>
    obtain ⟨k, hk, rfl, HC, HF, HB⟩ := hrel
    clear HC5 HF5 HB5
    have hle : (gapsTo a b k).length ≤ (gapsL a b).length := (gapsTo_pre hk).length_le
    by_cases hlt : (gapsTo a b k).length < (gapsL a b).length
    · obtain ⟨k', g1, g2, g3, g4⟩ := next_gap a b a.length (a.length - k) k (by omega) hlt
      have HK' : Hid (∀ r, fullN a b k' r = fullN a b k r) := fullN_eq g1 (gaps_between g1 g3 (by omega))
      have HGI : Hid ((gapsL a b)[(gapsTo a b k).length] = ((k' : Int), b.getD k' 0 + 1, a.getD k' 0)) := by
        show _ = _
        have h := gap_is g2 g4 (by rw [g3]; exact hlt)
        rw [← h]
        congr 1
        rw [g3]
      have HNX : Hid ((gapsTo a b (k' + 1)).length = (gapsTo a b k).length + 1) := by show _ = _; rw [gapsTo_succ, gapAt_yes g4, g3]; simp
      have HNF : Hid (∀ r, fullN a b (k' + 1) r = if r = k' then a.getD k' 0 else fullN a b k r) := fun r => by rw [fullN_next g4 r, HK'.out r]
      have HAT : Hid (fullN a b k k' = b.getD k' 0) := by show _ = _; rw [← HK'.out k', fullN_at]
      obtain ⟨a', c', e', hcc, _, rG⟩ := HIG3.out
      cases e'
      obtain ⟨bg, og, rfl, gG⟩ := rG.resolve_left (by intro e; rw [e] at hlt; simp at hlt)
      obtain ⟨x1, x2, x3⟩ := (gG.below HB.out) _ hlt
      rw [HGI.out] at x1 x2 x3
      have hbg : bg < w3.heap.size := gG.lt (by intro e; rw [e] at hlt; simp at hlt)
      have y1 := HC.out k' (by omega)
      rw [HAT.out] at y1
      have f1 := HF.out k'
      clear gG rG g3 HGI HK' HAT
      obtain ⟨q0, q1⟩ := HKB.out.getD k'
      obtain ⟨p0, p1⟩ := HKA.out.getD k'
      have hqp : b.getD k' 0 < a.getD k' 0 := g4
      have HPQ : Hid (∀ r, fullN a b (k' + 1) r = if r = k' then a.getD k' 0 else fullN a b k r) := HNF.out
      clear HNF g4
      generalize a.getD k' 0 = p at *
      generalize b.getD k' 0 = q at *
      generalize hLi : (gapsTo a b k).length = i at *
      have i1 : (i : Int) < ((gapsL a b).length : Int) := by omega
      have i0' : (0 : Int) ≤ (i : Int) := by omega
      have k1 : (k' : Int) < 64 := by omega
      have k0 : (0 : Int) ≤ (k' : Int) := by omega
      have hd1 : decide ((k' : Int) < 0) = false := by simp
      have hd2 : decide ((64 : Int) ≤ (k' : Int)) = false := by simp only [decide_eq_false_iff_not]; omega
      have hd3 : (q != q) = false := by simp
      have hd4 : decide (p < q + 1) = false := by simp only [decide_eq_false_iff_not]; omega
      have hn1 : ¬ 64 ≤ k' := by omega
      have hn2 : decide (64 ≤ k') = false := by simp only [decide_eq_false_iff_not]; omega
      have hn3 : ¬ p < q + 1 := by omega
      go_wp2
      go_quiet (fail)
      go_wp2
      have HBd : Hid (Below w3.heap.size w3 (wr.drewN nq).drew) := (below_drewN HB.out nq).drew
      have z1 : (wr.drewN nq).drew.cell? ⟨bg, og + i * 3, none⟩ = some (.int .i64 (k' : Int)) := x1
      have z2 : (wr.drewN nq).drew.cell? ⟨bg, og + i * 3 + 2, none⟩ = some (.int .i64 p) := x3
      have z3' : (wr.drewN nq).drew.cell? ⟨w3.heap.size, k', none⟩ = some (.int .i64 q) := y1
      have z4 : (wr.drewN nq).drew.frozen? ⟨w3.heap.size, k', none⟩ = false := f1
      have HCd : Hid (∀ r, r < 64 → (wr.drewN nq).drew.cell? ⟨w3.heap.size, r, none⟩ = some (.int .i64 (fullN a b k r))) := HC.out
      have HFd : Hid (∀ r, (wr.drewN nq).drew.frozen? ⟨w3.heap.size, r, none⟩ = false) := HF.out
      clear x1 x2 x3 y1 f1 hd1 hd2 hd3 hd4 hn1 hn2 hn3
      obtain ⟨Wd, hWd⟩ : ∃ Wd, (wr.drewN nq).drew = Wd := ⟨_, rfl⟩
      rw [hWd] at HBd z1 z2 z3' z4 HCd HFd
      refine wp_region_held_drew (S := fun W' => W'.cell? ⟨bg, og + i * 3, none⟩ = some (.int .i64 (k' : Int)) ∧ W'.cell? ⟨bg, og + i * 3 + 2, none⟩ = some (.int .i64 p)) (by kernel_rfl) (by rw [hWd]; exact ⟨z1, z2⟩) (fun hHeld => ?_)
      rw [hWd] at hHeld ⊢
      clear hWd
      refine wpAnyH_take (i := 0) (oi := ⟨some 114, _, _, _, _, _⟩) (v := ?va0) rfl (by kernel_rfl) (by kernel_rfl) (by kernel_rfl) (fun _ _ _ h => h) (Or.inl ⟨by rfl, ?hya0⟩) hHeld ?resta0
      case hya0 => (intro w hSw; (try dsimp only at hSw); go_simp; try with_reducible rfl)
      simp only [Act.put, List.setIfInBounds_toArray, List.set_cons_zero, List.set_cons_succ]
      refine wpAnyH_take (i := 1) (oi := ⟨some 115, _, _, _, _, _⟩) (v := ?va1) rfl (by kernel_rfl) (by kernel_rfl) (by kernel_rfl) (fun _ _ _ h => h) (Or.inl ⟨by rfl, ?hya1⟩) hHeld ?resta1
      case hya1 => (intro w hSw; (try dsimp only at hSw); go_simp; try with_reducible rfl)
      simp only [Act.put, List.setIfInBounds_toArray, List.set_cons_zero, List.set_cons_succ]
      refine wpAnyH_take (i := 2) (oi := ⟨some 116, _, _, _, _, _⟩) (v := ?va2) rfl (by kernel_rfl) (by kernel_rfl) (by kernel_rfl) (fun _ _ _ h => h) (Or.inl ⟨by rfl, ?hya2⟩) hHeld ?resta2
      case hya2 => (intro w hSw; (try dsimp only at hSw); go_simp; try with_reducible rfl)
      simp only [Act.put, List.setIfInBounds_toArray, List.set_cons_zero, List.set_cons_succ]
      refine wpAnyH_take (i := 3) (oi := ⟨some 117, _, _, _, _, _⟩) (v := ?va3) rfl (by kernel_rfl) (by kernel_rfl) (by kernel_rfl) (fun _ _ _ h => h) (Or.inl ⟨by rfl, ?hya3⟩) hHeld ?resta3
      case hya3 => (intro w hSw; (try dsimp only at hSw); go_simp; try with_reducible rfl)
      simp only [Act.put, List.setIfInBounds_toArray, List.set_cons_zero, List.set_cons_succ]
      refine wpAnyH_take (i := 4) (oi := ⟨some 118, _, _, _, _, _⟩) (v := ?va4) rfl (by kernel_rfl) (by kernel_rfl) (by kernel_rfl) (fun _ _ _ h => h) (Or.inl ⟨by rfl, ?hya4⟩) hHeld ?resta4
      case hya4 => (intro w hSw; (try dsimp only at hSw); go_simp; try with_reducible rfl)
      simp only [Act.put, List.setIfInBounds_toArray, List.set_cons_zero, List.set_cons_succ]
      refine wpAnyH_take (i := 5) (oi := ⟨some 119, _, _, _, _, _⟩) (v := ?va5) rfl (by kernel_rfl) (by kernel_rfl) (by kernel_rfl) (fun _ _ _ h => h) (Or.inl ⟨by rfl, ?hya5⟩) hHeld ?resta5
      case hya5 => (intro w hSw; (try dsimp only at hSw); go_simp; try with_reducible rfl)
      simp only [Act.put, List.setIfInBounds_toArray, List.set_cons_zero, List.set_cons_succ]
      refine wpAnyH_take (i := 6) (oi := ⟨some 120, _, _, _, _, _⟩) (v := ?va6) rfl (by kernel_rfl) (by kernel_rfl) (by kernel_rfl) (fun _ _ _ h => h) (Or.inl ⟨by rfl, ?hya6⟩) hHeld ?resta6
      case hya6 => (intro w hSw; (try dsimp only at hSw); go_simp; try with_reducible rfl)
      simp only [Act.put, List.setIfInBounds_toArray, List.set_cons_zero, List.set_cons_succ]
      refine wpAnyH_take (i := 7) (oi := ⟨some 121, _, _, _, _, _⟩) (v := ?va7) rfl (by kernel_rfl) (by kernel_rfl) (by kernel_rfl) (fun _ _ _ h => h) (Or.inl ⟨by rfl, ?hya7⟩) hHeld ?resta7
      case hya7 => (intro w hSw; (try dsimp only at hSw); go_simp; try with_reducible rfl)
      simp only [Act.put, List.setIfInBounds_toArray, List.set_cons_zero, List.set_cons_succ]
      refine wpAnyH_take (i := 8) (oi := ⟨some 122, _, _, _, _, _⟩) (v := ?va8) rfl (by kernel_rfl) (by kernel_rfl) (by kernel_rfl) (fun _ _ _ h => h) (Or.inl ⟨by rfl, ?hya8⟩) hHeld ?resta8
      case hya8 => (intro w hSw; (try dsimp only at hSw); go_simp; try with_reducible rfl)
      simp only [Act.put, List.setIfInBounds_toArray, List.set_cons_zero, List.set_cons_succ]
      refine wpAnyH_take (i := 9) (oi := ⟨some 123, _, _, _, _, _⟩) (v := ?va9) rfl (by kernel_rfl) (by kernel_rfl) (by kernel_rfl) (fun _ _ _ h => h) (Or.inl ⟨by rfl, ?hya9⟩) hHeld ?resta9
      case hya9 => (intro w hSw; (try dsimp only at hSw); go_simp; try with_reducible rfl)
      simp only [Act.put, List.setIfInBounds_toArray, List.set_cons_zero, List.set_cons_succ]
      refine wpAnyH_take (i := 10) (oi := ⟨some 124, _, _, _, _, _⟩) (v := ?va10) rfl (by kernel_rfl) (by kernel_rfl) (by kernel_rfl) (fun _ _ _ h => h) (Or.inl ⟨by rfl, ?hya10⟩) hHeld ?resta10
      case hya10 => (intro w hSw; (try dsimp only at hSw); go_simp; try with_reducible rfl)
      simp only [Act.put, List.setIfInBounds_toArray, List.set_cons_zero, List.set_cons_succ]
      refine wpAnyH_take (i := 11) (oi := ⟨some 125, _, _, _, _, _⟩) (v := ?va11) rfl (by kernel_rfl) (by kernel_rfl) (by kernel_rfl) (fun _ _ _ h => h) (Or.inl ⟨by rfl, ?hya11⟩) hHeld ?resta11
      case hya11 => (intro w hSw; (try dsimp only at hSw); go_simp; try with_reducible rfl)
      simp only [Act.put, List.setIfInBounds_toArray, List.set_cons_zero, List.set_cons_succ]
      refine wpAnyH_ready (rs := [12]) (by kernel_rfl) (by simp) ?_
      refine AllReadyH.cons (o := ⟨none, _, _, _, _, _⟩) rfl (fun K hK => ?_) AllReadyH.nil
      go_simp
      refine hK.out _ _ (⟨(World.cell?_setCell_other _ _ _ _ (by intro e; cases e; omega)).trans z1, (World.cell?_setCell_other _ _ _ _ (by intro e; cases e; omega)).trans z2⟩) (fun hHeld2 => ?_)
      clear hK K hHeld
      refine wpAnyH_done (by kernel_rfl) ?_ _
      have HC6 : Hid (∀ r, r < 64 → (Wd.setCell ⟨w3.heap.size, k', none⟩ (.int .i64 p)).cell? ⟨w3.heap.size, r, none⟩ = some (.int .i64 (fullN a b (k' + 1) r))) := fun r hr => by
        rw [HPQ.out r]
        by_cases e : r = k'
        · subst e; rw [if_pos rfl]; exact World.cell?_setCell_same _ _ _ z3'
        · rw [if_neg e]
          exact (World.cell?_setCell_other _ _ _ _ (by intro e2; cases e2; exact e rfl)).trans (HCd.out r hr)
      have HF6 : Hid (∀ r, (Wd.setCell ⟨w3.heap.size, k', none⟩ (.int .i64 p)).frozen? ⟨w3.heap.size, r, none⟩ = false) := fun r => by rw [World.frozen?_setCell]; exact HFd.out r
      have HB6 : Hid (Below w3.heap.size w3 (Wd.setCell ⟨w3.heap.size, k', none⟩ (.int .i64 p))) := HBd.out.setCell (p := ⟨w3.heap.size, k', none⟩) (Nat.le_refl _) _
      clear z1 z2 z3' z4
      go_wp2
      go_roundw
      case rel => exact ⟨k' + 1, by omega, by rw [HNX.out]; go_num, HC6, HF6, HB6⟩
      case measure => simp [intOf]; omega
    · have HNG : Hid (∀ r, k ≤ r → r < a.length → a.getD r 0 ≤ b.getD r 0) := no_gap a b a.length rfl (a.length - k) k (by omega) (by show _ = (gapsL a b).length; omega)
      have HFM : Hid (trimL (fullL a b k) = mergeL a b) := full_merge la lb HNG.out (fun r => (HKB.out.getD r).1)
      have HIF : Hid (IsI wr (.slice (some ⟨w3.heap.size, 0, none⟩) 64 64) (fullL a b k)) := full_is HC.out
      have HFL : Hid ((fullL a b k).length = 64) := fullL_length a b k
      have belr : Below w.heap.size w wr := HB3.out.trans (HB.out.mono z3)
      have HIMr : Hid (IsI wr vm (mergeL a b)) := HIM3.out.below HB.out
      have hlen : (gapsTo a b k).length = (gapsL a b).length := by omega
      have hnl : ¬ ((gapsTo a b k).length : Int) < ((gapsL a b).length : Int) := by omega
      have hts : (⟨(textC a).toArray⟩ : ByteArray).size ≤ 281474976710656 := by
        show (textC a).toArray.size ≤ _
        have := textC_len a
        rw [List.size_toArray]
        omega
      clear HC HF HNG
      go_wp2_with fail
      refine (parseK_any _ hts _ (HEnv.out.below belr)).mono ?_
      rintro e w6 ⟨vp, dp, kp, rfl, hop, hlp, hpp, hb6⟩
      have hpt := parse_textC HCA.out
      obtain ⟨e1, e2⟩ := ParseC.unique hpp (by simpa using hpt)
      subst e1 e2
      have HIP : Hid (IsI w6 vp (trimL a)) := hop.isI (by omega)
      have HIF6 : Hid (IsI w6 (.slice (some ⟨w3.heap.size, 0, none⟩) 64 64) (fullL a b k)) := HIF.out.below hb6
      have HIM6 : Hid (IsI w6 vm (mergeL a b)) := HIMr.out.below hb6
      have HB6 : Hid (Below w.heap.size w w6) := belr.trans (hb6.mono belr.size)
      clear hop hpp hb6 hpt
      go_wp2_with fail
      refine (refTrim_any _ (fullL a b k) _ HIF6.out).mono ?_
      rintro e w7 ⟨vt, rfl, hot, hb7⟩
      rw [HFM.out] at hot
      have HIT : Hid (IsI w7 vt (mergeL a b)) := hot.isI (by have := HML.out; omega)
      have HIM7 : Hid (IsI w7 vm (mergeL a b)) := HIM6.out.below hb7
      have HIP7 : Hid (IsI w7 vp (trimL a)) := HIP.out.below hb7
      have HB7 : Hid (Below w.heap.size w w7) := HB6.out.trans (hb7.mono HB6.out.size)
      clear hot hb7
      go_wp2_with fail
      refine (sameI_any _ _ (mergeL a b) (mergeL a b) _ HIT.out HIM7.out).mono ?_
      rintro e w8 ⟨rfl, hb8⟩
      have ds : decide (mergeL a b = mergeL a b) = true := by simp
      rw [ds]
      have HIP8 : Hid (IsI w8 vp (trimL a)) := HIP7.out.below hb8
      have HB8 : Hid (Below w.heap.size w w8) := HB7.out.trans (hb8.mono HB7.out.size)
      clear hb8
      go_wp2_with fail
      refine (refTrim_any _ a _ (H1.out.below HB8.out)).mono ?_
      rintro e w9 ⟨vu, rfl, hou, hb9⟩
      have HIU : Hid (IsI w9 vu (trimL a)) := hou.isI (by have := trim_length a; omega)
      have HIP9 : Hid (IsI w9 vp (trimL a)) := HIP8.out.below hb9
      have HB9 : Hid (Below w.heap.size w w9) := HB8.out.trans (hb9.mono HB8.out.size)
      clear hou hb9
      go_wp2_with fail
      refine (sameI_any _ _ (trimL a) (trimL a) _ HIP9.out HIU.out).mono ?_
      rintro e w10 ⟨rfl, hb10⟩
      have dt : decide (trimL a = trimL a) = true := by simp
      rw [dt]
      have HB10 : Hid (Below w.heap.size w w10) := HB9.out.trans (hb10.mono HB9.out.size)
      clear hb10
      go_wp2_with fail
      refine (awake_any _).mono ?_
      rintro e w11 ⟨rfl, hb11⟩
      go_wp2
      go_ret
      exact ⟨rfl, HB10.out.trans (hb11.mono HB10.out.size)⟩

theorem clockFills_walk (va : Value) (a : List Int) (vb : Value) (b : List Int) (w : World) (h1 : IsI w va a) (h2 : IsI w vb b) (he : Env w) :
    Calls Tryd.prog 4 #[va, vb] w fun e w' => e = .returned (.bool true) ∧ Below w.heap.size w w' := by
  by_cases hok : twoL a b = 0
  · exact fills_ok va vb a b w h1 h2 hok he
  · exact fills_no va vb a b w h1 h2 hok he

end Go.Proofs.YtjcpnjobfedejabDoor
