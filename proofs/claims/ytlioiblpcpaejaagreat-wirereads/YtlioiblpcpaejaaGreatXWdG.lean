/- What the document's next and numbers do. -/
import Derived.Test.YtlioiblpcpaejaaGreatXWoJ
import Derived.Test.YtlioiblpcpaejaaGreatXI
import Derived.Test.YtlioiblpcpaejaaGreatXK
namespace Go.Proofs.YtlioiblpcpaejaaGreat
open Go.RowKit
set_option linter.unusedVariables false
set_option linter.unusedSimpArgs false

theorem results_cell_cell {fn : Func} {p q : Tmp} {ty tz : TypeId} (h : fn.results = #[.cell p ty, .cell q tz]) (tmps : Array Value) (P : Program) (w : World) :
    (results fn tmps).run P w =
      ((asAddr (tmps.getD p undef)).run P w).andThen fun a w₁ => ((loadVar ty a).run P w₁).andThen fun v w₂ => ((asAddr (tmps.getD q undef)).run P w₂).andThen fun b w₃ => ((loadVar tz b).run P w₃).andThen fun u w₄ => .ok (.tuple #[v, u]) w₄ := by
  simp only [results, h]
  simp [Sem.run_bind, Result.andThen]
theorem results_rows2 {P : Program} {fn : Func} {p q : Tmp} {ty tz : TypeId} (h : fn.results = #[.cell p ty, .cell q tz]) (tmps : Array Value) (w : World) (g g2 : Nat) (t t2 : TypeId) (cs cs2 : Array Value) (fr fr2 : Nat × Nat) (d d2 : TypeDesc)
    (hp : tmps.getD p undef = .pointer (some ⟨g, 0, none⟩)) (hg : w.heap[g]? = some (.cells cs t fr))
    (hu : P.underlying ty = some d) (hd : (match d with | .struct _ | .array _ _ => true | _ => false) = true) (hi : (P.info? ty).map (·.size) = some cs.size)
    (hp2 : tmps.getD q undef = .pointer (some ⟨g2, 0, none⟩)) (hg2 : w.heap[g2]? = some (.cells cs2 t2 fr2))
    (hu2 : P.underlying tz = some d2) (hd2 : (match d2 with | .struct _ | .array _ _ => true | _ => false) = true) (hi2 : (P.info? tz).map (·.size) = some cs2.size) :
    (results fn tmps).run P w = .ok (.tuple #[.agg cs, .agg cs2]) w := by
  rw [results_cell_cell h, hp, hp2]
  simp [asAddr, run_loadVar_row w g t ty cs fr d hg hu hd hi, run_loadVar_row w g2 t2 tz cs2 fr2 d2 hg2 hu2 hd2 hi2]
theorem heap_at (w : World) (o : Obj) (k : Nat) (h : k = w.heap.size) : (w.alloc o).heap[k]? = some o := by subst h; exact heap_alloc_new _ _
theorem sizeReader : (Tryz.prog.info? 46).map (·.size) = some 4 := by kernel_rfl
theorem sizeStamp : (Tryz.prog.info? 55).map (·.size) = some 2 := by kernel_rfl
theorem rdC_at (p : List UInt8) (k : Nat) (y m : Int) (hk : k ≤ p.length) : (rdC p k y m).2.1 ≤ p.length := by
  unfold rdC
  split
  · have h := (@cntL_len (p.drop k) m).1
    cases hq : cntL (p.drop k) m with
    | mk n r =>
      obtain ⟨s, e⟩ := r
      rw [hq, List.length_drop] at h
      simp only at h ⊢
      split
      · show k + s ≤ _; omega
      · exact hk
  · exact hk
theorem rdT_at (p : List UInt8) (k : Nat) (y m : Int) (hk : k ≤ p.length) : (rdT p k y m).2.1 ≤ p.length := by
  unfold rdT
  split
  · have h := (@cntL_len (p.drop k) m).1
    cases hq : cntL (p.drop k) m with
    | mk n r =>
      obtain ⟨s, e⟩ := r
      rw [hq, List.length_drop] at h
      simp only at h ⊢
      split
      · split
        · exact hk
        · show k + s + n ≤ _; omega
      · exact hk
  · exact hk
theorem numR_at (p : List UInt8) (k : Nat) (y : Int) (hk : k ≤ p.length) : (numR p k y).2.1 ≤ p.length := rdC_at p k y _ hk
theorem stampR_at (p : List UInt8) (k : Nat) (y : Int) (hk : k ≤ p.length) : (stampR p k y).2.1 ≤ p.length := numR_at p _ _ (numR_at p k y hk)
theorem many_at (p : List UInt8) (k : Nat) (y : Int) (hk : k ≤ p.length) (n : Nat) : (manyOf numR n p k y).2.1 ≤ p.length := by
  induction n with
  | zero => exact hk
  | succ n ih => exact numR_at p _ _ ih
theorem numsR_at (p : List UInt8) (k : Nat) (y : Int) (hk : k ≤ p.length) : (numsR p k y).2.1 ≤ p.length := many_at p _ _ (rdC_at p k y _ hk) _
theorem row_below {b : Nat} {W W' : World} {cs : Array Value} {t : TypeId} (h : W.heap[b]? = some (.cells cs t)) (hb : Below W.heap.size W W') : W'.heap[b]? = some (.cells cs t) := (hb.block b (row_lt h)).trans h
theorem row_alloc {b : Nat} {W : World} {cs : Array Value} {t : TypeId} (h : W.heap[b]? = some (.cells cs t)) (o : Obj) : (W.alloc o).heap[b]? = some (.cells cs t) := (Below.heap_alloc W o b (row_lt h)).trans h
theorem row_other {b c : Nat} {W : World} {cs : Array Value} {t : TypeId} (h : W.heap[b]? = some (.cells cs t)) (cs2 : Array Value) (hne : b ≠ c) : (W.setRow c cs2).heap[b]? = some (.cells cs t) := (setRow_other W c b cs2 hne).trans h

set_option maxRecDepth 100000 in
set_option maxHeartbeats 2000000 in
theorem refStampN_any (a : Option Addr) (cap : Nat) (p : List UInt8) (k : Nat) (y : Int) (w : World) (h : IsB w (.slice a p.length cap) p) (hk : k ≤ p.length) :
    Calls Tryz.prog 45 #[refR (.slice a p.length cap) k y] w fun e w' => e = .returned (.tuple #[refR (.slice a p.length cap) (stampR p k y).2.1 (stampR p k y).2.2, .agg #[.int .i64 (stampR p k y).1.1, .int .i64 (stampR p k y).1.2]]) ∧ Below w.heap.size w w' := by
  obtain ⟨⟨n1, k1, y1⟩, e1⟩ : ∃ r, rdC p k y 9223372036854775807 = r := ⟨_, rfl⟩
  obtain ⟨⟨n2, k2, y2⟩, e2⟩ : ∃ r, rdC p k1 y1 9223372036854775807 = r := ⟨_, rfl⟩
  have ES : stampR p k y = ((n1, n2), k2, y2) := by unfold stampR seqR numR; simp only [e1, e2]
  have hk1 : k1 ≤ p.length := by have := rdC_at p k y 9223372036854775807 hk; rw [e1] at this; exact this
  rw [ES]
  obtain ⟨b0, eb0⟩ : ∃ b, badL k y = b := ⟨_, rfl⟩
  obtain ⟨b1, eb1⟩ : ∃ b, badL k1 y1 = b := ⟨_, rfl⟩
  obtain ⟨b2, eb2⟩ : ∃ b, badL k2 y2 = b := ⟨_, rfl⟩
  have C1 : Hid (∀ W, Below w.heap.size w W → Calls Tryz.prog 18 #[.agg #[.slice a p.length cap, .int .i64 (k : Int), .int .i64 y, .int .i64 b0]] W fun e w' => e = .returned (.tuple #[.agg #[.slice a p.length cap, .int .i64 (k1 : Int), .int .i64 y1, .int .i64 b1], .int .i64 n1]) ∧ Below W.heap.size W w') := fun W hb => by
    have := refNext_any a cap p k y W (h.below hb) hk
    rw [e1] at this
    simp only [refR, eb0, eb1] at this
    exact this
  have C2 : Hid (∀ W, Below w.heap.size w W → Calls Tryz.prog 18 #[.agg #[.slice a p.length cap, .int .i64 (k1 : Int), .int .i64 y1, .int .i64 b1]] W fun e w' => e = .returned (.tuple #[.agg #[.slice a p.length cap, .int .i64 (k2 : Int), .int .i64 y2, .int .i64 b2], .int .i64 n2]) ∧ Below W.heap.size W w') := fun W hb => by
    have := refNext_any a cap p k1 y1 W (h.below hb) hk1
    rw [e2] at this
    simp only [refR, eb1, eb2] at this
    exact this
  simp only [refR, eb0, eb2]
  have HB0 : Hid (Below w.heap.size w (((w.alloc (.cells #[.slice a p.length cap, .int .i64 (k : Int), .int .i64 y, .int .i64 b0] 46)).alloc (.cells #[.slice none 0 0, .int .i64 0, .int .i64 0, .int .i64 0] 46)).alloc (.cells #[.int .i64 0, .int .i64 0] 55))) := (((Below.refl _ _).alloc (Nat.le_refl _) _).alloc (by simp) _).alloc (by simp; omega) _
  have HA0 : Hid ((((w.alloc (.cells #[.slice a p.length cap, .int .i64 (k : Int), .int .i64 y, .int .i64 b0] 46)).alloc (.cells #[.slice none 0 0, .int .i64 0, .int .i64 0, .int .i64 0] 46)).alloc (.cells #[.int .i64 0, .int .i64 0] 55)).heap[w.heap.size + 1]? = some (.cells #[.slice none 0 0, .int .i64 0, .int .i64 0, .int .i64 0] 46)) := row_alloc (heap_alloc2_new w _ _) _
  have HS0 : Hid ((((w.alloc (.cells #[.slice a p.length cap, .int .i64 (k : Int), .int .i64 y, .int .i64 b0] 46)).alloc (.cells #[.slice none 0 0, .int .i64 0, .int .i64 0, .int .i64 0] 46)).alloc (.cells #[.int .i64 0, .int .i64 0] 55)).heap[w.heap.size + 2]? = some (.cells #[.int .i64 0, .int .i64 0] 55)) := by
    exact heap_at _ _ _ (by simp)
  clear e1 e2 ES eb0 eb1 eb2 h hk hk1
  go_enter Tryz.func45, Tryz.ntmps45
  go_wp2_with fail
  refine (C1.out _ HB0.out).mono ?_
  rintro e w1 ⟨rfl, hb1⟩
  have HB1 : Hid (Below w.heap.size w w1) := HB0.out.trans (hb1.mono HB0.out.size)
  have HA1 : Hid (w1.heap[w.heap.size + 1]? = some (.cells #[.slice none 0 0, .int .i64 0, .int .i64 0, .int .i64 0] 46)) := row_below HA0.out hb1
  have HS1 : Hid (w1.heap[w.heap.size + 2]? = some (.cells #[.int .i64 0, .int .i64 0] 55)) := row_below HS0.out hb1
  have BA : Hid (Below w1.heap.size w1 (w1.alloc (.cells #[.slice a p.length cap, .int .i64 (k1 : Int), .int .i64 y1, .int .i64 b1] 46))) := (Below.refl _ _).alloc (Nat.le_refl _) _
  have hs1 := HB1.out.size
  clear hb1 HB0 HA0 HS0
  go_wp2_with fail
  refine (C2.out _ (HB1.out.trans (BA.out.mono hs1))).mono ?_
  rintro e w2 ⟨rfl, hb2⟩
  have HB2 : Hid (Below w.heap.size w w2) := (HB1.out.trans (BA.out.mono hs1)).trans (hb2.mono (by simp; omega))
  have HA2 : Hid (w2.heap[w.heap.size + 1]? = some (.cells #[.slice none 0 0, .int .i64 0, .int .i64 0, .int .i64 0] 46)) := row_below (row_below HA1.out BA.out) hb2
  have HS2 : Hid (w2.heap[w.heap.size + 2]? = some (.cells #[.int .i64 0, .int .i64 0] 55)) := row_below (row_below HS1.out BA.out) hb2
  clear hb2 HB1 HA1 HS1 BA hs1
  go_upto_region 3 with fail
  obtain ⟨W3, eW3⟩ : ∃ X, X = w2.alloc (.cells #[.slice a p.length cap, .int .i64 (k2 : Int), .int .i64 y2, .int .i64 b2] 46) := ⟨_, rfl⟩
  have HA3 : Hid (W3.heap[w.heap.size + 1]? = some (.cells #[.slice none 0 0, .int .i64 0, .int .i64 0, .int .i64 0] 46)) := by rw [eW3]; exact row_alloc HA2.out _
  have HS3 : Hid (W3.heap[w.heap.size + 2]? = some (.cells #[.int .i64 0, .int .i64 0] 55)) := by rw [eW3]; exact row_alloc HS2.out _
  have HG3 : Hid (W3.heap[w2.heap.size]? = some (.cells #[.slice a p.length cap, .int .i64 (k2 : Int), .int .i64 y2, .int .i64 b2] 46)) := by rw [eW3]; exact heap_alloc_new _ _
  have HB3 : Hid (Below w.heap.size w W3) := by rw [eW3]; exact HB2.out.alloc HB2.out.size _
  rw [← eW3]
  clear eW3 HB2 HA2 HS2
  generalize w2.heap.size = g6 at *
  go_step
  refine wpList_load_row rfl 46 (.tmp 6) rfl g6 _ _ _ rfl HG3.out Tryz.underlying46 rfl sizeReader ?_
  (try simp only [Act.put, List.setIfInBounds_toArray, List.set_cons_zero, List.set_cons_succ])
  refine wpList_plain rfl (fun K hK => ?_)
  go_simp
  refine hK _ _ ?_
  clear hK K
  refine wpList_plain rfl (fun K hK => ?_)
  go_simp
  refine hK _ _ ?_
  clear hK K
  refine wpList_plain rfl (fun K hK => ?_)
  go_simp
  refine hK _ _ ?_
  clear hK K
  refine wpList_store_row rfl 46 (.tmp 2) (.tmp 18) rfl (w.heap.size + 1) _ _ #[.slice a p.length cap, .int .i64 (k2 : Int), .int .i64 y2, .int .i64 b2] rfl rfl HA3.out sizeReader rfl (by simp [Value.oneCell']) ?_
  (try simp only [Act.put, List.setIfInBounds_toArray, List.set_cons_zero, List.set_cons_succ])
  refine wpList_store_row rfl 55 (.tmp 3) (.tmp 21) rfl (w.heap.size + 2) _ _ #[.int .i64 n1, .int .i64 n2] rfl rfl (row_other HS3.out _ (by omega)) sizeStamp rfl (by simp [Value.oneCell']) ?_
  (try simp only [Act.put, List.setIfInBounds_toArray, List.set_cons_zero, List.set_cons_succ])
  go_wp2
  (try simp only [Exit.inBlock, Exit.then])
  refine bodyPost_ret (v := .tuple #[.agg #[.slice a p.length cap, .int .i64 (k2 : Int), .int .i64 y2, .int .i64 b2], .agg #[.int .i64 n1, .int .i64 n2]]) ?res rfl ?post
  case res => exact results_rows2 rfl _ _ (w.heap.size + 1) (w.heap.size + 2) _ _ _ _ _ _ _ _ rfl (row_other (setRow_same HA3.out) _ (by omega)) Tryz.underlying46 rfl sizeReader rfl (setRow_same (row_other HS3.out _ (by omega))) Tryz.underlying55 rfl sizeStamp
  exact ⟨rfl, below_setRow (below_setRow HB3.out (by omega) _) (by omega) _⟩

set_option maxRecDepth 100000 in
set_option maxHeartbeats 2000000 in
theorem refNumbers_any (a : Option Addr) (cap : Nat) (p : List UInt8) (k : Nat) (y : Int) (w : World) (h : IsB w (.slice a p.length cap) p) (hk : k ≤ p.length) :
    Calls Tryz.prog 19 #[refR (.slice a p.length cap) k y] w fun e w' => ∃ v, e = .returned (.tuple #[refR (.slice a p.length cap) (numsR p k y).2.1 (numsR p k y).2.2, v]) ∧ OwnI w.heap.size w' v (numsR p k y).1 ∧ Below w.heap.size w w' := by
  obtain ⟨⟨n1, k1, y1⟩, e1⟩ : ∃ r, rdC p k y 64 = r := ⟨_, rfl⟩
  have hn1 : 0 ≤ n1 ∧ n1 ≤ 64 := by have := rdC_nat p k y 64; rw [e1] at this; simp only at this; omega
  have hk1 : k1 ≤ p.length := by have := rdC_at p k y 64 hk; rw [e1] at this; exact this
  obtain ⟨m, rfl⟩ : ∃ m : Nat, n1 = (m : Int) := ⟨n1.toNat, by omega⟩
  have hm : m ≤ 64 := by omega
  clear hn1
  have ES : numsR p k y = manyOf numR m p k1 y1 := by unfold numsR countOf; rw [e1]; simp
  rw [ES]
  obtain ⟨b0, eb0⟩ : ∃ b, badL k y = b := ⟨_, rfl⟩
  have C1 : Hid (∀ W, Below w.heap.size w W → Calls Tryz.prog 20 #[.agg #[.slice a p.length cap, .int .i64 (k : Int), .int .i64 y, .int .i64 b0], .int .i64 64] W fun e w' => e = .returned (.tuple #[.agg #[.slice a p.length cap, .int .i64 (k1 : Int), .int .i64 y1, .int .i64 (badL k1 y1)], .int .i64 (m : Int)]) ∧ Below W.heap.size W w') := fun W hb => by
    have := refCount_any a cap p k y 64 W (h.below hb) hk
    rw [e1] at this
    simp only [refR, eb0] at this
    exact this
  have HP : Hid (IsB w (.slice a p.length cap) p) := h
  have HK1 : Hid (k1 ≤ p.length) := hk1
  obtain ⟨i0, hi, hz0, hz1, hz2⟩ := info_parts infoInt
  have HI : Hid (Tryz.prog.info? 3 = some i0 ∧ i0.zero = some (.int .i64 0) ∧ i0.size = 1 ∧ i0.bytes = 8) := ⟨hi, hz0, hz1, hz2⟩
  simp only [refR, eb0]
  have HB0 : Hid (Below w.heap.size w ((w.alloc (.cells #[.slice a p.length cap, .int .i64 (k : Int), .int .i64 y, .int .i64 b0] 46)).alloc (.cells #[.slice none 0 0, .int .i64 0, .int .i64 0, .int .i64 0] 46))) := ((Below.refl _ _).alloc (Nat.le_refl _) _).alloc (by simp) _
  have HA0 : Hid (((w.alloc (.cells #[.slice a p.length cap, .int .i64 (k : Int), .int .i64 y, .int .i64 b0] 46)).alloc (.cells #[.slice none 0 0, .int .i64 0, .int .i64 0, .int .i64 0] 46)).heap[w.heap.size + 1]? = some (.cells #[.slice none 0 0, .int .i64 0, .int .i64 0, .int .i64 0] 46)) := heap_alloc2_new w _ _
  clear e1 ES eb0 h hk hk1 hi hz0 hz1 hz2
  go_enter Tryz.func19, Tryz.ntmps19
  go_wp2_with fail
  refine (C1.out _ HB0.out).mono ?_
  rintro e w1 ⟨rfl, hb1⟩
  have HB1 : Hid (Below w.heap.size w w1) := HB0.out.trans (hb1.mono HB0.out.size)
  have HA1 : Hid (w1.heap[w.heap.size + 1]? = some (.cells #[.slice none 0 0, .int .i64 0, .int .i64 0, .int .i64 0] 46)) := row_below HA0.out hb1
  have hs1 := row_lt HA1.out
  generalize eB1 : badL k1 y1 = b1
  clear hb1 HB0 HA0
  go_wp2
  obtain ⟨WL, eWL⟩ : ∃ X, X = (w1.alloc (.cells #[.slice a p.length cap, .int .i64 (k1 : Int), .int .i64 y1, .int .i64 b1] 46)).alloc (.cells #[] 3) := ⟨_, rfl⟩
  have HBL : Hid (Below w.heap.size w WL) := by rw [eWL]; exact (HB1.out.alloc HB1.out.size _).alloc (by have := HB1.out.size; simp; omega) _
  have HAL : Hid (WL.heap[w.heap.size + 1]? = some (.cells #[.slice none 0 0, .int .i64 0, .int .i64 0, .int .i64 0] 46)) := by rw [eWL]; exact row_alloc (row_alloc HA1.out _) _
  have HGL : Hid (WL.heap[w1.heap.size]? = some (.cells #[.slice a p.length cap, .int .i64 (k1 : Int), .int .i64 y1, .int .i64 (badL k1 y1)] 46)) := by rw [eWL, eB1]; exact row_alloc (heap_alloc_new _ _) _
  have HOL : Hid (OwnI (w1.heap.size + 1) WL (.slice (some ⟨w1.heap.size + 1, 0, none⟩) 0 0) []) := by
    rw [eWL]
    have := OwnI.empty (w1.alloc (.cells #[.slice a p.length cap, .int .i64 (k1 : Int), .int .i64 y1, .int .i64 b1] 46)) (w1.heap.size + 1) (by simp)
    show OwnI _ _ _ _
    simpa using this
  (try rw [← eWL])
  clear eWL eB1 HB1 HA1
  generalize w1.heap.size = g4 at *
  have HNE : Hid (w.heap.size + 1 ≠ g4) := by show _ ≠ _; omega
  go_loopw [6, 7] (fun u i wr => ∃ j : Nat, j ≤ m ∧ i = .int .i64 (j : Int) ∧ Hid (OwnI (g4 + 1) wr u (manyOf numR j p k1 y1).1 ∧ wr.heap[g4]? = some (.cells #[.slice a p.length cap, .int .i64 (((manyOf numR j p k1 y1).2.1 : Nat) : Int), .int .i64 (manyOf numR j p k1 y1).2.2, .int .i64 (badL (manyOf numR j p k1 y1).2.1 (manyOf numR j p k1 y1).2.2)] 46) ∧ wr.heap[w.heap.size + 1]? = some (.cells #[.slice none 0 0, .int .i64 0, .int .i64 0, .int .i64 0] 46) ∧ Below w.heap.size w wr)) (fun _ i _ => m - (intOf i).toNat)
  case atStart => exact ⟨0, Nat.zero_le _, rfl, HOL.out, HGL.out, HAL.out, HBL.out⟩
  case round =>
    obtain ⟨j, hj, rfl, HO⟩ := hrel
    by_cases hlt : j < m
    · have j1 : (j : Int) < (m : Int) := by omega
      have hk2 := many_at p k1 y1 HK1.out j
      obtain ⟨⟨l, k2, y2⟩, e2⟩ : ∃ r, manyOf numR j p k1 y1 = r := ⟨_, rfl⟩
      obtain ⟨⟨n3, k3, y3⟩, e3⟩ : ∃ r, numR p k2 y2 = r := ⟨_, rfl⟩
      have HE3 : Hid (manyOf numR (j + 1) p k1 y1 = (l ++ [n3], k3, y3)) := manyOf_succ numR j p k1 y1 e2 e3
      have hl : l.length = j := by have := manyOf_len numR j p k1 y1; rw [e2] at this; exact this
      rw [e2] at HO hk2
      simp only at HO hk2
      obtain ⟨b2, eb2⟩ : ∃ b, badL k2 y2 = b := ⟨_, rfl⟩
      obtain ⟨b3, eb3⟩ : ∃ b, badL k3 y3 = b := ⟨_, rfl⟩
      have C3 : Hid (∀ W, Below w.heap.size w W → Calls Tryz.prog 18 #[.agg #[.slice a p.length cap, .int .i64 (k2 : Int), .int .i64 y2, .int .i64 b2]] W fun e w' => e = .returned (.tuple #[.agg #[.slice a p.length cap, .int .i64 (k3 : Int), .int .i64 y3, .int .i64 b3], .int .i64 n3]) ∧ Below W.heap.size W w') := fun W hb => by
        have := refNext_any a cap p k2 y2 W (HP.out.below hb) hk2
        unfold numR at e3
        rw [e3] at this
        simp only [refR, eb2, eb3] at this
        exact this
      rw [eb2] at HO
      have HEB : Hid (badL k3 y3 = b3) := eb3
      have HLL : Hid (l.length = j) := hl
      have HGr : Hid (wr.heap[g4]? = some (.cells #[.slice a p.length cap, .int .i64 (k2 : Int), .int .i64 y2, .int .i64 b2] 46)) := HO.out.2.1
      clear e2 e3 hl eb2 eb3 hk2
      go_upto_region 6 with fail
      go_step
      refine wpList_load_row rfl 46 (.tmp 4) rfl g4 _ _ _ rfl HGr.out Tryz.underlying46 rfl sizeReader ?_
      (try simp only [Act.put, List.setIfInBounds_toArray, List.set_cons_zero, List.set_cons_succ])
      go_wp2_with fail
      refine (C3.out _ HO.out.2.2.2).mono ?_
      rintro e w3 ⟨rfl, hb3⟩
      have O3 : Hid (OwnI (g4 + 1) w3 u6 l) := HO.out.1.below hb3
      have G3 : Hid (w3.heap[g4]? = some (.cells #[.slice a p.length cap, .int .i64 (k2 : Int), .int .i64 y2, .int .i64 b2] 46)) := row_below HGr.out hb3
      have A3 : Hid (w3.heap[w.heap.size + 1]? = some (.cells #[.slice none 0 0, .int .i64 0, .int .i64 0, .int .i64 0] 46)) := row_below HO.out.2.2.1 hb3
      have B3 : Hid (Below w.heap.size w w3) := HO.out.2.2.2.trans (hb3.mono HO.out.2.2.2.size)
      clear hb3 HO HGr C3
      go_upto_region 7 with fail
      obtain ⟨W4, eW4⟩ : ∃ X, X = w3.alloc (.cells #[.slice a p.length cap, .int .i64 (k3 : Int), .int .i64 y3, .int .i64 b3] 46) := ⟨_, rfl⟩
      have O4 : Hid (OwnI (g4 + 1) W4 u6 l) := by rw [eW4]; exact World.ownsRow.alloc O3.out _
      have G4 : Hid (W4.heap[g4]? = some (.cells #[.slice a p.length cap, .int .i64 (k2 : Int), .int .i64 y2, .int .i64 b2] 46)) := by rw [eW4]; exact row_alloc G3.out _
      have A4 : Hid (W4.heap[w.heap.size + 1]? = some (.cells #[.slice none 0 0, .int .i64 0, .int .i64 0, .int .i64 0] 46)) := by rw [eW4]; exact row_alloc A3.out _
      have X4 : Hid (W4.heap[w3.heap.size]? = some (.cells #[.slice a p.length cap, .int .i64 (k3 : Int), .int .i64 y3, .int .i64 b3] 46)) := by rw [eW4]; exact heap_alloc_new _ _
      have B4 : Hid (Below w.heap.size w W4) := by rw [eW4]; exact B3.out.alloc B3.out.size _
      rw [← eW4]
      clear eW4 O3 G3 A3 B3
      generalize w3.heap.size = g8 at *
      go_step
      refine wpList_load_row rfl 46 (.tmp 8) rfl g8 _ _ _ rfl X4.out Tryz.underlying46 rfl sizeReader ?_
      (try simp only [Act.put, List.setIfInBounds_toArray, List.set_cons_zero, List.set_cons_succ])
      refine wpList_store_row rfl 46 (.tmp 4) (.tmp 26) rfl g4 _ _ #[.slice a p.length cap, .int .i64 (k3 : Int), .int .i64 y3, .int .i64 b3] rfl rfl G4.out sizeReader rfl (by simp [Value.oneCell']) ?_
      (try simp only [Act.put, List.setIfInBounds_toArray, List.set_cons_zero, List.set_cons_succ])
      obtain ⟨W5, eW5⟩ : ∃ X, X = W4.setRow g4 #[.slice a p.length cap, .int .i64 (k3 : Int), .int .i64 y3, .int .i64 b3] := ⟨_, rfl⟩
      have O5 : Hid (OwnI (g4 + 1) W5 u6 l) := by rw [eW5]; exact O4.out.keep fun j hj _ => setRow_other W4 g4 j _ (by omega)
      have G5 : Hid (W5.heap[g4]? = some (.cells #[.slice a p.length cap, .int .i64 (k3 : Int), .int .i64 y3, .int .i64 b3] 46)) := by rw [eW5]; exact setRow_same G4.out
      have A5 : Hid (W5.heap[w.heap.size + 1]? = some (.cells #[.slice none 0 0, .int .i64 0, .int .i64 0, .int .i64 0] 46)) := by rw [eW5]; exact row_other A4.out _ HNE.out
      have B5 : Hid (Below w.heap.size w W5) := by rw [eW5]; exact below_setRow B4.out (by have := hs1; omega) _
      have hs5 := row_lt G5.out
      rw [← eW5]
      clear eW5 O4 G4 A4 B4 X4
      have hl2 : l.length ≤ 64 := by have := HLL.out; omega
      have HAL2 : Hid (Below W5.heap.size W5 (W5.alloc (.cells #[.int .i64 n3] 3))) := (Below.refl _ _).alloc (Nat.le_refl _) _
      go_wp2_with (at_builtin; refine wpList_append_own _ rfl _ _ 23 rfl (g4 + 1) 3 i0 (.int .i64 0) 1 8 Tryz.underlying23 HI.out.1 HI.out.2.1 HI.out.2.2.1 HI.out.2.2.2 rfl (by decide) _ _ _ rfl (World.ownsRow.alloc O5.out _) ⟨W5.heap.size, 0, none⟩ 1 1 [.int .i64 n3] rfl rfl (cell_one_new _ _ _) (fun x hx => by simp at hx; subst hx; rfl) (by unfold maxLen; omega) (by omega) (by simp; omega) ?_; intro v4 w4 hown4 hgrow4 hnil4)
      have HN4 : Hid (OwnI (g4 + 1) w4 v4 (manyOf numR (j + 1) p k1 y1).1 ∧ w4.heap[g4]? = some (.cells #[.slice a p.length cap, .int .i64 (((manyOf numR (j + 1) p k1 y1).2.1 : Nat) : Int), .int .i64 (manyOf numR (j + 1) p k1 y1).2.2, .int .i64 (badL (manyOf numR (j + 1) p k1 y1).2.1 (manyOf numR (j + 1) p k1 y1).2.2)] 46) ∧ w4.heap[w.heap.size + 1]? = some (.cells #[.slice none 0 0, .int .i64 0, .int .i64 0, .int .i64 0] 46) ∧ Below w.heap.size w w4) := by
        show _ ∧ _
        rw [HE3.out]
        simp only [HEB.out]
        have hbl := O5.out.block
        exact ⟨OwnI.snoc hown4, row_grown (row_alloc G5.out _) hgrow4 (fun e => by have := hbl _ e.symm; omega), row_grown (row_alloc A5.out _) hgrow4 (fun e => by have := hbl _ e.symm; have := hs1; omega), (B5.out.alloc B5.out.size _).trans (grownBy.toBelow hgrow4 (by have := B5.out.size; simp; omega) (fun z hz => by have := hbl _ hz; omega))⟩
      clear hown4 hgrow4 hnil4 O5 G5 A5 B5 HE3 HAL2
      go_wp2
      go_roundw
      case rel => exact ⟨j + 1, by omega, by go_num, HN4⟩
      case measure => simp [intOf]; omega
    · obtain rfl : j = m := by omega
      obtain ⟨⟨l, k2, y2⟩, e2⟩ : ∃ r, manyOf numR j p k1 y1 = r := ⟨_, rfl⟩
      rw [e2] at HO
      simp only at HO
      obtain ⟨b2, eb2⟩ : ∃ b, badL k2 y2 = b := ⟨_, rfl⟩
      rw [eb2] at HO
      have HE2 : Hid (manyOf numR j p k1 y1 = (l, k2, y2)) := e2
      have HEB : Hid (badL k2 y2 = b2) := eb2
      clear e2 eb2
      go_upto_region 9 with fail
      go_step
      refine wpList_load_row rfl 46 (.tmp 4) rfl g4 _ _ _ rfl HO.out.2.1 Tryz.underlying46 rfl sizeReader ?_
      (try simp only [Act.put, List.setIfInBounds_toArray, List.set_cons_zero, List.set_cons_succ])
      refine wpList_plain rfl (fun K hK => ?_)
      go_simp
      refine hK _ _ ?_
      clear hK K
      refine wpList_store_row rfl 46 (.tmp 2) (.tmp 31) rfl (w.heap.size + 1) _ _ #[.slice a p.length cap, .int .i64 (k2 : Int), .int .i64 y2, .int .i64 b2] rfl rfl HO.out.2.2.1 sizeReader rfl (by simp [Value.oneCell']) ?_
      (try simp only [Act.put, List.setIfInBounds_toArray, List.set_cons_zero, List.set_cons_succ])
      go_wp2
      (try simp only [Exit.inBlock, Exit.then])
      refine bodyPost_ret (v := .tuple #[.agg #[.slice a p.length cap, .int .i64 (k2 : Int), .int .i64 y2, .int .i64 b2], u6]) ?res rfl ?post
      case res => exact results_cell_row2 rfl _ _ (w.heap.size + 1) _ _ _ _ rfl (setRow_same HO.out.2.2.1) Tryz.underlying46 rfl (by kernel_rfl) rfl
      rw [HE2.out]
      simp only [HEB.out]
      exact ⟨_, rfl, (HO.out.1.keep fun j hj _ => setRow_other wr (w.heap.size + 1) j _ (by have := hs1; omega)).cut (by have := hs1; omega), below_setRow HO.out.2.2.2 (by omega) _⟩

end Go.Proofs.YtlioiblpcpaejaaGreat
