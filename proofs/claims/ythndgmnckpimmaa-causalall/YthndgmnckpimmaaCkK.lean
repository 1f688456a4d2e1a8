/- What Tick does, the program's and the document's. -/
import Derived.Test.YthndgmnckpimmaaCkW
import Derived.Laws.CopyOwn
namespace Go.Proofs.Ythndgmnckpimmaa
open Go.RowKit
set_option linter.unusedVariables false
set_option maxRecDepth 100000

/-- What Tick tells: the error, and the list. -/
def tickE (d : List Int) (r : Int) : Int := if checkL d ≠ 0 then checkL d else if r < 0 ∨ 64 ≤ r then 1 else if atL d r = 1099511627776 then 6 else 0
def tickR (d : List Int) (r : Int) : List Int := if tickE d r = 0 then tickL d r.toNat else []
theorem tickE_check {d : List Int} {r : Int} (h : checkL d ≠ 0) : tickE d r = checkL d := by unfold tickE; rw [if_pos h]
theorem tickE_range {d : List Int} {r : Int} (h : checkL d = 0) (h2 : r < 0 ∨ 64 ≤ r) : tickE d r = 1 := by unfold tickE; rw [if_neg (by simp [h]), if_pos h2]
theorem tickE_full {d : List Int} {r : Int} (h : checkL d = 0) (h2 : ¬ (r < 0 ∨ 64 ≤ r)) (h3 : atL d r = 1099511627776) : tickE d r = 6 := by unfold tickE; rw [if_neg (by simp [h]), if_neg h2, if_pos h3]
theorem tickE_ok {d : List Int} {r : Int} (h : checkL d = 0) (h2 : ¬ (r < 0 ∨ 64 ≤ r)) (h3 : ¬ atL d r = 1099511627776) : tickE d r = 0 := by unfold tickE; rw [if_neg (by simp [h]), if_neg h2, if_neg h3]
theorem tickR_no {d : List Int} {r : Int} (h : tickE d r ≠ 0) : tickR d r = [] := by unfold tickR; rw [if_neg h]
theorem tickR_ok {d : List Int} {k : Nat} (h : tickE d (k : Int) = 0) : tickR d (k : Int) = tickL d k := by unfold tickR; rw [if_pos h]; simp
theorem ret_err {a b : Int} (h : a = b) : Ending.returned (.tuple #[.slice none 0 0, .int .i64 a]) = .returned (.tuple #[.slice none 0 0, .int .i64 b]) := by rw [h]

/-- The row of a made list over which another one was copied. -/
theorem spliced (d : List Int) (n : Nat) (hn : d.length ≤ n) : splice (List.replicate n (Value.int .i64 0)) 0 (cellsI d) = (List.range n).map fun i => Value.int .i64 (d.getD i 0) := by
  apply List.ext_getElem
  · rw [length_splice _ _ _ (by simp [cellsI]; omega)]; simp
  · intro i h1 h2
    simp at h2
    simp only [splice, List.take_zero, List.nil_append, Nat.zero_add, List.getElem_map, List.getElem_range]
    by_cases h : i < d.length
    · rw [List.getElem_append_left (by simpa [cellsI] using h)]
      simp [cellsI, h]
    · rw [List.getElem_append_right (by simp [cellsI]; omega)]
      simp [List.getD_eq_getElem?_getD, show d.length ≤ i by omega]
theorem spliced_cell {W : World} {g n : Nat} {d : List Int} {t : TypeId} (hn : d.length ≤ n) (h : W.heap[g]? = some (.cells (splice (List.replicate n (Value.int .i64 0)) 0 (cellsI d)).toArray t (0, 0))) :
    (∀ i, i < n → W.cell? ⟨g, i, none⟩ = some (.int .i64 (d.getD i 0))) ∧ ∀ i, W.frozen? ⟨g, i, none⟩ = false := by
  rw [spliced d n hn] at h
  refine ⟨fun i hi => ?_, fun i => by simp [World.frozen?, h]⟩
  simp [World.cell?, h, hi]
theorem made_row {W : World} {B g n : Nat} {t : TypeId} (h : W.ownsRow B t 1 (.slice (some ⟨g, 0, none⟩) n n) n (madeCells (Value.int .i64 0).cells (n * 1)).toList) : W.heap[g]? = some (.cells (List.replicate n (Value.int .i64 0)).toArray t (0, 0)) := by
  rcases h.2 with ⟨e, _⟩ | ⟨g', cap, cur, e, _, hc, _, _, hs, ht⟩
  · cases e
  · cases e
    have e1 : cur.toList = List.replicate n (Value.int .i64 0) := by
      rw [List.take_of_length_le (by simp; omega)] at ht
      rw [ht]
      have := toList_madeCells_one (Value.int .i64 0) (n * 1)
      simpa [Value.cells] using this
    rw [hc, ← e1]
theorem copied {w w1 : World} {g n c1 : Nat} {d : List Int} {a1 : Option Addr} (hn : d.length ≤ n) (hb : Below g w w1) (hg : w1.heap[g]? = some (.cells (List.replicate n (Value.int .i64 0)).toArray 3 (0, 0)))
    (hr : d = [] ∨ ∃ b o, a1 = some ⟨b, o, none⟩ ∧ IntsAt w1 b o d) :
    ∃ w2, (Builtin.copy_ #[31, 31] 3 #[.slice (some ⟨g, 0, none⟩) n n, .slice a1 d.length c1]).run Try.prog w1 = .ok (goInt d.length) w2 ∧ w2.heap[g]? = some (.cells (splice (List.replicate n (Value.int .i64 0)) 0 (cellsI d)).toArray 3 (0, 0)) ∧ Below g w w2 := by
  obtain ⟨i0, hi, hz0, hz1, hz2⟩ := info_parts infoInt
  rcases hr with rfl | ⟨b, o, rfl, g1⟩
  · refine ⟨w1, run_copy_none (P := Try.prog) w1 _ _ _ 3 _ _ n n 0 c1 Try.underlying31 (by rw [hi]; simp [hz1]) (by simp), ?_, hb⟩
    simpa [splice, cellsI] using hg
  · have hl := cellsI_length d
    have hmin : (cellsI d).length = Nat.min d.length n := by rw [hl]; simp [Nat.min_def]; omega
    refine ⟨_, (by
      have := run_copy_row (P := Try.prog) w1 31 31 3 3 g 0 n n ⟨b, o, none⟩ d.length c1 (List.replicate n (Value.int .i64 0)).toArray 3 (cellsI d) Try.underlying31 (by rw [hi]; simp [hz1]) hg hmin g1.news (by rw [hl]; simp; omega) (cellsI_one d)
      rw [show (cellsI d).length = d.length by rw [hl]; simp] at this
      exact this), ?_, ?_⟩
    · have := setRow_heap w1 g _ (splice (List.replicate n (Value.int .i64 0)) 0 (cellsI d)).toArray 3 _ hg
      simpa [splice, cellsI] using this
    · exact below_setRow hb (Nat.le_refl _) _
/-- The row with one number more. -/
theorem ticked_is {W : World} {g n k : Nat} {d : List Int} (hk : k < n) (hn : n ≤ 64) (h : ∀ i, i < n → W.cell? ⟨g, i, none⟩ = some (.int .i64 (d.getD i 0))) :
    IsI (W.setCell ⟨g, k, none⟩ (.int .i64 (d.getD k 0 + 1))) (.slice (some ⟨g, 0, none⟩) n n) (tickTo d k n) := by
  have hl := tickTo_length d k n
  refine ⟨some ⟨g, 0, none⟩, n, by rw [hl], by rw [hl]; exact Nat.le_refl _, by rw [hl]; omega, .inr ⟨g, 0, rfl, fun i hi => ?_⟩⟩
  rw [← getD_at hi, tickTo_getD, if_pos (by omega), Nat.zero_add]
  by_cases e : i = k
  · subst e
    rw [if_pos rfl]
    exact World.cell?_setCell_same _ _ _ (h i hk)
  · rw [if_neg e, World.cell?_setCell_other _ _ _ _ (by intro e2; cases e2; exact e rfl)]
    exact h i (by omega)

set_option maxHeartbeats 1000000 in
theorem tick_no (v : Value) (d : List Int) (r : Int) (w : World) (h1 : IsI w v d) (h : tickE d r ≠ 0) :
    Calls Try.prog 77 #[v, .int .i64 r] w fun e w' => e = .returned (.tuple #[.slice none 0 0, .int .i64 (tickE d r)]) ∧ Below w.heap.size w w' := by
  have H1 : Hid (IsI w v d) := h1
  clear h1
  by_cases hc : checkL d = 0
  · by_cases h0 : r < 0
    · have HE : Hid (tickE d r = 1) := tickE_range hc (.inl h0)
      clear h
      go_enter Try.func77, Try.ntmps77
      go_wp2_with (go_at_call 40; refine (check_any _ _ _ H1.out).mono ?_; rintro e w' ⟨rfl, hw⟩; replace hw := hw.symm; subst hw)
      go_ret2
      exact ⟨ret_err HE.out.symm, Below.refl _ _⟩
    · by_cases h64 : 64 ≤ r
      · have HE : Hid (tickE d r = 1) := tickE_range hc (.inr h64)
        clear h
        go_enter Try.func77, Try.ntmps77
        go_wp2_with (go_at_call 40; refine (check_any _ _ _ H1.out).mono ?_; rintro e w' ⟨rfl, hw⟩; replace hw := hw.symm; subst hw)
        go_ret2
        exact ⟨ret_err HE.out.symm, Below.refl _ _⟩
      · by_cases ha : atL d r = 1099511627776
        · have HE : Hid (tickE d r = 6) := tickE_full hc (by omega) ha
          have q : (atL d r == 1099511627776) = true := by simp [ha]
          clear h ha
          go_enter Try.func77, Try.ntmps77
          go_wp2_with (first
            | (go_at_call 40; refine (check_any _ _ _ H1.out).mono ?_; rintro e w' ⟨rfl, hw⟩; replace hw := hw.symm; subst hw)
            | (go_at_call 58; refine (at_any _ _ _ _ H1.out).mono ?_; rintro e w' ⟨rfl, hw⟩; replace hw := hw.symm; subst hw))
          go_ret2
          exact ⟨ret_err HE.out.symm, Below.refl _ _⟩
        · exact absurd (tickE_ok hc (by omega) ha) h
  · have HE : Hid (tickE d r = checkL d) := tickE_check hc
    have q : (checkL d != 0) = true := by simp [hc]
    clear h hc
    go_enter Try.func77, Try.ntmps77
    go_wp2_with (go_at_call 40; refine (check_any _ _ _ H1.out).mono ?_; rintro e w' ⟨rfl, hw⟩; replace hw := hw.symm; subst hw)
    go_ret2
    exact ⟨ret_err HE.out.symm, Below.refl _ _⟩

set_option maxHeartbeats 2000000 in
/-- clock.Tick, where it errs not. -/
theorem tick_ok (v : Value) (d : List Int) (k : Nat) (w : World) (h1 : IsI w v d) (hc : checkL d = 0) (hk : k < 64) (ha : ¬ atL d (k : Int) = 1099511627776) :
    Calls Try.prog 77 #[v, .int .i64 (k : Int)] w fun e w' => ∃ v', e = .returned (.tuple #[v', .int .i64 0]) ∧ OwnI w.heap.size w' v' (tickL d k) ∧ Below w.heap.size w w' := by
  obtain ⟨i0, hi, hz0, hz1, hz2⟩ := info_parts infoInt
  have hl := ((checkL_ok d).1 hc).1
  obtain ⟨a1, c1, rfl, hc1, hl1, r1⟩ := h1
  have HR : Hid (d = [] ∨ ∃ b o, a1 = some ⟨b, o, none⟩ ∧ IntsAt w b o d) := r1
  have H1 : Hid (IsI w (.slice a1 d.length c1) d) := ⟨a1, c1, rfl, hc1, hl1, r1⟩
  have q : (atL d (k : Int) == 1099511627776) = false := by simp [ha]
  clear r1 ha
  by_cases hm : (d.length : Int) < (k : Int) + 1
  · have hnk : k < k + 1 := by omega
    have hn64 : k + 1 ≤ 64 := by omega
    have HT : Hid (trimL (tickTo d k (k + 1)) = tickL d k) := by show _ = _; unfold tickL; congr 2; omega
    go_enter Try.func77, Try.ntmps77
    go_wp2_with (first
      | (go_at_call 40; refine (check_any _ _ _ H1.out).mono ?_; rintro e w' ⟨rfl, hw⟩; replace hw := hw.symm; subst hw)
      | (go_at_call 58; refine (at_any _ _ _ _ H1.out).mono ?_; rintro e w' ⟨rfl, hw⟩; replace hw := hw.symm; subst hw)
      | (at_make; refine wpList_make_full _ rfl _ _ 31 rfl w.heap.size 3 i0 (.int .i64 0) 1 Try.underlying31 hi hz0 hz1 _ _ _ _ (k + 1) rfl rfl (by omega) (by omega) (by rw [hz2]; omega) (by unfold maxLen; omega) (Nat.le_refl _) ?_; intro w1 hown1 hgrow1))
    have HG1 : Hid (w1.heap[w.heap.size]? = some (.cells (List.replicate (k + 1) (Value.int .i64 0)).toArray 3 (0, 0))) := made_row hown1
    have bel1 : Below w.heap.size w w1 := (Below.refl _ _).grown hgrow1 (Nat.le_refl _) (fun j e => by cases e)
    clear hown1 hgrow1
    obtain ⟨w2, hrun, hg2, bel2⟩ := copied (n := k + 1) (c1 := c1) (by omega) bel1 HG1.out (HR.out.imp id fun ⟨b, o, e, g⟩ => ⟨b, o, e, g.below bel1⟩)
    obtain ⟨hcell, hfz⟩ := spliced_cell (n := k + 1) (by omega) hg2
    have HC : Hid (∀ i, i < k + 1 → w2.cell? ⟨w.heap.size, i, none⟩ = some (.int .i64 (d.getD i 0))) := hcell
    have x1 := hcell k hnk
    have x2 := hfz k
    clear hcell hfz hg2 HG1 bel1
    have k1 : (k : Int) < ((k + 1 : Nat) : Int) := by omega
    have k0 : (0 : Int) ≤ (k : Int) := by omega
    have b1 := (OkC.getD ((checkL_ok d).1 hc) k)
    obtain ⟨b1, b2⟩ := b1
    have HI3 : Hid (IsI (w2.setCell ⟨w.heap.size, k, none⟩ (.int .i64 (d.getD k 0 + 1))) (.slice (some ⟨w.heap.size, 0, none⟩) (k + 1) (k + 1)) (tickTo d k (k + 1))) := ticked_is hnk hn64 HC.out
    have bel3 : Below w.heap.size w (w2.setCell ⟨w.heap.size, k, none⟩ (.int .i64 (d.getD k 0 + 1))) := bel2.setCell (p := ⟨w.heap.size, k, none⟩) (Nat.le_refl _) _
    generalize hdk : d.getD k 0 = dk at *
    go_wp2_with (simp only [hrun])
    refine (trim_any _ _ _ HI3.out).mono ?_
    rintro e w4 ⟨v4, rfl, ho4, hb4⟩
    rw [HT.out] at ho4
    go_wp2
    go_ret2
    exact ⟨_, rfl, ownI_mono ho4 bel3.size, bel3.trans (hb4.mono bel3.size)⟩
  · have hnk : k < d.length := by omega
    have hn64 : d.length ≤ 64 := by omega
    have HT : Hid (trimL (tickTo d k (d.length)) = tickL d k) := by show _ = _; unfold tickL; congr 2; omega
    go_enter Try.func77, Try.ntmps77
    go_wp2_with (first
      | (go_at_call 40; refine (check_any _ _ _ H1.out).mono ?_; rintro e w' ⟨rfl, hw⟩; replace hw := hw.symm; subst hw)
      | (go_at_call 58; refine (at_any _ _ _ _ H1.out).mono ?_; rintro e w' ⟨rfl, hw⟩; replace hw := hw.symm; subst hw)
      | (at_make; refine wpList_make_full _ rfl _ _ 31 rfl w.heap.size 3 i0 (.int .i64 0) 1 Try.underlying31 hi hz0 hz1 _ _ _ _ (d.length) rfl rfl (by omega) (by omega) (by rw [hz2]; omega) (by unfold maxLen; omega) (Nat.le_refl _) ?_; intro w1 hown1 hgrow1))
    have HG1 : Hid (w1.heap[w.heap.size]? = some (.cells (List.replicate (d.length) (Value.int .i64 0)).toArray 3 (0, 0))) := made_row hown1
    have bel1 : Below w.heap.size w w1 := (Below.refl _ _).grown hgrow1 (Nat.le_refl _) (fun j e => by cases e)
    clear hown1 hgrow1
    obtain ⟨w2, hrun, hg2, bel2⟩ := copied (n := d.length) (c1 := c1) (by omega) bel1 HG1.out (HR.out.imp id fun ⟨b, o, e, g⟩ => ⟨b, o, e, g.below bel1⟩)
    obtain ⟨hcell, hfz⟩ := spliced_cell (n := d.length) (by omega) hg2
    have HC : Hid (∀ i, i < d.length → w2.cell? ⟨w.heap.size, i, none⟩ = some (.int .i64 (d.getD i 0))) := hcell
    have x1 := hcell k hnk
    have x2 := hfz k
    clear hcell hfz hg2 HG1 bel1
    have k1 : (k : Int) < ((d.length : Nat) : Int) := by omega
    have k0 : (0 : Int) ≤ (k : Int) := by omega
    have b1 := (OkC.getD ((checkL_ok d).1 hc) k)
    obtain ⟨b1, b2⟩ := b1
    have HI3 : Hid (IsI (w2.setCell ⟨w.heap.size, k, none⟩ (.int .i64 (d.getD k 0 + 1))) (.slice (some ⟨w.heap.size, 0, none⟩) (d.length) (d.length)) (tickTo d k (d.length))) := ticked_is hnk hn64 HC.out
    have bel3 : Below w.heap.size w (w2.setCell ⟨w.heap.size, k, none⟩ (.int .i64 (d.getD k 0 + 1))) := bel2.setCell (p := ⟨w.heap.size, k, none⟩) (Nat.le_refl _) _
    generalize hdk : d.getD k 0 = dk at *
    go_wp2_with (simp only [hrun])
    refine (trim_any _ _ _ HI3.out).mono ?_
    rintro e w4 ⟨v4, rfl, ho4, hb4⟩
    rw [HT.out] at ho4
    go_wp2
    go_ret2
    exact ⟨_, rfl, ownI_mono ho4 bel3.size, bel3.trans (hb4.mono bel3.size)⟩

/-- clock.Tick. -/
theorem tick_any (v : Value) (d : List Int) (r : Int) (w : World) (h1 : IsI w v d) :
    Calls Try.prog 77 #[v, .int .i64 r] w fun e w' => ∃ v', e = .returned (.tuple #[v', .int .i64 (tickE d r)]) ∧ OwnI w.heap.size w' v' (tickR d r) ∧ Below w.heap.size w w' := by
  by_cases h : tickE d r = 0
  · have hc : checkL d = 0 := by
      by_cases hc : checkL d = 0
      · exact hc
      · rw [tickE_check hc] at h; exact absurd h hc
    have hr : ¬ (r < 0 ∨ 64 ≤ r) := fun hr => by rw [tickE_range hc hr] at h; cases h
    have ha : ¬ atL d r = 1099511627776 := fun ha => by rw [tickE_full hc hr ha] at h; cases h
    obtain ⟨k, rfl⟩ : ∃ k : Nat, r = (k : Int) := ⟨r.toNat, by omega⟩
    refine (tick_ok v d k w h1 hc (by omega) ha).mono ?_
    rintro e w' ⟨v', rfl, ho, hb⟩
    exact ⟨v', by rw [h], by rw [tickR_ok h]; exact ho, hb⟩
  · refine (tick_no v d r w h1 h).mono ?_
    rintro e w' ⟨rfl, hb⟩
    exact ⟨_, rfl, by rw [tickR_no h]; exact OwnI.nil0 _ _, hb⟩

set_option maxHeartbeats 1000000 in
theorem refTick_no (v : Value) (d : List Int) (r : Int) (w : World) (h1 : IsI w v d) (h : tickE d r ≠ 0) :
    Calls Try.prog 55 #[v, .int .i64 r] w fun e w' => e = .returned (.tuple #[.slice none 0 0, .int .i64 (tickE d r)]) ∧ Below w.heap.size w w' := by
  have H1 : Hid (IsI w v d) := h1
  clear h1
  by_cases hc : checkL d = 0
  · by_cases h0 : r < 0
    · have HE : Hid (tickE d r = 1) := tickE_range hc (.inl h0)
      clear h
      go_enter Try.func55, Try.ntmps55
      go_wp2_with (go_at_call 25; refine (refCheck_any _ _ _ H1.out).mono ?_; rintro e w' ⟨rfl, hw⟩; replace hw := hw.symm; subst hw)
      go_ret2
      exact ⟨ret_err HE.out.symm, Below.refl _ _⟩
    · by_cases h64 : 64 ≤ r
      · have HE : Hid (tickE d r = 1) := tickE_range hc (.inr h64)
        clear h
        go_enter Try.func55, Try.ntmps55
        go_wp2_with (go_at_call 25; refine (refCheck_any _ _ _ H1.out).mono ?_; rintro e w' ⟨rfl, hw⟩; replace hw := hw.symm; subst hw)
        go_ret2
        exact ⟨ret_err HE.out.symm, Below.refl _ _⟩
      · by_cases ha : atL d r = 1099511627776
        · have HE : Hid (tickE d r = 6) := tickE_full hc (by omega) ha
          have q : (atL d r == 1099511627776) = true := by simp [ha]
          clear h ha
          go_enter Try.func55, Try.ntmps55
          go_wp2_with (first
            | (go_at_call 25; refine (refCheck_any _ _ _ H1.out).mono ?_; rintro e w' ⟨rfl, hw⟩; replace hw := hw.symm; subst hw)
            | (go_at_call 50; refine (refAt_any _ _ _ _ H1.out).mono ?_; rintro e w' ⟨rfl, hw⟩; replace hw := hw.symm; subst hw))
          go_ret2
          exact ⟨ret_err HE.out.symm, Below.refl _ _⟩
        · exact absurd (tickE_ok hc (by omega) ha) h
  · have HE : Hid (tickE d r = checkL d) := tickE_check hc
    have q : (checkL d != 0) = true := by simp [hc]
    clear h hc
    go_enter Try.func55, Try.ntmps55
    go_wp2_with (go_at_call 25; refine (refCheck_any _ _ _ H1.out).mono ?_; rintro e w' ⟨rfl, hw⟩; replace hw := hw.symm; subst hw)
    go_ret2
    exact ⟨ret_err HE.out.symm, Below.refl _ _⟩

set_option maxHeartbeats 2000000 in
/-- The document's Tick, where it errs not. -/
theorem refTick_ok (v : Value) (d : List Int) (k : Nat) (w : World) (h1 : IsI w v d) (hc : checkL d = 0) (hk : k < 64) (ha : ¬ atL d (k : Int) = 1099511627776) :
    Calls Try.prog 55 #[v, .int .i64 (k : Int)] w fun e w' => ∃ v', e = .returned (.tuple #[v', .int .i64 0]) ∧ OwnI w.heap.size w' v' (tickL d k) ∧ Below w.heap.size w w' := by
  obtain ⟨i0, hi, hz0, hz1, hz2⟩ := info_parts infoInt
  have hl := ((checkL_ok d).1 hc).1
  have HCK : Hid (OkC d) := (checkL_ok d).1 hc
  have H1 : Hid (IsI w v d) := h1
  have q : (atL d (k : Int) == 1099511627776) = false := by simp [ha]
  clear h1 ha
  have HO0 : Hid (OwnI w.heap.size (w.alloc (.cells #[] 3)) (.slice (some ⟨w.heap.size, 0, none⟩) 0 0) (tickTo d k 0)) := OwnI.empty w _ (Nat.le_refl _)
  have HB0 : Hid (Below w.heap.size w (w.alloc (.cells #[] 3))) := (Below.refl _ _).alloc (Nat.le_refl _) _
  have kn1 : ¬ (k : Int) < 0 := by omega
  have kn2 : ¬ (64 : Int) ≤ (k : Int) := by omega
  go_enter Try.func55, Try.ntmps55
  go_wp2_with (first
    | (go_at_call 25; refine (refCheck_any _ _ _ H1.out).mono ?_; rintro e w' ⟨rfl, hw⟩; replace hw := hw.symm; subst hw)
    | (go_at_call 50; refine (refAt_any _ _ _ _ H1.out).mono ?_; rintro e w' ⟨rfl, hw⟩; replace hw := hw.symm; subst hw))
  go_loopw [6, 7] (fun out i wr => ∃ j : Nat, j ≤ 64 ∧ i = .int .i64 (j : Int) ∧ Hid (OwnI w.heap.size wr out (tickTo d k j)) ∧ Hid (Below w.heap.size w wr)) (fun _ i _ => 64 - (intOf i).toNat)
  case atStart => exact ⟨0, Nat.zero_le _, rfl, HO0, HB0⟩
  case round =>
    obtain ⟨j, hj, rfl, HO, HB⟩ := hrel
    have hsz := HB.out.size
    obtain ⟨ao, co, e0⟩ := HO.out.form
    subst e0
    have hml : (tickTo d k j).length = j := tickTo_length d k j
    rw [hml] at HO ⊢
    have HOx : OwnI w.heap.size wr (.slice ao j co) (tickTo d k j) := HO.out
    clear HO
    have HO : Hid (wr.ownsRow w.heap.size 3 1 (.slice ao j co) (tickTo d k j).length (cellsI (tickTo d k j))) := HOx
    have hbl : Hid (∀ j', (Value.slice ao j co).ownBlock = some j' → w.heap.size ≤ j') := fun j' e => OwnI.block HOx j' e
    clear HOx
    have hb := HCK.out.getD j
    rw [← atL_nat] at hb
    obtain ⟨b1, b2⟩ := hb
    by_cases hlt : j < 64
    · have k1 : (j : Int) < 64 := by omega
      have k0 : (0 : Int) ≤ (j : Int) := by omega
      by_cases hjk : j = k
      · have HV : Hid (tickTo d k j ++ [(atL d (j : Int) + 1)] = tickTo d k (j + 1)) := by show _ = _; rw [tickTo_succ, if_pos hjk, atL_nat]
        have q2 : ((j : Int) == (k : Int)) = true := by simp [hjk]
        clear hjk
        go_wp2_with (first
          | (go_at_call 50; refine (refAt_any _ d _ _ (by exact H1.out.below HB.out)).mono ?_; rintro e w' ⟨rfl, hw⟩; replace hw := hw.symm; subst hw)
          | (at_builtin; refine wpList_append_own _ rfl _ _ 31 rfl w.heap.size 3 i0 (.int .i64 0) 1 8 Try.underlying31 hi hz0 hz1 hz2 rfl (by decide) _ _ _ rfl (World.ownsRow.alloc HO.out _) ⟨wr.heap.size, 0, none⟩ 1 1 [.int .i64 (atL d (j : Int) + 1)] rfl rfl (cell_one_new _ _ _) (fun x hx => by simp at hx; subst hx; rfl) (by unfold maxLen; omega) (by omega) (by simp; omega) ?_; intro v' w3 hown' hgrow3 hnil3))
        go_roundw
        case rel =>
          have h5 : OwnI w.heap.size _ _ (tickTo d k j ++ [(atL d (j : Int) + 1)]) := OwnI.snoc hown'
          rw [HV.out] at h5
          exact ⟨j + 1, by omega, by go_num, h5, (HB.out.alloc (by omega) _).grown hgrow3 (by simp; omega) hbl.out⟩
        case measure => simp [intOf]; omega
      · have HV : Hid (tickTo d k j ++ [(atL d (j : Int))] = tickTo d k (j + 1)) := by show _ = _; rw [tickTo_succ, if_neg hjk, atL_nat]
        have q2 : ((j : Int) == (k : Int)) = false := by simp; omega
        clear hjk
        go_wp2_with (first
          | (go_at_call 50; refine (refAt_any _ d _ _ (by exact H1.out.below HB.out)).mono ?_; rintro e w' ⟨rfl, hw⟩; replace hw := hw.symm; subst hw)
          | (at_builtin; refine wpList_append_own _ rfl _ _ 31 rfl w.heap.size 3 i0 (.int .i64 0) 1 8 Try.underlying31 hi hz0 hz1 hz2 rfl (by decide) _ _ _ rfl (World.ownsRow.alloc HO.out _) ⟨wr.heap.size, 0, none⟩ 1 1 [.int .i64 (atL d (j : Int))] rfl rfl (cell_one_new _ _ _) (fun x hx => by simp at hx; subst hx; rfl) (by unfold maxLen; omega) (by omega) (by simp; omega) ?_; intro v' w3 hown' hgrow3 hnil3))
        go_roundw
        case rel =>
          have h5 : OwnI w.heap.size _ _ (tickTo d k j ++ [(atL d (j : Int))]) := OwnI.snoc hown'
          rw [HV.out] at h5
          exact ⟨j + 1, by omega, by go_num, h5, (HB.out.alloc (by omega) _).grown hgrow3 (by simp; omega) hbl.out⟩
        case measure => simp [intOf]; omega
    · obtain rfl : j = 64 := by omega
      have HE : Hid (trimL (tickTo d k 64) = tickL d k) := tickL_64 hl hk
      have HI : Hid (IsI wr (.slice ao 64 co) (tickTo d k 64)) := OwnI.isI HO.out (by rw [hml]; omega)
      go_wp2_with fail
      refine (refTrim_any _ _ _ HI.out).mono ?_
      rintro e w4 ⟨v4, rfl, ho4, hb4⟩
      rw [HE.out] at ho4
      go_wp2
      go_ret2
      exact ⟨_, rfl, ownI_mono ho4 hsz, HB.out.trans (hb4.mono hsz)⟩

/-- The document's Tick. -/
theorem refTick_any (v : Value) (d : List Int) (r : Int) (w : World) (h1 : IsI w v d) :
    Calls Try.prog 55 #[v, .int .i64 r] w fun e w' => ∃ v', e = .returned (.tuple #[v', .int .i64 (tickE d r)]) ∧ OwnI w.heap.size w' v' (tickR d r) ∧ Below w.heap.size w w' := by
  by_cases h : tickE d r = 0
  · have hc : checkL d = 0 := by
      by_cases hc : checkL d = 0
      · exact hc
      · rw [tickE_check hc] at h; exact absurd h hc
    have hr : ¬ (r < 0 ∨ 64 ≤ r) := fun hr => by rw [tickE_range hc hr] at h; cases h
    have ha : ¬ atL d r = 1099511627776 := fun ha => by rw [tickE_full hc hr ha] at h; cases h
    obtain ⟨k, rfl⟩ : ∃ k : Nat, r = (k : Int) := ⟨r.toNat, by omega⟩
    refine (refTick_ok v d k w h1 hc (by omega) ha).mono ?_
    rintro e w' ⟨v', rfl, ho, hb⟩
    exact ⟨v', by rw [h], by rw [tickR_ok h]; exact ho, hb⟩
  · refine (refTick_no v d r w h1 h).mono ?_
    rintro e w' ⟨rfl, hb⟩
    exact ⟨_, rfl, by rw [tickR_no h]; exact OwnI.nil0 _ _, hb⟩

theorem tickR_len (d : List Int) (r : Int) : (tickR d r).length ≤ 64 := by
  by_cases h : tickE d r = 0
  · have hc : checkL d = 0 := by
      by_cases hc : checkL d = 0
      · exact hc
      · rw [tickE_check hc] at h; exact absurd h hc
    have hr : ¬ (r < 0 ∨ 64 ≤ r) := fun hr => by rw [tickE_range hc hr] at h; cases h
    have hl := ((checkL_ok d).1 hc).1
    unfold tickR
    rw [if_pos h]
    unfold tickL
    have := trim_length (tickTo d r.toNat (max d.length (r.toNat + 1)))
    rw [tickTo_length] at this
    omega
  · rw [tickR_no h]; simp

end Go.Proofs.Ythndgmnckpimmaa
