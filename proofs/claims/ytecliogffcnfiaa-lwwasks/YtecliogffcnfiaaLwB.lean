/- Boxes; isOwner, Check, Wins, and the document's. -/
import Derived.Test.YtecliogffcnfiaaLwE
import Derived.Test.YtecliogffcnfiaaLwN
import Derived.Test.YtecliogffcnfiaaWalksB
import Derived.Test.YtecliogffcnfiaaIdE
import Derived.Deep.RegionHeld
namespace Go.Proofs.Ytecliogffcnfiaa
open Go.RowKit
set_option linter.unusedVariables false
set_option linter.unusedSimpArgs false
/-- A box: a block of these cells. -/
def BxC (b : Nat) (cs : List Value) (T : TypeId) (W : World) : Prop := W.heap[b]? = some (.cells cs.toArray T)
section
variable {b : Nat} {cs : List Value} {T : TypeId} {W W' : World}
theorem BxC.lt (h : BxC b cs T W) : b < W.heap.size := row_lt h
theorem BxC.keep (h : BxC b cs T W) (hk : W'.heap[b]? = W.heap[b]?) : BxC b cs T W' := hk.trans h
theorem BxC.below (h : BxC b cs T W) (hb : Below W.heap.size W W') : BxC b cs T W' := h.keep (hb.block b h.lt)
theorem BxC.touch (h : BxC b cs T W) {G : Nat → Prop} (ht : Touch G W W') (hG : ¬ G b) : BxC b cs T W' := h.keep (ht.block b h.lt hG)
theorem BxC.cell (h : BxC b cs T W) (i : Nat) (v : Value) (hv : cs[i]? = some v) : W.cell? ⟨b, i, none⟩ = some v := by
  rw [cell_of_row W b i _ _ _ h, List.getElem?_toArray]
  exact hv
theorem BxC.free (h : BxC b cs T W) (i : Nat) : W.frozen? ⟨b, i, none⟩ = false := frozen_of_row W b i _ _ h
theorem BxC.new (w : World) (cs : List Value) (T : TypeId) : BxC w.heap.size cs T (w.alloc (.cells cs.toArray T)) := heap_alloc_new w _
theorem BxC.new2 (w : World) (cs ds : List Value) (T U : TypeId) : BxC w.heap.size cs T ((w.alloc (.cells cs.toArray T)).alloc (.cells ds.toArray U)) ∧ BxC (w.heap.size + 1) ds U ((w.alloc (.cells cs.toArray T)).alloc (.cells ds.toArray U)) := by
  refine ⟨(Below.heap_alloc _ _ _ (by simp)).trans (heap_alloc_new w _), ?_⟩
  have := heap_alloc_new (w.alloc (.cells cs.toArray T)) (.cells ds.toArray U)
  simpa [BxC] using this
theorem BxC.new3 (w : World) (cs ds es : List Value) (T U V : TypeId) : BxC w.heap.size cs T (((w.alloc (.cells cs.toArray T)).alloc (.cells ds.toArray U)).alloc (.cells es.toArray V)) ∧ BxC (w.heap.size + 1) ds U (((w.alloc (.cells cs.toArray T)).alloc (.cells ds.toArray U)).alloc (.cells es.toArray V)) ∧ BxC (w.heap.size + 2) es V (((w.alloc (.cells cs.toArray T)).alloc (.cells ds.toArray U)).alloc (.cells es.toArray V)) := by
  obtain ⟨h1, h2⟩ := BxC.new2 w cs ds T U
  refine ⟨(Below.heap_alloc _ _ _ (by simp; omega)).trans h1, (Below.heap_alloc _ _ _ (by simp)).trans h2, ?_⟩
  have := heap_alloc_new ((w.alloc (.cells cs.toArray T)).alloc (.cells ds.toArray U)) (.cells es.toArray V)
  simpa [BxC] using this
end
theorem right_bel (c r : Int) (w : World) :
    Calls Try.prog 26 #[.agg #[.int .i64 c, .int .i64 r]] w fun e w' => e = .returned (.bool (rightB c r)) ∧ Below w.heap.size w w' :=
  (right_any c r w).mono fun e w' ⟨h, hw⟩ => ⟨h, hw ▸ (Below.refl _ _).alloc (Nat.le_refl _) _⟩


theorem refRight_bel (c r : Int) (w : World) :
    Calls Try.prog 29 #[.agg #[.int .i64 c, .int .i64 r]] w fun e w' => e = .returned (.bool (rightB c r)) ∧ Below w.heap.size w w' :=
  (refRight_any c r w).mono fun e w' ⟨h, hw⟩ => ⟨h, hw ▸ (Below.refl _ _).alloc (Nat.le_refl _) _⟩
/-- Texts as the walk compares them. -/
theorem txt_eq (a b : ByteArray) : (a.toList == b.toList) = decide (a = b) := by
  rw [Go.Lib.toList_data, Go.Lib.toList_data]
  by_cases e : a = b
  · subst e; simp
  · rw [decide_eq_false e]
    exact beq_eq_false_iff_ne.2 fun h => e (tx_ext h)
theorem txt_less (a b : ByteArray) : Op.bytesLess a.toList b.toList = ltT a b := by
  rw [Go.Lib.toList_data, Go.Lib.toList_data, bytesLess_eq]
  rfl
theorem txt_gtr (a b : ByteArray) : (!(Op.bytesLess a.toList b.toList || a.toList == b.toList)) = ltT b a := by
  rw [txt_less, txt_eq]
  by_cases e : a = b
  · subst e; simp [ltT_irr]
  · cases h : ltT a b with
    | true => simp [ltT_asym h]
    | false =>
      rcases ltT_or e with h2 | h2
      · rw [h] at h2; cases h2
      · simp [h2, e]
theorem gtrS (t : TypeId) (a b : ByteArray) (w : World) : (binOp .gtr t (.string a) (.string b)).run Try.prog w = .ok (.bool (ltT b a)) w := by
  rw [← txt_gtr]
  simp [binOp, Op.stringOp]
theorem lssS (t : TypeId) (a b : ByteArray) (w : World) : (binOp .lss t (.string a) (.string b)).run Try.prog w = .ok (.bool (ltT a b)) w := by
  rw [← txt_less]
  simp [binOp, Op.stringOp]
theorem none_q {a : ByteArray} (h : a.size = 0) : (a.toList == []) = true := by
  rw [Go.Lib.toList_data]
  have : a.data.toList = [] := List.eq_nil_of_length_eq_zero (show a.data.toList.length = 0 by rw [Array.length_toList]; exact h)
  rw [this]
  rfl
theorem some_q {a : ByteArray} (h : a.size ≠ 0) : (a.toList == []) = false := by
  rw [Go.Lib.toList_data, beq_eq_false_iff_ne]
  intro e
  exact h (by rw [show a.size = a.data.toList.length by rw [Array.length_toList]; rfl, e]; rfl)

set_option maxHeartbeats 1000000 in
theorem isOwner_any (s : St) (w : World) :
    Calls Try.prog 25 #[.agg #[.int .i64 s.1, .int .i64 s.2]] w fun e w' => e = .returned (.bool (ownerB s)) ∧ Below w.heap.size w w' := by
  obtain ⟨c, r⟩ := s
  obtain ⟨W0, eW⟩ : ∃ X, X = w.alloc (.cells (stCells (c, r)).toArray 24) := ⟨_, rfl⟩
  have HB : Hid (Below w.heap.size w W0) := by rw [eW]; exact (Below.refl _ _).alloc (Nat.le_refl _) _
  have HX : Hid (BxC w.heap.size (stCells (c, r)) 24 W0) := by rw [eW]; exact BxC.new w _ _
  have x0 := HX.out.cell 0 _ rfl
  have x1 := HX.out.cell 1 _ rfl
  rw [eW] at x0 x1
  by_cases e1 : c = 0
  · by_cases e2 : r = 0
    · subst e1 e2
      go_enter Try.func25, Try.ntmps25
      go_wp2
      go_ret
      exact ⟨ret_bool rfl, by (rw [eW] at HB; exact HB.out)⟩
    · have e3 : (r == 0) = false := by simpa using e2
      subst e1
      have HE : Hid (ownerB (0, r) = rightB 0 r) := by (show _ = _; unfold ownerB; simp [e2])
      go_enter Try.func25, Try.ntmps25
      go_wp2_with fail
      have eW2 := eW
      simp only [stCells] at eW2
      rw [← eW2]
      clear eW2 eW
      refine (right_bel _ _ _).mono ?_
      rintro e w1 ⟨rfl, hb⟩
      have HB1 : Hid (Below w.heap.size w w1) := HB.out.trans (hb.mono HB.out.size)
      clear hb x0 x1
      go_wp2
      go_ret
      exact ⟨ret_bool HE.out.symm, HB1.out⟩
  · have e3 : (c == 0) = false := by simpa using e1
    have HE : Hid (ownerB (c, r) = rightB c r) := by (show _ = _; unfold ownerB; simp [e1])
    go_enter Try.func25, Try.ntmps25
    go_wp2_with fail
    have eW2 := eW
    simp only [stCells] at eW2
    rw [← eW2]
    clear eW2 eW
    refine (right_bel _ _ _).mono ?_
    rintro e w1 ⟨rfl, hb⟩
    have HB1 : Hid (Below w.heap.size w w1) := HB.out.trans (hb.mono HB.out.size)
    clear hb x0 x1
    go_wp2
    go_ret
    exact ⟨ret_bool HE.out.symm, HB1.out⟩

set_option maxRecDepth 100000 in
set_option maxHeartbeats 4000000 in
theorem check_any (r : Rg) (hs : r.nm.size ≤ 281474976710656) (w : World) :
    Calls Try.prog 16 #[.agg #[.int .i64 r.nd.1, .int .i64 r.nd.2, .string r.nm, .int .i64 r.at_.1, .int .i64 r.at_.2, .string r.vl, .bool r.gn]] w fun e w' => e = .returned (.int .i64 (chkR r)) ∧ Below w.heap.size w w' := by
  obtain ⟨⟨nc, nr⟩, nm, ⟨ac, ar⟩, vl, gn⟩ := r
  simp only at hs ⊢
  obtain ⟨W0, eW⟩ : ∃ X, X = w.alloc (.cells [.int .i64 nc, .int .i64 nr, .string nm, .int .i64 ac, .int .i64 ar, .string vl, .bool gn].toArray 26) := ⟨_, rfl⟩
  have HB : Hid (Below w.heap.size w W0) := by rw [eW]; exact (Below.refl _ _).alloc (Nat.le_refl _) _
  have HX : Hid (BxC w.heap.size [.int .i64 nc, .int .i64 nr, .string nm, .int .i64 ac, .int .i64 ar, .string vl, .bool gn] 26 W0) := by rw [eW]; exact BxC.new w _ _
  have x0 : W0.cell? ⟨w.heap.size, 0, none⟩ = some (.int .i64 nc) := HX.out.cell 0 _ rfl
  have x1 : W0.cell? ⟨w.heap.size, 1, none⟩ = some (.int .i64 nr) := HX.out.cell 1 _ rfl
  have x2 : W0.cell? ⟨w.heap.size, 2, none⟩ = some (.string nm) := HX.out.cell 2 _ rfl
  have x3 : W0.cell? ⟨w.heap.size, 3, none⟩ = some (.int .i64 ac) := HX.out.cell 3 _ rfl
  have x4 : W0.cell? ⟨w.heap.size, 4, none⟩ = some (.int .i64 ar) := HX.out.cell 4 _ rfl
  have x5 : W0.cell? ⟨w.heap.size, 5, none⟩ = some (.string vl) := HX.out.cell 5 _ rfl
  have x6 : W0.cell? ⟨w.heap.size, 6, none⟩ = some (.bool gn) := HX.out.cell 6 _ rfl
  rw [eW] at x0 x1 x2 x3 x4 x5 x6
  go_enter Try.func16, Try.ntmps16
  go_wp2_with fail
  rw [← eW]
  clear eW x0 x1 x2 x3 x4 x5 x6
  refine (isOwner_any (nc, nr) _).mono ?_
  rintro e w1 ⟨rfl, hb⟩
  replace HB : Hid (Below w.heap.size w w1) := HB.out.trans (hb.mono HB.out.size)
  replace HX : Hid (BxC w.heap.size [.int .i64 nc, .int .i64 nr, .string nm, .int .i64 ac, .int .i64 ar, .string vl, .bool gn] 26 w1) := HX.out.below hb
  clear hb
  have x0 : w1.cell? ⟨w.heap.size, 0, none⟩ = some (.int .i64 nc) := HX.out.cell 0 _ rfl
  have x1 : w1.cell? ⟨w.heap.size, 1, none⟩ = some (.int .i64 nr) := HX.out.cell 1 _ rfl
  have x2 : w1.cell? ⟨w.heap.size, 2, none⟩ = some (.string nm) := HX.out.cell 2 _ rfl
  have x3 : w1.cell? ⟨w.heap.size, 3, none⟩ = some (.int .i64 ac) := HX.out.cell 3 _ rfl
  have x4 : w1.cell? ⟨w.heap.size, 4, none⟩ = some (.int .i64 ar) := HX.out.cell 4 _ rfl
  have x5 : w1.cell? ⟨w.heap.size, 5, none⟩ = some (.string vl) := HX.out.cell 5 _ rfl
  have x6 : w1.cell? ⟨w.heap.size, 6, none⟩ = some (.bool gn) := HX.out.cell 6 _ rfl
  cases hO : ownerB (nc, nr) with
  | false =>
    have HL : Hid (chkR ⟨⟨nc, nr⟩, nm, ⟨ac, ar⟩, vl, gn⟩ = 2) := by (show _ = _; unfold chkR; simp [hO])
    go_wp2
    go_ret
    exact ⟨ret_int HL.out.symm, HB.out⟩
  | true =>
    go_wp2_with fail
    clear x0 x1 x2 x3 x4 x5 x6
    refine (right_bel ac ar _).mono ?_
    rintro e w2 ⟨rfl, hb⟩
    replace HB : Hid (Below w.heap.size w w2) := HB.out.trans (hb.mono HB.out.size)
    replace HX : Hid (BxC w.heap.size [.int .i64 nc, .int .i64 nr, .string nm, .int .i64 ac, .int .i64 ar, .string vl, .bool gn] 26 w2) := HX.out.below hb
    clear hb
    have x0 : w2.cell? ⟨w.heap.size, 0, none⟩ = some (.int .i64 nc) := HX.out.cell 0 _ rfl
    have x1 : w2.cell? ⟨w.heap.size, 1, none⟩ = some (.int .i64 nr) := HX.out.cell 1 _ rfl
    have x2 : w2.cell? ⟨w.heap.size, 2, none⟩ = some (.string nm) := HX.out.cell 2 _ rfl
    have x3 : w2.cell? ⟨w.heap.size, 3, none⟩ = some (.int .i64 ac) := HX.out.cell 3 _ rfl
    have x4 : w2.cell? ⟨w.heap.size, 4, none⟩ = some (.int .i64 ar) := HX.out.cell 4 _ rfl
    have x5 : w2.cell? ⟨w.heap.size, 5, none⟩ = some (.string vl) := HX.out.cell 5 _ rfl
    have x6 : w2.cell? ⟨w.heap.size, 6, none⟩ = some (.bool gn) := HX.out.cell 6 _ rfl
    cases hA : rightB ac ar with
    | false =>
      have HL : Hid (chkR ⟨⟨nc, nr⟩, nm, ⟨ac, ar⟩, vl, gn⟩ = 2) := by (show _ = _; unfold chkR; simp [hO, hA])
      go_wp2
      go_ret
      exact ⟨ret_int HL.out.symm, HB.out⟩
    | true =>
      by_cases h1 : nm.size = 0
      · have q1 := none_q h1
        by_cases h2 : 256 < vl.size
        · have q2 : (256 : Int) < (vl.size : Int) := by omega
          have HL : Hid (chkR ⟨⟨nc, nr⟩, nm, ⟨ac, ar⟩, vl, gn⟩ = 3) := by (show _ = _; unfold chkR; simp [hO, hA, h1, h2])
          go_wp2
          go_ret
          exact ⟨ret_int HL.out.symm, HB.out⟩
        · have q2 : ¬ (256 : Int) < (vl.size : Int) := by omega
          cases gn with
          | false =>
            have HL : Hid (chkR ⟨⟨nc, nr⟩, nm, ⟨ac, ar⟩, vl, false⟩ = 0) := by (show _ = _; unfold chkR; simp [hO, hA, h1, h2])
            go_wp2
            go_ret
            exact ⟨ret_int HL.out.symm, HB.out⟩
          | true =>
            by_cases h3 : vl.size = 0
            · have q3 := none_q h3
              have HL : Hid (chkR ⟨⟨nc, nr⟩, nm, ⟨ac, ar⟩, vl, true⟩ = 0) := by (show _ = _; unfold chkR; simp [hO, hA, h1, h2, h3])
              go_wp2
              go_ret
              exact ⟨ret_int HL.out.symm, HB.out⟩
            · have q3 := some_q h3
              have HL : Hid (chkR ⟨⟨nc, nr⟩, nm, ⟨ac, ar⟩, vl, true⟩ = 2) := by (show _ = _; unfold chkR; simp [hO, hA, h1, h2, h3])
              go_wp2
              go_ret
              exact ⟨ret_int HL.out.symm, HB.out⟩
      · have q1 := some_q h1
        go_wp2_with fail
        refine (name_any nm hs _).mono ?_
        rintro e w9 ⟨rfl, hw⟩
        replace hw := hw.symm
        subst hw
        cases hN : nameL nm.data.toList with
        | false =>
          have HL : Hid (chkR ⟨⟨nc, nr⟩, nm, ⟨ac, ar⟩, vl, gn⟩ = 8) := by (show _ = _; unfold chkR; simp [hO, hA, h1, hN])
          go_wp2
          go_ret
          exact ⟨ret_int HL.out.symm, HB.out⟩
        | true =>
          by_cases h2 : 256 < vl.size
          · have q2 : (256 : Int) < (vl.size : Int) := by omega
            have HL : Hid (chkR ⟨⟨nc, nr⟩, nm, ⟨ac, ar⟩, vl, gn⟩ = 3) := by (show _ = _; unfold chkR; simp [hO, hA, h1, hN, h2])
            go_wp2
            go_ret
            exact ⟨ret_int HL.out.symm, HB.out⟩
          · have q2 : ¬ (256 : Int) < (vl.size : Int) := by omega
            cases gn with
            | false =>
              have HL : Hid (chkR ⟨⟨nc, nr⟩, nm, ⟨ac, ar⟩, vl, false⟩ = 0) := by (show _ = _; unfold chkR; simp [hO, hA, h1, hN, h2])
              go_wp2
              go_ret
              exact ⟨ret_int HL.out.symm, HB.out⟩
            | true =>
              by_cases h3 : vl.size = 0
              · have q3 := none_q h3
                have HL : Hid (chkR ⟨⟨nc, nr⟩, nm, ⟨ac, ar⟩, vl, true⟩ = 0) := by (show _ = _; unfold chkR; simp [hO, hA, h1, hN, h2, h3])
                go_wp2
                go_ret
                exact ⟨ret_int HL.out.symm, HB.out⟩
              · have q3 := some_q h3
                have HL : Hid (chkR ⟨⟨nc, nr⟩, nm, ⟨ac, ar⟩, vl, true⟩ = 2) := by (show _ = _; unfold chkR; simp [hO, hA, h1, hN, h2, h3])
                go_wp2
                go_ret
                exact ⟨ret_int HL.out.symm, HB.out⟩

set_option maxRecDepth 100000 in
set_option maxHeartbeats 4000000 in
theorem refCheck_any (r : Rg) (hs : r.nm.size ≤ 281474976710656) (w : World) :
    Calls Try.prog 18 #[.agg #[.int .i64 r.nd.1, .int .i64 r.nd.2, .string r.nm, .int .i64 r.at_.1, .int .i64 r.at_.2, .string r.vl, .bool r.gn]] w fun e w' => e = .returned (.int .i64 (chkR r)) ∧ Below w.heap.size w w' := by
  obtain ⟨⟨nc, nr⟩, nm, ⟨ac, ar⟩, vl, gn⟩ := r
  simp only at hs ⊢
  obtain ⟨W0, eW⟩ : ∃ X, X = w.alloc (.cells [.int .i64 nc, .int .i64 nr, .string nm, .int .i64 ac, .int .i64 ar, .string vl, .bool gn].toArray 26) := ⟨_, rfl⟩
  have HB : Hid (Below w.heap.size w W0) := by rw [eW]; exact (Below.refl _ _).alloc (Nat.le_refl _) _
  have HX : Hid (BxC w.heap.size [.int .i64 nc, .int .i64 nr, .string nm, .int .i64 ac, .int .i64 ar, .string vl, .bool gn] 26 W0) := by rw [eW]; exact BxC.new w _ _
  have x0 : W0.cell? ⟨w.heap.size, 0, none⟩ = some (.int .i64 nc) := HX.out.cell 0 _ rfl
  have x1 : W0.cell? ⟨w.heap.size, 1, none⟩ = some (.int .i64 nr) := HX.out.cell 1 _ rfl
  have x2 : W0.cell? ⟨w.heap.size, 2, none⟩ = some (.string nm) := HX.out.cell 2 _ rfl
  have x3 : W0.cell? ⟨w.heap.size, 3, none⟩ = some (.int .i64 ac) := HX.out.cell 3 _ rfl
  have x4 : W0.cell? ⟨w.heap.size, 4, none⟩ = some (.int .i64 ar) := HX.out.cell 4 _ rfl
  have x5 : W0.cell? ⟨w.heap.size, 5, none⟩ = some (.string vl) := HX.out.cell 5 _ rfl
  have x6 : W0.cell? ⟨w.heap.size, 6, none⟩ = some (.bool gn) := HX.out.cell 6 _ rfl
  rw [eW] at x0 x1 x2 x3 x4 x5 x6
  by_cases e1 : nc = 0
  · by_cases e2 : nr = 0
    · have hO : ownerB (nc, nr) = true := by unfold ownerB; simp [e1, e2]
      subst e1 e2
      go_enter Try.func18, Try.ntmps18
      go_wp2_with fail
      rw [← eW]
      clear eW x0 x1 x2 x3 x4 x5 x6
      refine (refRight_bel ac ar _).mono ?_
      rintro e w2 ⟨rfl, hb⟩
      replace HB : Hid (Below w.heap.size w w2) := HB.out.trans (hb.mono HB.out.size)
      replace HX : Hid (BxC w.heap.size [.int .i64 0, .int .i64 0, .string nm, .int .i64 ac, .int .i64 ar, .string vl, .bool gn] 26 w2) := HX.out.below hb
      clear hb
      have x0 : w2.cell? ⟨w.heap.size, 0, none⟩ = some (.int .i64 0) := HX.out.cell 0 _ rfl
      have x1 : w2.cell? ⟨w.heap.size, 1, none⟩ = some (.int .i64 0) := HX.out.cell 1 _ rfl
      have x2 : w2.cell? ⟨w.heap.size, 2, none⟩ = some (.string nm) := HX.out.cell 2 _ rfl
      have x3 : w2.cell? ⟨w.heap.size, 3, none⟩ = some (.int .i64 ac) := HX.out.cell 3 _ rfl
      have x4 : w2.cell? ⟨w.heap.size, 4, none⟩ = some (.int .i64 ar) := HX.out.cell 4 _ rfl
      have x5 : w2.cell? ⟨w.heap.size, 5, none⟩ = some (.string vl) := HX.out.cell 5 _ rfl
      have x6 : w2.cell? ⟨w.heap.size, 6, none⟩ = some (.bool gn) := HX.out.cell 6 _ rfl
      cases hA : rightB ac ar with
      | false =>
        have HL : Hid (chkR ⟨⟨0, 0⟩, nm, ⟨ac, ar⟩, vl, gn⟩ = 2) := by (show _ = _; unfold chkR; simp [hO, hA])
        go_wp2
        go_ret
        exact ⟨ret_int HL.out.symm, HB.out⟩
      | true =>
        by_cases h1 : nm.size = 0
        · have q1 := none_q h1
          by_cases h2 : 256 < vl.size
          · have q2 : (256 : Int) < (vl.size : Int) := by omega
            have HL : Hid (chkR ⟨⟨0, 0⟩, nm, ⟨ac, ar⟩, vl, gn⟩ = 3) := by (show _ = _; unfold chkR; simp [hO, hA, h1, h2])
            go_wp2
            go_ret
            exact ⟨ret_int HL.out.symm, HB.out⟩
          · have q2 : ¬ (256 : Int) < (vl.size : Int) := by omega
            cases gn with
            | false =>
              have HL : Hid (chkR ⟨⟨0, 0⟩, nm, ⟨ac, ar⟩, vl, false⟩ = 0) := by (show _ = _; unfold chkR; simp [hO, hA, h1, h2])
              go_wp2
              go_ret
              exact ⟨ret_int HL.out.symm, HB.out⟩
            | true =>
              by_cases h3 : vl.size = 0
              · have q3 := none_q h3
                have HL : Hid (chkR ⟨⟨0, 0⟩, nm, ⟨ac, ar⟩, vl, true⟩ = 0) := by (show _ = _; unfold chkR; simp [hO, hA, h1, h2, h3])
                go_wp2
                go_ret
                exact ⟨ret_int HL.out.symm, HB.out⟩
              · have q3 := some_q h3
                have HL : Hid (chkR ⟨⟨0, 0⟩, nm, ⟨ac, ar⟩, vl, true⟩ = 2) := by (show _ = _; unfold chkR; simp [hO, hA, h1, h2, h3])
                go_wp2
                go_ret
                exact ⟨ret_int HL.out.symm, HB.out⟩
        · have q1 := some_q h1
          go_wp2_with fail
          refine (refName_any nm hs _).mono ?_
          rintro e w9 ⟨rfl, hw⟩
          replace hw := hw.symm
          subst hw
          cases hN : nameL nm.data.toList with
          | false =>
            have HL : Hid (chkR ⟨⟨0, 0⟩, nm, ⟨ac, ar⟩, vl, gn⟩ = 8) := by (show _ = _; unfold chkR; simp [hO, hA, h1, hN])
            go_wp2
            go_ret
            exact ⟨ret_int HL.out.symm, HB.out⟩
          | true =>
            by_cases h2 : 256 < vl.size
            · have q2 : (256 : Int) < (vl.size : Int) := by omega
              have HL : Hid (chkR ⟨⟨0, 0⟩, nm, ⟨ac, ar⟩, vl, gn⟩ = 3) := by (show _ = _; unfold chkR; simp [hO, hA, h1, hN, h2])
              go_wp2
              go_ret
              exact ⟨ret_int HL.out.symm, HB.out⟩
            · have q2 : ¬ (256 : Int) < (vl.size : Int) := by omega
              cases gn with
              | false =>
                have HL : Hid (chkR ⟨⟨0, 0⟩, nm, ⟨ac, ar⟩, vl, false⟩ = 0) := by (show _ = _; unfold chkR; simp [hO, hA, h1, hN, h2])
                go_wp2
                go_ret
                exact ⟨ret_int HL.out.symm, HB.out⟩
              | true =>
                by_cases h3 : vl.size = 0
                · have q3 := none_q h3
                  have HL : Hid (chkR ⟨⟨0, 0⟩, nm, ⟨ac, ar⟩, vl, true⟩ = 0) := by (show _ = _; unfold chkR; simp [hO, hA, h1, hN, h2, h3])
                  go_wp2
                  go_ret
                  exact ⟨ret_int HL.out.symm, HB.out⟩
                · have q3 := some_q h3
                  have HL : Hid (chkR ⟨⟨0, 0⟩, nm, ⟨ac, ar⟩, vl, true⟩ = 2) := by (show _ = _; unfold chkR; simp [hO, hA, h1, hN, h2, h3])
                  go_wp2
                  go_ret
                  exact ⟨ret_int HL.out.symm, HB.out⟩
    · have e3 : (nr == 0) = false := by simpa using e2
      have hO : ownerB (nc, nr) = rightB nc nr := by unfold ownerB; simp [e1, e2]
      subst e1
      go_enter Try.func18, Try.ntmps18
      go_wp2_with fail
      rw [← eW]
      clear eW x0 x1 x2 x3 x4 x5 x6
      refine (refRight_bel 0 nr _).mono ?_
      rintro e w1 ⟨rfl, hb⟩
      replace HB : Hid (Below w.heap.size w w1) := HB.out.trans (hb.mono HB.out.size)
      replace HX : Hid (BxC w.heap.size [.int .i64 0, .int .i64 nr, .string nm, .int .i64 ac, .int .i64 ar, .string vl, .bool gn] 26 w1) := HX.out.below hb
      clear hb
      have x0 : w1.cell? ⟨w.heap.size, 0, none⟩ = some (.int .i64 0) := HX.out.cell 0 _ rfl
      have x1 : w1.cell? ⟨w.heap.size, 1, none⟩ = some (.int .i64 nr) := HX.out.cell 1 _ rfl
      have x2 : w1.cell? ⟨w.heap.size, 2, none⟩ = some (.string nm) := HX.out.cell 2 _ rfl
      have x3 : w1.cell? ⟨w.heap.size, 3, none⟩ = some (.int .i64 ac) := HX.out.cell 3 _ rfl
      have x4 : w1.cell? ⟨w.heap.size, 4, none⟩ = some (.int .i64 ar) := HX.out.cell 4 _ rfl
      have x5 : w1.cell? ⟨w.heap.size, 5, none⟩ = some (.string vl) := HX.out.cell 5 _ rfl
      have x6 : w1.cell? ⟨w.heap.size, 6, none⟩ = some (.bool gn) := HX.out.cell 6 _ rfl
      have hR : rightB 0 nr = false := by simp [rightB]
      have HL : Hid (chkR ⟨⟨0, nr⟩, nm, ⟨ac, ar⟩, vl, gn⟩ = 2) := by (show _ = _; unfold chkR; simp [hO, hR])
      go_wp2
      go_ret
      exact ⟨ret_int HL.out.symm, HB.out⟩
  · have e3 : (nc == 0) = false := by simpa using e1
    have hO : ownerB (nc, nr) = rightB nc nr := by unfold ownerB; simp [e1]
    go_enter Try.func18, Try.ntmps18
    go_wp2_with fail
    rw [← eW]
    clear eW x0 x1 x2 x3 x4 x5 x6
    refine (refRight_bel nc nr _).mono ?_
    rintro e w1 ⟨rfl, hb⟩
    replace HB : Hid (Below w.heap.size w w1) := HB.out.trans (hb.mono HB.out.size)
    replace HX : Hid (BxC w.heap.size [.int .i64 nc, .int .i64 nr, .string nm, .int .i64 ac, .int .i64 ar, .string vl, .bool gn] 26 w1) := HX.out.below hb
    clear hb
    have x0 : w1.cell? ⟨w.heap.size, 0, none⟩ = some (.int .i64 nc) := HX.out.cell 0 _ rfl
    have x1 : w1.cell? ⟨w.heap.size, 1, none⟩ = some (.int .i64 nr) := HX.out.cell 1 _ rfl
    have x2 : w1.cell? ⟨w.heap.size, 2, none⟩ = some (.string nm) := HX.out.cell 2 _ rfl
    have x3 : w1.cell? ⟨w.heap.size, 3, none⟩ = some (.int .i64 ac) := HX.out.cell 3 _ rfl
    have x4 : w1.cell? ⟨w.heap.size, 4, none⟩ = some (.int .i64 ar) := HX.out.cell 4 _ rfl
    have x5 : w1.cell? ⟨w.heap.size, 5, none⟩ = some (.string vl) := HX.out.cell 5 _ rfl
    have x6 : w1.cell? ⟨w.heap.size, 6, none⟩ = some (.bool gn) := HX.out.cell 6 _ rfl
    cases hR : rightB nc nr with
    | false =>
      have HL : Hid (chkR ⟨⟨nc, nr⟩, nm, ⟨ac, ar⟩, vl, gn⟩ = 2) := by (show _ = _; unfold chkR; simp [hO, hR])
      go_wp2
      go_ret
      exact ⟨ret_int HL.out.symm, HB.out⟩
    | true =>
      go_wp2_with fail
      clear x0 x1 x2 x3 x4 x5 x6
      refine (refRight_bel ac ar _).mono ?_
      rintro e w2 ⟨rfl, hb⟩
      replace HB : Hid (Below w.heap.size w w2) := HB.out.trans (hb.mono HB.out.size)
      replace HX : Hid (BxC w.heap.size [.int .i64 nc, .int .i64 nr, .string nm, .int .i64 ac, .int .i64 ar, .string vl, .bool gn] 26 w2) := HX.out.below hb
      clear hb
      have x0 : w2.cell? ⟨w.heap.size, 0, none⟩ = some (.int .i64 nc) := HX.out.cell 0 _ rfl
      have x1 : w2.cell? ⟨w.heap.size, 1, none⟩ = some (.int .i64 nr) := HX.out.cell 1 _ rfl
      have x2 : w2.cell? ⟨w.heap.size, 2, none⟩ = some (.string nm) := HX.out.cell 2 _ rfl
      have x3 : w2.cell? ⟨w.heap.size, 3, none⟩ = some (.int .i64 ac) := HX.out.cell 3 _ rfl
      have x4 : w2.cell? ⟨w.heap.size, 4, none⟩ = some (.int .i64 ar) := HX.out.cell 4 _ rfl
      have x5 : w2.cell? ⟨w.heap.size, 5, none⟩ = some (.string vl) := HX.out.cell 5 _ rfl
      have x6 : w2.cell? ⟨w.heap.size, 6, none⟩ = some (.bool gn) := HX.out.cell 6 _ rfl
      cases hA : rightB ac ar with
      | false =>
        have HL : Hid (chkR ⟨⟨nc, nr⟩, nm, ⟨ac, ar⟩, vl, gn⟩ = 2) := by (show _ = _; unfold chkR; simp [hO, hR, hA])
        go_wp2
        go_ret
        exact ⟨ret_int HL.out.symm, HB.out⟩
      | true =>
        by_cases h1 : nm.size = 0
        · have q1 := none_q h1
          by_cases h2 : 256 < vl.size
          · have q2 : (256 : Int) < (vl.size : Int) := by omega
            have HL : Hid (chkR ⟨⟨nc, nr⟩, nm, ⟨ac, ar⟩, vl, gn⟩ = 3) := by (show _ = _; unfold chkR; simp [hO, hR, hA, h1, h2])
            go_wp2
            go_ret
            exact ⟨ret_int HL.out.symm, HB.out⟩
          · have q2 : ¬ (256 : Int) < (vl.size : Int) := by omega
            cases gn with
            | false =>
              have HL : Hid (chkR ⟨⟨nc, nr⟩, nm, ⟨ac, ar⟩, vl, false⟩ = 0) := by (show _ = _; unfold chkR; simp [hO, hR, hA, h1, h2])
              go_wp2
              go_ret
              exact ⟨ret_int HL.out.symm, HB.out⟩
            | true =>
              by_cases h3 : vl.size = 0
              · have q3 := none_q h3
                have HL : Hid (chkR ⟨⟨nc, nr⟩, nm, ⟨ac, ar⟩, vl, true⟩ = 0) := by (show _ = _; unfold chkR; simp [hO, hR, hA, h1, h2, h3])
                go_wp2
                go_ret
                exact ⟨ret_int HL.out.symm, HB.out⟩
              · have q3 := some_q h3
                have HL : Hid (chkR ⟨⟨nc, nr⟩, nm, ⟨ac, ar⟩, vl, true⟩ = 2) := by (show _ = _; unfold chkR; simp [hO, hR, hA, h1, h2, h3])
                go_wp2
                go_ret
                exact ⟨ret_int HL.out.symm, HB.out⟩
        · have q1 := some_q h1
          go_wp2_with fail
          refine (refName_any nm hs _).mono ?_
          rintro e w9 ⟨rfl, hw⟩
          replace hw := hw.symm
          subst hw
          cases hN : nameL nm.data.toList with
          | false =>
            have HL : Hid (chkR ⟨⟨nc, nr⟩, nm, ⟨ac, ar⟩, vl, gn⟩ = 8) := by (show _ = _; unfold chkR; simp [hO, hR, hA, h1, hN])
            go_wp2
            go_ret
            exact ⟨ret_int HL.out.symm, HB.out⟩
          | true =>
            by_cases h2 : 256 < vl.size
            · have q2 : (256 : Int) < (vl.size : Int) := by omega
              have HL : Hid (chkR ⟨⟨nc, nr⟩, nm, ⟨ac, ar⟩, vl, gn⟩ = 3) := by (show _ = _; unfold chkR; simp [hO, hR, hA, h1, hN, h2])
              go_wp2
              go_ret
              exact ⟨ret_int HL.out.symm, HB.out⟩
            · have q2 : ¬ (256 : Int) < (vl.size : Int) := by omega
              cases gn with
              | false =>
                have HL : Hid (chkR ⟨⟨nc, nr⟩, nm, ⟨ac, ar⟩, vl, false⟩ = 0) := by (show _ = _; unfold chkR; simp [hO, hR, hA, h1, hN, h2])
                go_wp2
                go_ret
                exact ⟨ret_int HL.out.symm, HB.out⟩
              | true =>
                by_cases h3 : vl.size = 0
                · have q3 := none_q h3
                  have HL : Hid (chkR ⟨⟨nc, nr⟩, nm, ⟨ac, ar⟩, vl, true⟩ = 0) := by (show _ = _; unfold chkR; simp [hO, hR, hA, h1, hN, h2, h3])
                  go_wp2
                  go_ret
                  exact ⟨ret_int HL.out.symm, HB.out⟩
                · have q3 := some_q h3
                  have HL : Hid (chkR ⟨⟨nc, nr⟩, nm, ⟨ac, ar⟩, vl, true⟩ = 2) := by (show _ = _; unfold chkR; simp [hO, hR, hA, h1, hN, h2, h3])
                  go_wp2
                  go_ret
                  exact ⟨ret_int HL.out.symm, HB.out⟩

set_option maxRecDepth 100000 in
set_option maxHeartbeats 4000000 in
theorem wins_any (a b : Rg) (w : World) :
    Calls Try.prog 28 #[.agg #[.int .i64 a.nd.1, .int .i64 a.nd.2, .string a.nm, .int .i64 a.at_.1, .int .i64 a.at_.2, .string a.vl, .bool a.gn], .agg #[.int .i64 b.nd.1, .int .i64 b.nd.2, .string b.nm, .int .i64 b.at_.1, .int .i64 b.at_.2, .string b.vl, .bool b.gn]] w fun e w' => e = .returned (.bool (winB a b)) ∧ Below w.heap.size w w' := by
  obtain ⟨⟨anc, anr⟩, anm, ⟨aac, aar⟩, avl, agn⟩ := a
  obtain ⟨⟨bnc, bnr⟩, bnm, ⟨bac, bar⟩, bvl, bgn⟩ := b
  simp only
  obtain ⟨W0, eW⟩ : ∃ X, X = (w.alloc (.cells [.int .i64 anc, .int .i64 anr, .string anm, .int .i64 aac, .int .i64 aar, .string avl, .bool agn].toArray 26)).alloc (.cells [.int .i64 bnc, .int .i64 bnr, .string bnm, .int .i64 bac, .int .i64 bar, .string bvl, .bool bgn].toArray 26) := ⟨_, rfl⟩
  have HB : Hid (Below w.heap.size w W0) := by rw [eW]; exact ((Below.refl _ _).alloc (Nat.le_refl _) _).alloc (by simp) _
  have HX : Hid (BxC w.heap.size [.int .i64 anc, .int .i64 anr, .string anm, .int .i64 aac, .int .i64 aar, .string avl, .bool agn] 26 W0) := by rw [eW]; exact (BxC.new2 w _ _ _ _).1
  have HY : Hid (BxC (w.heap.size + 1) [.int .i64 bnc, .int .i64 bnr, .string bnm, .int .i64 bac, .int .i64 bar, .string bvl, .bool bgn] 26 W0) := by rw [eW]; exact (BxC.new2 w _ _ _ _).2
  have x0 : W0.cell? ⟨w.heap.size, 0, none⟩ = some (.int .i64 anc) := HX.out.cell 0 _ rfl
  have x1 : W0.cell? ⟨w.heap.size, 1, none⟩ = some (.int .i64 anr) := HX.out.cell 1 _ rfl
  have x2 : W0.cell? ⟨w.heap.size, 2, none⟩ = some (.string anm) := HX.out.cell 2 _ rfl
  have x3 : W0.cell? ⟨w.heap.size, 3, none⟩ = some (.int .i64 aac) := HX.out.cell 3 _ rfl
  have x4 : W0.cell? ⟨w.heap.size, 4, none⟩ = some (.int .i64 aar) := HX.out.cell 4 _ rfl
  have x5 : W0.cell? ⟨w.heap.size, 5, none⟩ = some (.string avl) := HX.out.cell 5 _ rfl
  have x6 : W0.cell? ⟨w.heap.size, 6, none⟩ = some (.bool agn) := HX.out.cell 6 _ rfl
  have y0 : W0.cell? ⟨w.heap.size + 1, 0, none⟩ = some (.int .i64 bnc) := HY.out.cell 0 _ rfl
  have y1 : W0.cell? ⟨w.heap.size + 1, 1, none⟩ = some (.int .i64 bnr) := HY.out.cell 1 _ rfl
  have y2 : W0.cell? ⟨w.heap.size + 1, 2, none⟩ = some (.string bnm) := HY.out.cell 2 _ rfl
  have y3 : W0.cell? ⟨w.heap.size + 1, 3, none⟩ = some (.int .i64 bac) := HY.out.cell 3 _ rfl
  have y4 : W0.cell? ⟨w.heap.size + 1, 4, none⟩ = some (.int .i64 bar) := HY.out.cell 4 _ rfl
  have y5 : W0.cell? ⟨w.heap.size + 1, 5, none⟩ = some (.string bvl) := HY.out.cell 5 _ rfl
  have y6 : W0.cell? ⟨w.heap.size + 1, 6, none⟩ = some (.bool bgn) := HY.out.cell 6 _ rfl
  rw [eW] at x0 x1 x2 x3 x4 x5 x6 y0 y1 y2 y3 y4 y5 y6
  by_cases e1 : aac = bac
  · by_cases e2 : aar = bar
    · subst e1 e2
      cases agn with
      | true =>
        cases bgn with
        | true =>
          have HL : Hid (winB ⟨⟨anc, anr⟩, anm, ⟨aac, aar⟩, avl, true⟩ ⟨⟨bnc, bnr⟩, bnm, ⟨aac, aar⟩, bvl, true⟩ = false) := by (show _ = _; unfold winB; simp)
          go_enter Try.func28, Try.ntmps28
          go_wp2
          go_ret
          exact ⟨ret_bool HL.out.symm, by (rw [eW] at HB; exact HB.out)⟩
        | false =>
          have HL : Hid (winB ⟨⟨anc, anr⟩, anm, ⟨aac, aar⟩, avl, true⟩ ⟨⟨bnc, bnr⟩, bnm, ⟨aac, aar⟩, bvl, false⟩ = false) := by (show _ = _; unfold winB; simp)
          go_enter Try.func28, Try.ntmps28
          go_wp2
          go_ret
          exact ⟨ret_bool HL.out.symm, by (rw [eW] at HB; exact HB.out)⟩
      | false =>
        cases bgn with
        | true =>
          have HL : Hid (winB ⟨⟨anc, anr⟩, anm, ⟨aac, aar⟩, avl, false⟩ ⟨⟨bnc, bnr⟩, bnm, ⟨aac, aar⟩, bvl, true⟩ = true) := by (show _ = _; unfold winB; simp)
          go_enter Try.func28, Try.ntmps28
          go_wp2
          go_ret
          exact ⟨ret_bool HL.out.symm, by (rw [eW] at HB; exact HB.out)⟩
        | false =>
          have hg : ∀ w, (binOp .gtr 9 (.string avl) (.string bvl)).run Try.prog w = .ok (.bool (ltT bvl avl)) w := gtrS _ _ _
          have HL : Hid (winB ⟨⟨anc, anr⟩, anm, ⟨aac, aar⟩, avl, false⟩ ⟨⟨bnc, bnr⟩, bnm, ⟨aac, aar⟩, bvl, false⟩ = ltT bvl avl) := by (show _ = _; unfold winB; simp)
          go_enter Try.func28, Try.ntmps28
          go_wp2
          go_ret
          exact ⟨ret_bool HL.out.symm, by (rw [eW] at HB; exact HB.out)⟩
    · have e3 : (aar == bar) = false := by simpa using e2
      have HL : Hid (winB ⟨⟨anc, anr⟩, anm, ⟨aac, aar⟩, avl, agn⟩ ⟨⟨bnc, bnr⟩, bnm, ⟨bac, bar⟩, bvl, bgn⟩ = lessS bac bar aac aar) := by (show _ = _; unfold winB; simp [e2]; rfl)
      subst e1
      go_enter Try.func28, Try.ntmps28
      go_wp2_with fail
      rw [← eW]
      clear eW x0 x1 x2 x3 x4 x5 x6 y0 y1 y2 y3 y4 y5 y6
      refine (less_any aac bar aac aar _).mono ?_
      rintro e w1 ⟨rfl, hb⟩
      replace HB : Hid (Below w.heap.size w w1) := HB.out.trans (hb.mono HB.out.size)
      clear hb
      go_wp2
      go_ret
      exact ⟨ret_bool HL.out.symm, HB.out⟩
  · have e3 : (aac == bac) = false := by simpa using e1
    have HL : Hid (winB ⟨⟨anc, anr⟩, anm, ⟨aac, aar⟩, avl, agn⟩ ⟨⟨bnc, bnr⟩, bnm, ⟨bac, bar⟩, bvl, bgn⟩ = lessS bac bar aac aar) := by (show _ = _; unfold winB; simp [e1]; rfl)
    go_enter Try.func28, Try.ntmps28
    go_wp2_with fail
    rw [← eW]
    clear eW x0 x1 x2 x3 x4 x5 x6 y0 y1 y2 y3 y4 y5 y6
    refine (less_any bac bar aac aar _).mono ?_
    rintro e w1 ⟨rfl, hb⟩
    replace HB : Hid (Below w.heap.size w w1) := HB.out.trans (hb.mono HB.out.size)
    clear hb
    go_wp2
    go_ret
    exact ⟨ret_bool HL.out.symm, HB.out⟩

set_option maxRecDepth 100000 in
set_option maxHeartbeats 4000000 in
theorem refWins_any (a b : Rg) (w : World) :
    Calls Try.prog 19 #[.agg #[.int .i64 a.nd.1, .int .i64 a.nd.2, .string a.nm, .int .i64 a.at_.1, .int .i64 a.at_.2, .string a.vl, .bool a.gn], .agg #[.int .i64 b.nd.1, .int .i64 b.nd.2, .string b.nm, .int .i64 b.at_.1, .int .i64 b.at_.2, .string b.vl, .bool b.gn]] w fun e w' => e = .returned (.bool (winB a b)) ∧ Below w.heap.size w w' := by
  obtain ⟨⟨anc, anr⟩, anm, ⟨aac, aar⟩, avl, agn⟩ := a
  obtain ⟨⟨bnc, bnr⟩, bnm, ⟨bac, bar⟩, bvl, bgn⟩ := b
  simp only
  obtain ⟨W0, eW⟩ : ∃ X, X = (w.alloc (.cells [.int .i64 anc, .int .i64 anr, .string anm, .int .i64 aac, .int .i64 aar, .string avl, .bool agn].toArray 26)).alloc (.cells [.int .i64 bnc, .int .i64 bnr, .string bnm, .int .i64 bac, .int .i64 bar, .string bvl, .bool bgn].toArray 26) := ⟨_, rfl⟩
  have HB : Hid (Below w.heap.size w W0) := by rw [eW]; exact ((Below.refl _ _).alloc (Nat.le_refl _) _).alloc (by simp) _
  have HX : Hid (BxC w.heap.size [.int .i64 anc, .int .i64 anr, .string anm, .int .i64 aac, .int .i64 aar, .string avl, .bool agn] 26 W0) := by rw [eW]; exact (BxC.new2 w _ _ _ _).1
  have HY : Hid (BxC (w.heap.size + 1) [.int .i64 bnc, .int .i64 bnr, .string bnm, .int .i64 bac, .int .i64 bar, .string bvl, .bool bgn] 26 W0) := by rw [eW]; exact (BxC.new2 w _ _ _ _).2
  have x0 : W0.cell? ⟨w.heap.size, 0, none⟩ = some (.int .i64 anc) := HX.out.cell 0 _ rfl
  have x1 : W0.cell? ⟨w.heap.size, 1, none⟩ = some (.int .i64 anr) := HX.out.cell 1 _ rfl
  have x2 : W0.cell? ⟨w.heap.size, 2, none⟩ = some (.string anm) := HX.out.cell 2 _ rfl
  have x3 : W0.cell? ⟨w.heap.size, 3, none⟩ = some (.int .i64 aac) := HX.out.cell 3 _ rfl
  have x4 : W0.cell? ⟨w.heap.size, 4, none⟩ = some (.int .i64 aar) := HX.out.cell 4 _ rfl
  have x5 : W0.cell? ⟨w.heap.size, 5, none⟩ = some (.string avl) := HX.out.cell 5 _ rfl
  have x6 : W0.cell? ⟨w.heap.size, 6, none⟩ = some (.bool agn) := HX.out.cell 6 _ rfl
  have y0 : W0.cell? ⟨w.heap.size + 1, 0, none⟩ = some (.int .i64 bnc) := HY.out.cell 0 _ rfl
  have y1 : W0.cell? ⟨w.heap.size + 1, 1, none⟩ = some (.int .i64 bnr) := HY.out.cell 1 _ rfl
  have y2 : W0.cell? ⟨w.heap.size + 1, 2, none⟩ = some (.string bnm) := HY.out.cell 2 _ rfl
  have y3 : W0.cell? ⟨w.heap.size + 1, 3, none⟩ = some (.int .i64 bac) := HY.out.cell 3 _ rfl
  have y4 : W0.cell? ⟨w.heap.size + 1, 4, none⟩ = some (.int .i64 bar) := HY.out.cell 4 _ rfl
  have y5 : W0.cell? ⟨w.heap.size + 1, 5, none⟩ = some (.string bvl) := HY.out.cell 5 _ rfl
  have y6 : W0.cell? ⟨w.heap.size + 1, 6, none⟩ = some (.bool bgn) := HY.out.cell 6 _ rfl
  rw [eW] at x0 x1 x2 x3 x4 x5 x6 y0 y1 y2 y3 y4 y5 y6
  by_cases e1 : aac = bac
  · by_cases e2 : aar = bar
    · subst e1 e2
      cases agn with
      | true =>
        cases bgn with
        | true =>
          have HL : Hid (winB ⟨⟨anc, anr⟩, anm, ⟨aac, aar⟩, avl, true⟩ ⟨⟨bnc, bnr⟩, bnm, ⟨aac, aar⟩, bvl, true⟩ = false) := by (show _ = _; unfold winB; simp)
          go_enter Try.func19, Try.ntmps19
          go_wp2
          go_ret
          exact ⟨ret_bool HL.out.symm, by (rw [eW] at HB; exact HB.out)⟩
        | false =>
          have HL : Hid (winB ⟨⟨anc, anr⟩, anm, ⟨aac, aar⟩, avl, true⟩ ⟨⟨bnc, bnr⟩, bnm, ⟨aac, aar⟩, bvl, false⟩ = false) := by (show _ = _; unfold winB; simp)
          go_enter Try.func19, Try.ntmps19
          go_wp2
          go_ret
          exact ⟨ret_bool HL.out.symm, by (rw [eW] at HB; exact HB.out)⟩
      | false =>
        cases bgn with
        | true =>
          have HL : Hid (winB ⟨⟨anc, anr⟩, anm, ⟨aac, aar⟩, avl, false⟩ ⟨⟨bnc, bnr⟩, bnm, ⟨aac, aar⟩, bvl, true⟩ = true) := by (show _ = _; unfold winB; simp)
          go_enter Try.func19, Try.ntmps19
          go_wp2
          go_ret
          exact ⟨ret_bool HL.out.symm, by (rw [eW] at HB; exact HB.out)⟩
        | false =>
          have hg : ∀ w, (binOp .gtr 9 (.string avl) (.string bvl)).run Try.prog w = .ok (.bool (ltT bvl avl)) w := gtrS _ _ _
          have HL : Hid (winB ⟨⟨anc, anr⟩, anm, ⟨aac, aar⟩, avl, false⟩ ⟨⟨bnc, bnr⟩, bnm, ⟨aac, aar⟩, bvl, false⟩ = ltT bvl avl) := by (show _ = _; unfold winB; simp)
          go_enter Try.func19, Try.ntmps19
          go_wp2
          go_ret
          exact ⟨ret_bool HL.out.symm, by (rw [eW] at HB; exact HB.out)⟩
    · have e3 : (aar == bar) = false := by simpa using e2
      have HL : Hid (winB ⟨⟨anc, anr⟩, anm, ⟨aac, aar⟩, avl, agn⟩ ⟨⟨bnc, bnr⟩, bnm, ⟨bac, bar⟩, bvl, bgn⟩ = lessS bac bar aac aar) := by (show _ = _; unfold winB; simp [e2]; rfl)
      subst e1
      go_enter Try.func19, Try.ntmps19
      go_wp2_with fail
      rw [← eW]
      clear eW x0 x1 x2 x3 x4 x5 x6 y0 y1 y2 y3 y4 y5 y6
      refine (refLess_bel aac bar aac aar _).mono ?_
      rintro e w1 ⟨rfl, hb⟩
      replace HB : Hid (Below w.heap.size w w1) := HB.out.trans (hb.mono HB.out.size)
      clear hb
      go_wp2
      go_ret
      exact ⟨ret_bool HL.out.symm, HB.out⟩
  · have e3 : (aac == bac) = false := by simpa using e1
    have HL : Hid (winB ⟨⟨anc, anr⟩, anm, ⟨aac, aar⟩, avl, agn⟩ ⟨⟨bnc, bnr⟩, bnm, ⟨bac, bar⟩, bvl, bgn⟩ = lessS bac bar aac aar) := by (show _ = _; unfold winB; simp [e1]; rfl)
    go_enter Try.func19, Try.ntmps19
    go_wp2_with fail
    rw [← eW]
    clear eW x0 x1 x2 x3 x4 x5 x6 y0 y1 y2 y3 y4 y5 y6
    refine (refLess_bel bac bar aac aar _).mono ?_
    rintro e w1 ⟨rfl, hb⟩
    replace HB : Hid (Below w.heap.size w w1) := HB.out.trans (hb.mono HB.out.size)
    clear hb
    go_wp2
    go_ret
    exact ⟨ret_bool HL.out.symm, HB.out⟩

set_option maxRecDepth 100000 in
set_option maxHeartbeats 4000000 in
theorem refAheadR_any (a b : Rg) (w : World) :
    Calls Try.prog 20 #[.agg #[.int .i64 a.nd.1, .int .i64 a.nd.2, .string a.nm, .int .i64 a.at_.1, .int .i64 a.at_.2, .string a.vl, .bool a.gn], .agg #[.int .i64 b.nd.1, .int .i64 b.nd.2, .string b.nm, .int .i64 b.at_.1, .int .i64 b.at_.2, .string b.vl, .bool b.gn]] w fun e w' => e = .returned (.bool (ltK (keyR a) (keyR b))) ∧ Below w.heap.size w w' := by
  obtain ⟨⟨anc, anr⟩, anm, ⟨aac, aar⟩, avl, agn⟩ := a
  obtain ⟨⟨bnc, bnr⟩, bnm, ⟨bac, bar⟩, bvl, bgn⟩ := b
  simp only
  obtain ⟨W0, eW⟩ : ∃ X, X = (w.alloc (.cells [.int .i64 anc, .int .i64 anr, .string anm, .int .i64 aac, .int .i64 aar, .string avl, .bool agn].toArray 26)).alloc (.cells [.int .i64 bnc, .int .i64 bnr, .string bnm, .int .i64 bac, .int .i64 bar, .string bvl, .bool bgn].toArray 26) := ⟨_, rfl⟩
  have HB : Hid (Below w.heap.size w W0) := by rw [eW]; exact ((Below.refl _ _).alloc (Nat.le_refl _) _).alloc (by simp) _
  have HX : Hid (BxC w.heap.size [.int .i64 anc, .int .i64 anr, .string anm, .int .i64 aac, .int .i64 aar, .string avl, .bool agn] 26 W0) := by rw [eW]; exact (BxC.new2 w _ _ _ _).1
  have HY : Hid (BxC (w.heap.size + 1) [.int .i64 bnc, .int .i64 bnr, .string bnm, .int .i64 bac, .int .i64 bar, .string bvl, .bool bgn] 26 W0) := by rw [eW]; exact (BxC.new2 w _ _ _ _).2
  have x0 : W0.cell? ⟨w.heap.size, 0, none⟩ = some (.int .i64 anc) := HX.out.cell 0 _ rfl
  have x1 : W0.cell? ⟨w.heap.size, 1, none⟩ = some (.int .i64 anr) := HX.out.cell 1 _ rfl
  have x2 : W0.cell? ⟨w.heap.size, 2, none⟩ = some (.string anm) := HX.out.cell 2 _ rfl
  have x3 : W0.cell? ⟨w.heap.size, 3, none⟩ = some (.int .i64 aac) := HX.out.cell 3 _ rfl
  have x4 : W0.cell? ⟨w.heap.size, 4, none⟩ = some (.int .i64 aar) := HX.out.cell 4 _ rfl
  have x5 : W0.cell? ⟨w.heap.size, 5, none⟩ = some (.string avl) := HX.out.cell 5 _ rfl
  have x6 : W0.cell? ⟨w.heap.size, 6, none⟩ = some (.bool agn) := HX.out.cell 6 _ rfl
  have y0 : W0.cell? ⟨w.heap.size + 1, 0, none⟩ = some (.int .i64 bnc) := HY.out.cell 0 _ rfl
  have y1 : W0.cell? ⟨w.heap.size + 1, 1, none⟩ = some (.int .i64 bnr) := HY.out.cell 1 _ rfl
  have y2 : W0.cell? ⟨w.heap.size + 1, 2, none⟩ = some (.string bnm) := HY.out.cell 2 _ rfl
  have y3 : W0.cell? ⟨w.heap.size + 1, 3, none⟩ = some (.int .i64 bac) := HY.out.cell 3 _ rfl
  have y4 : W0.cell? ⟨w.heap.size + 1, 4, none⟩ = some (.int .i64 bar) := HY.out.cell 4 _ rfl
  have y5 : W0.cell? ⟨w.heap.size + 1, 5, none⟩ = some (.string bvl) := HY.out.cell 5 _ rfl
  have y6 : W0.cell? ⟨w.heap.size + 1, 6, none⟩ = some (.bool bgn) := HY.out.cell 6 _ rfl
  rw [eW] at x0 x1 x2 x3 x4 x5 x6 y0 y1 y2 y3 y4 y5 y6
  go_enter Try.func20, Try.ntmps20
  go_wp2_with fail
  rw [← eW]
  clear eW x0 x1 x2 x3 x4 x5 x6 y0 y1 y2 y3 y4 y5 y6
  refine (refLess_bel anc anr bnc bnr _).mono ?_
  rintro e w1 ⟨rfl, hb⟩
  replace HB : Hid (Below w.heap.size w w1) := HB.out.trans (hb.mono HB.out.size)
  replace HX : Hid (BxC w.heap.size [.int .i64 anc, .int .i64 anr, .string anm, .int .i64 aac, .int .i64 aar, .string avl, .bool agn] 26 w1) := HX.out.below hb
  replace HY : Hid (BxC (w.heap.size + 1) [.int .i64 bnc, .int .i64 bnr, .string bnm, .int .i64 bac, .int .i64 bar, .string bvl, .bool bgn] 26 w1) := HY.out.below hb
  clear hb
  have x0 : w1.cell? ⟨w.heap.size, 0, none⟩ = some (.int .i64 anc) := HX.out.cell 0 _ rfl
  have x1 : w1.cell? ⟨w.heap.size, 1, none⟩ = some (.int .i64 anr) := HX.out.cell 1 _ rfl
  have x2 : w1.cell? ⟨w.heap.size, 2, none⟩ = some (.string anm) := HX.out.cell 2 _ rfl
  have x3 : w1.cell? ⟨w.heap.size, 3, none⟩ = some (.int .i64 aac) := HX.out.cell 3 _ rfl
  have x4 : w1.cell? ⟨w.heap.size, 4, none⟩ = some (.int .i64 aar) := HX.out.cell 4 _ rfl
  have x5 : w1.cell? ⟨w.heap.size, 5, none⟩ = some (.string avl) := HX.out.cell 5 _ rfl
  have x6 : w1.cell? ⟨w.heap.size, 6, none⟩ = some (.bool agn) := HX.out.cell 6 _ rfl
  have y0 : w1.cell? ⟨w.heap.size + 1, 0, none⟩ = some (.int .i64 bnc) := HY.out.cell 0 _ rfl
  have y1 : w1.cell? ⟨w.heap.size + 1, 1, none⟩ = some (.int .i64 bnr) := HY.out.cell 1 _ rfl
  have y2 : w1.cell? ⟨w.heap.size + 1, 2, none⟩ = some (.string bnm) := HY.out.cell 2 _ rfl
  have y3 : w1.cell? ⟨w.heap.size + 1, 3, none⟩ = some (.int .i64 bac) := HY.out.cell 3 _ rfl
  have y4 : w1.cell? ⟨w.heap.size + 1, 4, none⟩ = some (.int .i64 bar) := HY.out.cell 4 _ rfl
  have y5 : w1.cell? ⟨w.heap.size + 1, 5, none⟩ = some (.string bvl) := HY.out.cell 5 _ rfl
  have y6 : w1.cell? ⟨w.heap.size + 1, 6, none⟩ = some (.bool bgn) := HY.out.cell 6 _ rfl
  cases hS : lessS anc anr bnc bnr with
  | true =>
    have HL : Hid (ltK (keyR ⟨⟨anc, anr⟩, anm, ⟨aac, aar⟩, avl, agn⟩) (keyR ⟨⟨bnc, bnr⟩, bnm, ⟨bac, bar⟩, bvl, bgn⟩) = true) := by (show _ = _; unfold ltK keyR; simp only; rw [show ltS (anc, anr) (bnc, bnr) = lessS anc anr bnc bnr from rfl, hS]; simp)
    go_wp2
    go_ret
    exact ⟨ret_bool HL.out.symm, HB.out⟩
  | false =>
    by_cases e1 : anc = bnc
    · by_cases e2 : anr = bnr
      · have HL : Hid (ltK (keyR ⟨⟨anc, anr⟩, anm, ⟨aac, aar⟩, avl, agn⟩) (keyR ⟨⟨bnc, bnr⟩, bnm, ⟨bac, bar⟩, bvl, bgn⟩) = ltT anm bnm) := by (show _ = _; unfold ltK keyR; simp only; rw [show ltS (anc, anr) (bnc, bnr) = lessS anc anr bnc bnr from rfl, hS]; simp [e1, e2])
        have hg : ∀ w, (binOp .lss 9 (.string anm) (.string bnm)).run Try.prog w = .ok (.bool (ltT anm bnm)) w := lssS _ _ _
        have HN : Hid (∀ x : Bool, Op.bytesLess anm.toList bnm.toList = x → ltT anm bnm = x) := fun x h => by rw [← txt_less]; exact h
        subst e1 e2
        go_wp2
        go_ret
        exact ⟨ret_bool (by rw [HL.out]; first | rfl | exact txt_less _ _), HB.out⟩
      · have e3 : (anr == bnr) = false := by simpa using e2
        have HL : Hid (ltK (keyR ⟨⟨anc, anr⟩, anm, ⟨aac, aar⟩, avl, agn⟩) (keyR ⟨⟨bnc, bnr⟩, bnm, ⟨bac, bar⟩, bvl, bgn⟩) = false) := by (show _ = _; unfold ltK keyR; simp only; rw [show ltS (anc, anr) (bnc, bnr) = lessS anc anr bnc bnr from rfl, hS]; simp [e1, e2])
        subst e1
        go_wp2
        go_ret
        exact ⟨ret_bool HL.out.symm, HB.out⟩
    · have e3 : (anc == bnc) = false := by simpa using e1
      have HL : Hid (ltK (keyR ⟨⟨anc, anr⟩, anm, ⟨aac, aar⟩, avl, agn⟩) (keyR ⟨⟨bnc, bnr⟩, bnm, ⟨bac, bar⟩, bvl, bgn⟩) = false) := by (show _ = _; unfold ltK keyR; simp only; rw [show ltS (anc, anr) (bnc, bnr) = lessS anc anr bnc bnr from rfl, hS]; simp [e1])
      go_wp2
      go_ret
      exact ⟨ret_bool HL.out.symm, HB.out⟩

end Go.Proofs.Ytecliogffcnfiaa
