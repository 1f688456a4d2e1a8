/- What lengthsFrom tells: how long the longest rising part is that begins at each place. -/
import Derived.Test.YthhnglpkfcmjiaaKLiR
import Derived.Test.YthhnglpkfcmjiaaKLaysL
namespace Go.Proofs.Ythhnglpkfcmjiaa
open Go.RowKit
set_option linter.unusedVariables false
set_option maxRecDepth 100000 in
/-- make([]int, m). -/
theorem mkInts (m : Nat) (hm : m ≤ 17592186044416) (w : World) : ∃ w1, (Instr.makeSlice 78 (.int .i64 (m : Int)) (.int .i64 (m : Int))).run Try.prog w = .ok (.slice (some ⟨w.heap.size, 0, none⟩) m m) w1 ∧ RowF w1 w.heap.size (List.replicate m 0) ∧ Below w.heap.size w w1 := by
  obtain ⟨i0, hi, hz0, hz1, hz2⟩ := info_parts infoInt
  obtain ⟨w1, hmk, ho1, hg1⟩ := run_make_full (P := Try.prog) w w.heap.size 78 3 i0 (.int .i64 0) 1 Try.underlying78 hi hz0 hz1 .i64 .i64 m (by rw [hz2]; omega) (by unfold maxLen; omega) (Nat.le_refl _)
  have e3 : (madeCells (Value.int .i64 0).cells (m * 1)).toList = cellsI (List.replicate m 0) := by
    rw [Nat.mul_one]
    have := toList_madeCells_one (.int .i64 0) m
    rw [show (madeCells (Value.int .i64 0).cells m).toList = _ from this]
    simp [cellsI]
  rw [e3] at ho1
  refine ⟨w1, hmk, ?_, (Below.refl _ _).grown hg1 (Nat.le_refl _) (fun j e => by cases e)⟩
  rcases ho1.2 with ⟨hn, _⟩ | ⟨g, cap, cur, hv, _, hc, _, _, hsz, htk⟩
  · cases hn
  · injection hv with e1 _ e2
    injection e1 with e1
    injection e1 with e1
    subst e1 e2
    have h1 : cur.toList = cellsI (List.replicate m 0) := by rw [← htk, List.take_of_length_le (by simp [hsz])]
    unfold RowF
    rw [hc, ← h1, Array.toArray_toList]
set_option maxRecDepth 100000 in
set_option maxHeartbeats 2000000 in
/-- 'firsts[k] <= l[at]', with firsts, l and at in their boxes. -/
theorem less_closure (fb bl ab b1 o1 gF n c1 cF m i t : Nat) (y x : Int) (W : World) (hi : (i : Int) < (m : Int)) (ht : (t : Int) < (n : Int))
    (hf : W.cell? ⟨fb, 0, none⟩ = some (.slice (some ⟨gF, 0, none⟩) m cF)) (hl : W.cell? ⟨bl, 0, none⟩ = some (.slice (some ⟨b1, o1, none⟩) n c1)) (ha : W.cell? ⟨ab, 0, none⟩ = some (.int .i64 (t : Int)))
    (hy : W.cell? ⟨gF, i, none⟩ = some (.int .i64 y)) (hx : W.cell? ⟨b1, o1 + t, none⟩ = some (.int .i64 x)) :
    Calls Try.prog 101 (#[.int .i64 (i : Int)] ++ #[.pointer (some ⟨fb, 0, none⟩), .pointer (some ⟨bl, 0, none⟩), .pointer (some ⟨ab, 0, none⟩)]) W fun e w' => e = .returned (.bool (decide (y ≤ x))) ∧ ∃ q, w' = W.drewN q := by
  have i0 : (0 : Int) ≤ (i : Int) := by omega
  have t0 : (0 : Int) ≤ (t : Int) := by omega
  show Calls Try.prog 101 #[.int .i64 (i : Int), .pointer (some ⟨fb, 0, none⟩), .pointer (some ⟨bl, 0, none⟩), .pointer (some ⟨ab, 0, none⟩)] W _
  go_enter Try.func101, Try.ntmps101
  go_wp2
  go_quiet (fail)
  go_wp2
  go_ret
  exact ⟨rfl, _, rfl⟩
theorem lens_eg : ∀ args w, (callFunc 101 args).run Try.prog w = .ok (.enter 101 args) w := enters_of Try.func101 (by kernel_rfl) rfl
theorem mono_leq {F : List Int} (h : Fall F) (x : Int) : ∀ a b, a ≤ b → b < F.length → decide (atD F a ≤ x) = true → decide (atD F b ≤ x) = true := by
  intro a b hab hb ha
  have ha' := of_decide_eq_true ha
  rw [decide_eq_true_eq]
  have h1 := h.at_ x a (by omega)
  have h2 := h.at_ x b hb
  rw [atD_eq (by omega)] at h1
  rw [atD_eq hb] at h2
  omega
/-- sort.Search as it is called there. -/
theorem search_any (fb bl ab b1 o1 n c1 t : Nat) (fv : Value) (F d : List Int) (B : Nat) (W : World) (hF : Fall F) (hFl : F.length ≤ 17592186044416) (ho : OwnI B W fv F) (hn : d.length = n) (ht : t < n)
    (hf : W.cell? ⟨fb, 0, none⟩ = some fv) (hl : W.cell? ⟨bl, 0, none⟩ = some (.slice (some ⟨b1, o1, none⟩) n c1)) (ha : W.cell? ⟨ab, 0, none⟩ = some (.int .i64 (t : Int))) (hx : W.cell? ⟨b1, o1 + t, none⟩ = some (.int .i64 (atD d t))) :
    Calls Try.prog 100 #[.int .i64 (F.length : Int), .func (.func 101) #[] #[.pointer (some ⟨fb, 0, none⟩), .pointer (some ⟨bl, 0, none⟩), .pointer (some ⟨ab, 0, none⟩)]] W fun e w' => e = .returned (.int .i64 (cntG F (atD d t) : Nat)) ∧ Below W.heap.size W w' := by
  have hs := Any.sort_Search Try.searchL 101 #[.pointer (some ⟨fb, 0, none⟩), .pointer (some ⟨bl, 0, none⟩), .pointer (some ⟨ab, 0, none⟩)] F.length (fun i => decide (atD F i ≤ atD d t)) W lens_eg (by omega)
    (fun m os i hi => by
      obtain ⟨a, cap, rfl⟩ := ho.form
      have hoi := ho.isI hFl
      obtain ⟨a', cap', e, _, _, hr⟩ := hoi
      injection e with e1 e2 e3
      subst e1 e3
      rcases ho.2 with ⟨e0, _⟩ | ⟨gF, capF, cur, hv, hg, hc, hcap, rest⟩
      · injection e0 with e1 e2 e3; omega
      · injection hv with e1 e2 e3
        subst e1 e3
        obtain ⟨b, o, e, hI⟩ := hr.resolve_left (by intro e; subst e; simp at hi)
        injection e with e
        injection e with e4 e5
        subst e4 e5
        have hy := hI i hi
        rw [Nat.zero_add, atD_eq hi] at hy
        have lt : ∀ {p : Addr} {v : Value}, W.cell? p = some v → p.block < W.heap.size := fun h => World.block_lt_of_cell? _ _ h
        exact (less_closure fb bl ab b1 o1 gF n c1 cap F.length i t (atD F i) (atD d t) _ (by omega) (by omega) (cell_grown (lt hf) hf m os) (cell_grown (lt hl) hl m os) (cell_grown (lt ha) ha m os) (cell_grown (lt hy) hy m os) (cell_grown (lt hx) hx m os)).mono
          fun _ _ ⟨he, q, hq⟩ => ⟨he, q, #[], by rw [hq, Go.Sort.grow_empty]⟩)
    (mono_leq hF (atD d t))
  refine hs.mono ?_
  rintro e w' ⟨rfl, q, os, rfl⟩
  exact ⟨by rw [range_cnt], below_grown_sl _ _ _ _ (Nat.le_refl _)⟩
end Go.Proofs.Ythhnglpkfcmjiaa
