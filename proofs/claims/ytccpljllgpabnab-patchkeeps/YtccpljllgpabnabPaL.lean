/- begin, steps. -/
import Derived.Test.YtccpljllgpabnabPaK
namespace Go.Proofs.Ytccpljllgpabnab
open Go.RowKit
set_option linter.unusedVariables false
set_option linter.unusedSimpArgs false

def g00 : Gr := { o := fun _ => ⟨(0, 0), ⟨#[]⟩, ⟨#[]⟩, []⟩, av := fun _ => .slice none 0 0, C := fun _ => [], up := fun _ => none, pv := fun _ => none, nx := fun _ => none, fs := fun _ => none }
theorem PwP.zero (bh : Nat) : PwP bh (fun b => b = bh) g00 [] [] [] [] where
  lk := ⟨fun _ _ => rfl, (fun p l1 c l2 _ h => by cases l1 <;> cases h), (fun p c _ h => by cases h), fun _ _ => List.nodup_nil, fun _ _ _ => ⟨rfl, rfl, rfl⟩⟩
  dX := fun e he => by cases he
  Xd := fun b h1 h2 => absurd h1 h2
  dn := List.nodup_nil
  xh := rfl
  hn := fun p _ h => by cases h
  lr := trivial
  lx := fun b h => by cases h
  rh := trivial
  nd := List.nodup_nil
  ky := fun e he => by cases he
section
variable {B wb bm bh : Nat} {tp : Option Nat} {X : Nat → Prop} {g : Gr} {D : List (St × Nat)} {W : World}
theorem PwM.setTop (h : PwM B wb bm bh tp X g D W) (n : Nat) : PwM B wb bm bh (some n) X g D (W.setCell ⟨wb, 1, none⟩ (.pointer (some ⟨n, 0, none⟩))) ∧ Below B W (W.setCell ⟨wb, 1, none⟩ (.pointer (some ⟨n, 0, none⟩))) := by
  have hk : ∀ k, k ≠ wb → (W.setCell ⟨wb, 1, none⟩ (.pointer (some ⟨n, 0, none⟩))).heap[k]? = W.heap[k]? := fun k e => RowKit.Below.heap_setCell _ _ _ _ e
  refine ⟨⟨?_, h.mp.keep (hk _ fun e => h.wm e.symm), h.mem.keep fun b hb => hk b fun (e : b = wb) => h.wX (by rw [← e]; exact hb), fun b hb => OwnE.keep (h.at_ b hb) fun k e => hk k (h.aT hb e).2.1, h.ap, h.lo⟩, (Below.refl _ _).setCell (p := ⟨wb, 1, none⟩) h.lo.1 _⟩
  rw [heap_setCell_same W wb 1 _ _ _ h.wr]
  rfl
end
theorem makeNodes (w : World) : (Instr.makeMap 52 none).run Try.prog w = .ok (.map (some w.heap.size)) (w.alloc (.map #[] 0)) := by
  simp [Instr.makeMap, run_underlying Try.underlying52, newObj, Result.andThen]
  rfl
/-- What begins. -/
def BegP (B : Nat) (t : VT) (w : World) (e : Ending) (w' : World) : Prop := ∃ wb bm bh top X g D, e = .returned (.pointer (some ⟨wb, 0, none⟩)) ∧ PwS B wb bm bh top X g D t [] w' ∧ Below B w w'

set_option maxRecDepth 100000 in
set_option maxHeartbeats 2000000 in
theorem begin_any (B : Nat) (G : Nat → Prop) (t : VT) (v : Value) (w : World) (hB : B ≤ w.heap.size) (hv : VIs G w v t) (hG : ∀ k, G k → k < B) (hn : (keysV t).Nodup) : Calls Try.prog 14 #[v] w fun e w' => BegP B t w e w' := by
  obtain ⟨aa, ca, ak, ck, e1, fd0⟩ := hv.form
  subst e1
  obtain ⟨W4, eW4⟩ : ∃ X, X = ((((w.alloc (.cells #[.int .i64 t.k.1, .int .i64 t.k.2, .string t.tg, .string t.tx, .slice aa t.at_.length ca, .slice ak t.ks.length ck] 27)).alloc (.map #[] 0)).alloc (.cells #[.int .i64 0, .int .i64 0, .string ⟨#[]⟩, .string ⟨#[]⟩, .slice none 0 0, .slice none 0 0, .pointer none, .pointer none, .pointer none, .pointer none] 51)).alloc (.cells #[.map (some (w.heap.size + 1)), .pointer none, .pointer (some ⟨w.heap.size + 2, 0, none⟩)] 54)) := ⟨_, rfl⟩
  have hb4 : Below w.heap.size w W4 := by rw [eW4]; exact ((((Below.refl _ _).alloc (Nat.le_refl _) _).alloc (by simp) _).alloc (by simp <;> omega) _).alloc (by simp <;> omega) _
  have h0 : W4.heap[w.heap.size]? = some (.cells #[.int .i64 t.k.1, .int .i64 t.k.2, .string t.tg, .string t.tx, .slice aa t.at_.length ca, .slice ak t.ks.length ck] 27) := by
    rw [eW4, Below.heap_alloc _ _ _ (by simp <;> omega), Below.heap_alloc _ _ _ (by simp <;> omega), Below.heap_alloc _ _ _ (by simp)]
    exact heap_alloc_new w _
  have h1 : W4.heap[w.heap.size + 1]? = some (.map #[] 0) := by
    rw [eW4, Below.heap_alloc _ _ _ (by simp <;> omega), Below.heap_alloc _ _ _ (by simp)]
    have h9 := heap_alloc_new (w.alloc (.cells #[.int .i64 t.k.1, .int .i64 t.k.2, .string t.tg, .string t.tx, .slice aa t.at_.length ca, .slice ak t.ks.length ck] 27)) (.map #[] 0)
    rw [show (w.alloc (.cells #[.int .i64 t.k.1, .int .i64 t.k.2, .string t.tg, .string t.tx, .slice aa t.at_.length ca, .slice ak t.ks.length ck] 27)).heap.size = w.heap.size + 1 by simp] at h9
    exact h9
  have h2 : W4.heap[w.heap.size + 2]? = some (.cells #[.int .i64 0, .int .i64 0, .string ⟨#[]⟩, .string ⟨#[]⟩, .slice none 0 0, .slice none 0 0, .pointer none, .pointer none, .pointer none, .pointer none] 51) := by
    rw [eW4, Below.heap_alloc _ _ _ (by simp)]
    have h9 := heap_alloc_new ((w.alloc (.cells #[.int .i64 t.k.1, .int .i64 t.k.2, .string t.tg, .string t.tx, .slice aa t.at_.length ca, .slice ak t.ks.length ck] 27)).alloc (.map #[] 0)) (.cells #[.int .i64 0, .int .i64 0, .string ⟨#[]⟩, .string ⟨#[]⟩, .slice none 0 0, .slice none 0 0, .pointer none, .pointer none, .pointer none, .pointer none] 51)
    rw [show ((w.alloc (.cells #[.int .i64 t.k.1, .int .i64 t.k.2, .string t.tg, .string t.tx, .slice aa t.at_.length ca, .slice ak t.ks.length ck] 27)).alloc (.map #[] 0)).heap.size = w.heap.size + 2 by simp] at h9
    exact h9
  have h3 : W4.heap[w.heap.size + 3]? = some (.cells #[.map (some (w.heap.size + 1)), .pointer none, .pointer (some ⟨w.heap.size + 2, 0, none⟩)] 54) := by
    rw [eW4]
    have h9 := heap_alloc_new (((w.alloc (.cells #[.int .i64 t.k.1, .int .i64 t.k.2, .string t.tg, .string t.tx, .slice aa t.at_.length ca, .slice ak t.ks.length ck] 27)).alloc (.map #[] 0)).alloc (.cells #[.int .i64 0, .int .i64 0, .string ⟨#[]⟩, .string ⟨#[]⟩, .slice none 0 0, .slice none 0 0, .pointer none, .pointer none, .pointer none, .pointer none] 51)) (.cells #[.map (some (w.heap.size + 1)), .pointer none, .pointer (some ⟨w.heap.size + 2, 0, none⟩)] 54)
    rw [show (((w.alloc (.cells #[.int .i64 t.k.1, .int .i64 t.k.2, .string t.tg, .string t.tx, .slice aa t.at_.length ca, .slice ak t.ks.length ck] 27)).alloc (.map #[] 0)).alloc (.cells #[.int .i64 0, .int .i64 0, .string ⟨#[]⟩, .string ⟨#[]⟩, .slice none 0 0, .slice none 0 0, .pointer none, .pointer none, .pointer none, .pointer none] 51)).heap.size = w.heap.size + 3 by simp] at h9
    exact h9
  have hm : PwM B (w.heap.size + 3) (w.heap.size + 1) (w.heap.size + 2) none (fun b => b = w.heap.size + 2) g00 [] W4 := ⟨h3, ⟨#[], 0, h1, rfl, List.nodup_nil, fun x h => by simp at h⟩, fun b hb => by rw [hb, h2]; simp [gRow, g00, ptr], fun b _ => OwnE.nil0 _ _, fun b c k hb hc _ _ => hb.trans hc.symm, by omega, by omega, fun b hb => by omega⟩
  have HM := hide9 hm
  have HT := hide9 h0
  have HF : Hid (FdIs G W4 (.slice aa t.at_.length ca) (.slice ak t.ks.length ck) t.at_ t.ks) := fd0.below hb4
  have HB : Hid (Below B w W4) := hb4.mono hB
  have HG := hide9 hG
  have HN := hide9 hn
  have HE := hide9 eW4
  have hmk := makeNodes (w.alloc (.cells #[.int .i64 t.k.1, .int .i64 t.k.2, .string t.tg, .string t.tx, .slice aa t.at_.length ca, .slice ak t.ks.length ck] 27))
  rw [show (w.alloc (.cells #[.int .i64 t.k.1, .int .i64 t.k.2, .string t.tg, .string t.tx, .slice aa t.at_.length ca, .slice ak t.ks.length ck] 27)).heap.size = w.heap.size + 1 by simp] at hmk
  clear hv fd0 hG hn h0 h1 h2 h3 hm hb4 eW4
  go_enter Try.func14, Try.ntmps14
  go_upto_region 2 with fail
  rw [← HE.out]
  clear HE hmk
  obtain ⟨p0, p1, p2, p3, p4, p5⟩ := row6 HT.out
  go_upto_region 3 with (go_at_call 29; refine (grow_n B _ _ _ t.sz G t _ _ (Nat.le_refl _) (VIs.of HF.out) HM.out (PwP.zero _) rfl ⟨HN.out, fun k _ => ⟨by simp [keysL], by simp [keysL]⟩⟩ HG.out).mono ?_; rintro e W5 ⟨n, X1, g1, D1, rfl, h5, h6, h7, h8⟩; have c1 : W5.cell? ⟨w.heap.size + 3, 1, none⟩ = some (.pointer none) := h5.c1; have z1 : W5.frozen? ⟨w.heap.size + 3, 1, none⟩ = false := frozen_of_row W5 _ 1 _ _ h5.wr; have HS5 := hide9 (And.intro (h5.setTop n) (And.intro h6 h8)); clear h5 h6 h7 h8)
  go_wp2
  go_ret
  exact ⟨_, _, _, n, X1, g1, D1, rfl, ⟨HS5.out.1.1, HS5.out.2.1⟩, HB.out.trans (HS5.out.2.2.trans HS5.out.1.2)⟩

/-- A method of the work, as a function. -/
def mth (f : Nat) (wb : Nat) : Value := .func (.func f) #[.pointer (some ⟨wb, 0, none⟩)] #[]
set_option maxRecDepth 100000 in
set_option maxHeartbeats 2000000 in
theorem steps_any (wb : Nat) (w : World) : Calls Try.prog 15 #[.pointer (some ⟨wb, 0, none⟩)] w fun e w' => e = .returned (.agg #[.nilFunc, mth 30 wb, mth 31 wb, mth 32 wb, mth 33 wb, mth 34 wb, mth 35 wb, mth 36 wb, mth 37 wb, mth 38 wb]) ∧ Below w.heap.size w w' := by
  go_enter Try.func15, Try.ntmps15
  go_wp2
  refine bodyPost_ret (results_cell_row rfl _ _ w.heap.size _ _ _ _ rfl (heap_alloc_new _ _) Try.underlying47 rfl (by kernel_rfl)) rfl ?_
  exact ⟨rfl, (Below.refl _ _).alloc (Nat.le_refl _) _⟩

end Go.Proofs.Ytccpljllgpabnab
