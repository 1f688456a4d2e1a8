/- How many parcels all links have: Len. -/
import Derived.Test.YtlcnfoljkcfplaaBgX
namespace Go.Proofs.Ytlcnfoljkcfplaa
open Go.RowKit Go.Shelf
set_option linter.unusedVariables false
set_option linter.unusedSimpArgs false

attribute [local go_sem] Oper.semAt_some

theorem cells_ne {W : World} {k : Nat} {cs : Array Value} {t : TypeId} {fr : Nat × Nat} (h : W.heap[k]? = some (.cells cs t fr)) {row : Option Nat} (hr : ∀ r, row = some r → ∃ o : Obj, W.heap[r]? = some o ∧ o.isCells = false) : row ≠ some k := fun e => by
  obtain ⟨o, h1, h2⟩ := hr k e
  rw [h] at h1
  cases h1
  cases h2
theorem row_own {W W' : World} {k : Nat} {cs : Array Value} {t : TypeId} {fr : Nat × Nat} {row : Option Nat} (h : W.heap[k]? = some (.cells cs t fr)) (hg : W.grownBy W' row) (hr : ∀ r, row = some r → ∃ o : Obj, W.heap[r]? = some o ∧ o.isCells = false) : W'.heap[k]? = some (.cells cs t fr) :=
  (hg.block k (Array.getElem?_eq_some_iff.1 h).1 (fun e => cells_ne h hr e.symm)).trans h
theorem keepsFrom_below {B : Nat} {A C : World} (hb : Below A.heap.size A C) : KeepsFrom B A C := ⟨hb.size, fun k o _ hk _ => (hb.block k (Array.getElem?_eq_some_iff.1 hk).1).trans hk⟩
theorem keepsFrom_set {B : Nat} (A : World) (p : Addr) (v : Value) : KeepsFrom B A (A.setCell p v) := (KeepsOthers.setCell A p v).from B
theorem keepsSK_b {S : Nat → Prop} {w : World} (hn : ∀ k, S k → k < w.heap.size) (W : World) (l : Nat) (o o' : Obj) (hl : w.heap.size ≤ l) (h : W.heap[l]? = some o) (h1 : o.isCells = false) (h2 : o.isWalk = false) : KeepsS S W (W.putObj l o') :=
  KeepsS.of_below (belowK_b (w := w) (Nat.le_refl _) W l o o' hl h h1 h2) hn
def sumW (D : List (Nat × Nat × Nat)) : Nat := (D.map fun x => x.2.2).sum
theorem sumW_at {D : List (Nat × Nat × Nat)} {k : Nat} (hk : k < D.length) : sumW (D.take (k + 1)) = sumW (D.take k) + D[k].2.2 := by
  unfold sumW
  rw [List.take_succ_eq_append_getElem hk, List.map_append, List.sum_append]
  simp
theorem sumW_le (D : List (Nat × Nat × Nat)) (h : ∀ x ∈ D, x.2.2 ≤ 256) : sumW D ≤ D.length * 256 := by
  induction D with
  | nil => simp [sumW]
  | cons x t ih =>
    have h1 := h x (by simp)
    have h2 := ih (fun y hy => h y (by simp [hy]))
    unfold sumW at *
    rw [List.map_cons, List.sum_cons, List.length_cons]
    omega
theorem wall_lim (n : Nat) (B : Nat → List Pc) (h : ∀ i, PcOk (B i)) (k : Nat) : ∀ x ∈ wall n B k, x.2.2 ≤ 256 := by
  intro x hx
  unfold wall at hx
  obtain ⟨f, _, hx⟩ := List.mem_flatMap.1 hx
  unfold wrow at hx
  obtain ⟨t, _, ht⟩ := List.mem_filterMap.1 hx
  unfold wone at ht
  split at ht
  · injection ht with ht
    subst ht
    show wt n B f t ≤ 256
    unfold wt
    split
    · omega
    · exact (h _).1
  · cases ht
/-- A number in a box, while other blocks stay. -/
structure LenB (w W2 : World) (S : Nat → Prop) (s : Nat) (U : World) : Prop where
  box : Boxed U w.heap.size 3 (.int .i64 (s : Int))
  bel : Below w.heap.size w U
  kp : KeepsH S W2 U
  b1 : w.heap.size < W2.heap.size
  b2 : ¬ S w.heap.size
section
variable {w W2 U U' : World} {S : Nat → Prop} {s : Nat}
theorem LenB.below (h : LenB w W2 S s U) (hb : Below U.heap.size U U') : LenB w W2 S s U' := ⟨(hb.block _ h.box.lt).trans h.box, h.bel.trans (hb.mono h.bel.size), h.kp.below hb, h.b1, h.b2⟩
theorem LenB.grown (h : LenB w W2 S s U) {row : Option Nat} (hg : U.grownBy U' row) (hr : ∀ r, row = some r → W2.heap.size ≤ r ∧ ∃ o : Obj, U.heap[r]? = some o ∧ o.isCells = false) : LenB w W2 S s U' := by
  have hr2 : ∀ r, row = some r → ∃ o : Obj, U.heap[r]? = some o ∧ o.isCells = false := fun r e => (hr r e).2
  have hb1 := h.b1
  exact ⟨row_own h.box hg hr2, h.bel.grown hg h.bel.size (fun j e => by have := (hr j e).1; omega), ⟨h.kp.1.trans (KeepsS.of_grown hg (fun k hk => Nat.lt_of_lt_of_le (h.kp.2 k hk) h.kp.1.1) (fun r e hS => by have := (hr r e).1; have := h.kp.2 r hS; omega)), h.kp.2⟩, h.b1, h.b2⟩
theorem LenB.set (h : LenB w W2 S s U) (s' : Nat) : LenB w W2 S s' (U.setCell ⟨w.heap.size, 0, none⟩ (.int .i64 (s' : Int))) :=
  ⟨h.box.set _, h.bel.setCell (p := ⟨w.heap.size, 0, none⟩) (Nat.le_refl _) _, ⟨h.kp.1.trans ⟨by simp [World.setCell], fun k hk => RowKit.Below.heap_setCell _ _ _ _ (fun (e : k = w.heap.size) => h.b2 (e ▸ hk))⟩, h.kp.2⟩, h.b1, h.b2⟩
end

set_option maxRecDepth 100000 in
set_option maxHeartbeats 8000000 in
theorem len_in (n0 : Nat) (hn : 5 ≤ n0) (F : Nat → Prop) (nb n : Nat) (B : Nat → List Pc) (w : World) (h : NetOk F w nb n B) :
    CallsIn Fence.wide n0 Try.prog 28 #[.pointer (some ⟨nb, 0, none⟩)] w fun e w' => e = .returned (.int .i64 (sumW (wall n B n) : Int)) ∧ Below w.heap.size w w' := by
  have hro : Fence.wide.round = none := rfl
  have h1n : 1 ≤ n0 := by omega
  have hn64 := h.small
  have hnn : n * n ≤ 4096 := Nat.mul_le_mul hn64 hn64
  have HD : Hid ((wall n B n).length ≤ 8192) := by
    show _ ≤ _
    have := wall_len n B n
    omega
  have HLim : Hid (∀ x ∈ wall n B n, x.2.2 ≤ 256) := wall_lim n B h.lim n
  refine callsIn_of_wp_marks Try.func28 rfl trivial ?_ hro
  simp only [Try.ntmps28, List.size_toArray, List.length_cons, List.length_nil, Nat.reduceAdd, Nat.reduceSub, Array.replicate_succ, Array.replicate_zero, List.push_toArray, List.append_toArray, List.nil_append, List.cons_append]
  have hb0 : Below w.heap.size w (w.alloc (.cells #[.int .i64 0] 3)) := (Below.refl _ _).alloc (Nat.le_refl _) _
  gi_wp2_with fail
  refine ⟨trivial, ?_⟩
  refine (callsIn_wide.2 (ways_any F nb n B _ (h.below hb0))).mono ?_
  rintro e W2 ⟨v, rfl, ⟨B1, a, c, rfl, hB1, hx, hov⟩, hb2⟩
  have hsz : w.heap.size + 1 ≤ W2.heap.size := by have := hb2.size; simpa using this
  have hs1 : (w.alloc (.cells #[.int .i64 0] 3)).heap.size = w.heap.size + 1 := by simp
  rw [hs1] at hB1 hov hb2
  obtain ⟨S, eS⟩ : ∃ S : Nat → Prop, S = fun k => w.heap.size + 1 ≤ k ∧ k < W2.heap.size := ⟨_, rfl⟩
  have hSl : ∀ k, S k → k < W2.heap.size := fun k hk => by rw [eS] at hk; exact hk.2
  have HA0 : Hid (LenB w W2 S (sumW ((wall n B n).take 0)) W2) :=
    ⟨(hb2.block _ (by omega)).trans (World.alloc_heap_new w _), hb0.trans (hb2.mono (by omega)), ⟨KeepsS.refl _ _, hSl⟩, by omega, fun hk => by rw [eS] at hk; omega⟩
  have hRw : WaysIn S W2 a (wall n B n) := hov.ways S (fun k h1 h2 => by rw [eS]; exact ⟨h1, h2⟩)
  have HSq := values_seq (n0 - 1) (by omega) B1 c S a (wall n B n) W2 (by rw [eS]; exact ⟨hB1, hx.lt⟩) hSl hx.cell hRw HD.out
  clear hRw hov hb2 hsz hs1 hB1 hx eS h hb0
  gi_wp2
  obtain ⟨D, hD⟩ : ∃ D, D = wall n B n := ⟨_, rfl⟩
  rw [← hD] at HD HLim HA0 HSq
  have HDe : Hid (D = wall n B n) := hD
  clear hD
  refine range_of h1n (gf := 38) (lb := #[.pointer (some ⟨B1, 0, none⟩)]) rfl (enters_of Try.func38 (by kernel_rfl) rfl) HSq KeepsS.trans (keepsSK_b hSl) (Below.refl _ _) (fun _ => rfl)
    (fun k W => LenB w W2 S (sumW (D.take k)) W) (fun _ _ _ => False)
    (fun k A B row h1 hg hr => h1.grown hg hr) (fun c k A B row hf _ _ => hf) HA0.out
    (fun x a' W => ∃ Bx, W2.heap.size ≤ Bx ∧ W.heap[Bx]? = some (.cells #[.int .i64 (x.1 : Int), .int .i64 (x.2.1 : Int), .int .i64 (x.2.2 : Int)] 71) ∧ a' = { tmps := #[.pointer (some ⟨nb, 0, none⟩), undef, .int .i64 0, .pointer (some ⟨w.heap.size, 0, none⟩), .pointer (some ⟨Bx, 0, none⟩), .pointer (some ⟨nb, 0, none⟩), .func (.func 38) #[] #[.pointer (some ⟨B1, 0, none⟩)], .agg #[.int .i64 (x.1 : Int), .int .i64 (x.2.1 : Int), .int .i64 (x.2.2 : Int)], undef, undef, undef, undef, undef], defers := [] })
    (fun x a' u A B row ⟨Bx, h1, h2, h5⟩ hg hr => ⟨Bx, h1, row_own h2 hg (fun r e => (hr r e).2), h5⟩)
    ?assign ?body ?done ?stop
  case assign =>
    rintro l k hk W K hA hK
    obtain ⟨x, hx⟩ : ∃ x, x = D[k] := ⟨_, rfl⟩
    rw [← hx] at hK ⊢
    clear hx
    obtain ⟨f, t, q⟩ := x
    have hb : Below W.heap.size W (W.alloc (.cells #[.int .i64 (f : Int), .int .i64 (t : Int), .int .i64 (q : Int)] 71)) := (Below.refl _ _).alloc (Nat.le_refl _) _
    have hfin := fun a' e5 => hK a' (W.alloc (.cells #[.int .i64 (f : Int), .int .i64 (t : Int), .int .i64 (q : Int)] 71)) (keepsFrom_below hb) (KeepsS.of_below hb (fun j hj => Nat.lt_of_lt_of_le (hA.kp.2 j hj) hA.kp.1.1)) (hA.below hb) ⟨W.heap.size, hA.kp.1.1, heap_alloc_new _ _, e5⟩
    have HFin : Hid (K { tmps := #[.pointer (some ⟨nb, 0, none⟩), undef, .int .i64 0, .pointer (some ⟨w.heap.size, 0, none⟩), .pointer (some ⟨W.heap.size, 0, none⟩), .pointer (some ⟨nb, 0, none⟩), .func (.func 38) #[] #[.pointer (some ⟨B1, 0, none⟩)], .agg #[.int .i64 (f : Int), .int .i64 (t : Int), .int .i64 (q : Int)], undef, undef, undef, undef, undef], defers := [] } (W.alloc (.cells #[.int .i64 (f : Int), .int .i64 (t : Int), .int .i64 (q : Int)] 71))) := hfin _ rfl
    clear hK hfin hb hA
    simp only [encW]
    gi_wp2
    exact HFin.out
  case body =>
    rintro l k hk a' W hlD hA ⟨Bx, hx1, hx2, rfl⟩
    have HSu : Hid (sumW (D.take (k + 1)) = sumW (D.take k) + D[k].2.2) := sumW_at hk
    have hq := HLim.out D[k] (List.getElem_mem hk)
    have hs := sumW_le (D.take k) (fun x hx => HLim.out x (List.mem_of_mem_take hx))
    have hd := HD.out
    have hdk : (D.take k).length ≤ 8192 := by rw [List.length_take]; omega
    obtain ⟨x, hx⟩ : ∃ x, x = D[k] := ⟨_, rfl⟩
    rw [← hx] at hq hx2 HSu
    simp only [← hx]
    clear hx
    obtain ⟨f, t, q⟩ := x
    generalize sumW (D.take k) = s at *
    have hs2 : s ≤ 2097152 := by omega
    have hq2 : q ≤ 256 := hq
    have x1 := hA.box.cell
    have x2 := hA.box.frozen
    have y2 : W.cell? ⟨Bx, 2, none⟩ = some (.int .i64 (q : Int)) := by rw [cell_of_row W Bx _ _ _ _ hx2]; rfl
    have HA : Hid (LenB w W2 S s W) := hA
    clear hA hx2 hs hd hdk hq
    simp only at HSu
    gi_wp2
    refine ⟨keepsFrom_set _ _ _, ?_, ?_⟩
    · exact ⟨by simp [World.setCell], fun j hj => RowKit.Below.heap_setCell _ _ _ _ (fun (e : j = w.heap.size) => HA.out.b2 (e ▸ hj))⟩
    · show LenB w W2 S (sumW (D.take (k + 1))) _
      rw [HSu.out]
      have h9 := HA.out.set (s + q)
      rw [Int.natCast_add] at h9
      exact h9
  case done =>
    rintro Dd W hDd hA hDf
    rw [List.take_length] at hA
    have HA : Hid (LenB w W2 S (sumW D) W) := hA
    have HDf : Hid (W.heap[Dd]? = some (.deferred (some []))) := hDf
    have x1 := hA.box.cell
    clear hA hDf
    gi_wp2
    refine ⟨by simp, .inl ⟨_, _, rfl, run_takeDeferred HDf.out, ?_⟩⟩
    have hgp : W.grownBy (W.putObj Dd (.deferred none)) (some Dd) := grownBy_putObj' W Dd (.deferred none)
    have hE := HA.out.grown hgp (fun r e => by cases e; exact ⟨hDd, _, HDf.out, rfl⟩)
    exact ⟨_, results_tmp rfl _ _ _, by rw [← HDe.out]; rfl, hE.bel⟩
  case stop => rintro D c k W hD hk hf; exact hf.elim

theorem len_any (F : Nat → Prop) (nb n : Nat) (B : Nat → List Pc) (w : World) (h : NetOk F w nb n B) :
    Calls Try.prog 28 #[.pointer (some ⟨nb, 0, none⟩)] w fun e w' => e = .returned (.int .i64 (sumW (wall n B n) : Int)) ∧ Below w.heap.size w w' :=
  callsIn_wide.1 (len_in 5 (Nat.le_refl _) F nb n B w h)

end Go.Proofs.Ytlcnfoljkcfplaa
