/- What the document's Read of a frame does. -/
import Derived.Test.YtlioiblpcpaejaaGreatXPlainD
import Derived.Test.YtlioiblpcpaejaaGreatXWsI
import Derived.Test.YtlioiblpcpaejaaGreatXWdW
import Derived.Test.YtlioiblpcpaejaaGreatXWrK
namespace Go.Proofs.YtlioiblpcpaejaaGreat
open Go.RowKit
set_option linter.unusedVariables false
set_option linter.unusedSimpArgs false

/-- The result's box, the frame's, the reader's. -/
def FS (n : Nat) (w1 : World) (gF gR : Nat) (C R : Array Value) (W : World) : Prop :=
  W.heap[n]? = some (.cells #[.int .i64 0, .int .i64 0, .slice none 0 0, .bool false, .slice none 0 0] 26) ∧ W.heap[gF]? = some (.cells C 26) ∧ W.heap[gR]? = some (.cells R 46) ∧ Below gF w1 W ∧ n < gF ∧ gF < gR ∧ w1.heap.size = gF
theorem FS.call {n : Nat} {w1 : World} {gF gR : Nat} {C R : Array Value} {W W' : World} (h : FS n w1 gF gR C R W) (hb : Below W.heap.size W W') : FS n w1 gF gR C R W' :=
  ⟨row_below h.1 hb, row_below h.2.1 hb, row_below h.2.2.1 hb, h.2.2.2.1.trans (hb.mono (Nat.le_of_lt (row_lt h.2.1))), h.2.2.2.2⟩
theorem FS.setR {n : Nat} {w1 : World} {gF gR : Nat} {C R : Array Value} {W : World} (h : FS n w1 gF gR C R W) (R' : Array Value) : FS n w1 gF gR C R' (W.setRow gR R') := by
  obtain ⟨h1, h2, h3, h4, h5, h6, h7⟩ := h
  exact ⟨row_other h1 _ (by omega), row_other h2 _ (by omega), setRow_same h3, below_setRow h4 (by omega) _, h5, h6, h7⟩
theorem FS.set {n : Nat} {w1 : World} {gF gR : Nat} {C R : Array Value} {W : World} (h : FS n w1 gF gR C R W) (i : Nat) (v : Value) : FS n w1 gF gR (C.setIfInBounds i v) R (W.setCell ⟨gF, i, none⟩ v) := by
  obtain ⟨h1, h2, h3, h4, h5, h6, h7⟩ := h
  refine ⟨?_, heap_setCell_same W gF i _ _ v h2, ?_, h4.setCell (by show _ ≤ gF; omega) _, h5, h6, h7⟩
  · rw [heap_setCell_other W ⟨gF, i, none⟩ n v (by show n ≠ gF; omega)]; exact h1
  · rw [heap_setCell_other W ⟨gF, i, none⟩ gR v (by show gR ≠ gF; omega)]; exact h3
theorem FS.free {n : Nat} {w1 : World} {gF gR : Nat} {C R : Array Value} {W : World} (h : FS n w1 gF gR C R W) : ∀ i, W.frozen? ⟨gF, i, none⟩ = false := fun i => frozen_of_row W gF i _ _ h.2.1
theorem FS.cells {n : Nat} {w1 : World} {gF gR : Nat} {v0 v1 v2 v3 v4 : Value} {R : Array Value} {W : World} (h : FS n w1 gF gR #[v0, v1, v2, v3, v4] R W) : W.cell? ⟨gF, 0, none⟩ = some v0 ∧ W.cell? ⟨gF, 1, none⟩ = some v1 ∧ W.cell? ⟨gF, 2, none⟩ = some v2 ∧ W.cell? ⟨gF, 3, none⟩ = some v3 ∧ W.cell? ⟨gF, 4, none⟩ = some v4 := by
  have h := h.2.1
  exact ⟨cell_of_row W gF 0 _ _ _ h, cell_of_row W gF 1 _ _ _ h, cell_of_row W gF 2 _ _ _ h, cell_of_row W gF 3 _ _ _ h, cell_of_row W gF 4 _ _ _ h⟩
theorem FS.grown {n : Nat} {w1 : World} {gF gR : Nat} {C R : Array Value} {W W' : World} {r : Option Nat} (h : FS n w1 gF gR C R W) (hg : W.grownBy W' r) (hr : ∀ j, r = some j → gR + 1 ≤ j) : FS n w1 gF gR C R W' := by
  obtain ⟨h1, h2, h3, h4, h5, h6, h7⟩ := h
  exact ⟨row_grown h1 hg (fun e => by have := hr _ e.symm; omega), row_grown h2 hg (fun e => by have := hr _ e.symm; omega), row_grown h3 hg (fun e => by have := hr _ e.symm; omega), h4.trans (grownBy.toBelow hg (Nat.le_of_lt (row_lt h2)) (fun j e => by have := hr j e; omega)), h5, h6, h7⟩
/-- The clock that was read. -/
theorem OwnI.setR {N gR : Nat} {W : World} {v : Value} {d : List Int} (h : OwnI N W v d) (hN : gR < N) (R : Array Value) : OwnI N (W.setRow gR R) v d := h.keep fun j hj _ => setRow_other W gR j R (by omega)
theorem OwnI.setC {N g : Nat} {W : World} {v : Value} {d : List Int} (h : OwnI N W v d) (hN : g < N) (i : Nat) (u : Value) : OwnI N (W.setCell ⟨g, i, none⟩ u) v d := h.keep fun j hj _ => heap_setCell_other W ⟨g, i, none⟩ j u (by show j ≠ g; omega)
theorem OwnH.keep {B : Nat} {w w' : World} {v : Value} {D : List (Ch × Value)} (h : OwnH B w v D) (hk : ∀ j, B ≤ j → j < w.heap.size → w'.heap[j]? = w.heap[j]?) : OwnH B w' v D := by
  refine ⟨h.1, ?_⟩
  rcases h.2 with hn | ⟨g, cap, cur, hv, hg, hc, rest⟩
  · exact .inl hn
  · refine .inr ⟨g, cap, cur, hv, hg, ?_, rest⟩
    rw [hk g hg (Array.getElem?_eq_some_iff.1 hc).1]
    exact hc
theorem OwnH.setR {N gR : Nat} {W : World} {v : Value} {D : List (Ch × Value)} (h : OwnH N W v D) (hN : gR < N) (R : Array Value) : OwnH N (W.setRow gR R) v D := h.keep fun j hj _ => setRow_other W gR j R (by omega)
theorem OwnH.setC {N g : Nat} {W : World} {v : Value} {D : List (Ch × Value)} (h : OwnH N W v D) (hN : g < N) (i : Nat) (u : Value) : OwnH N (W.setCell ⟨g, i, none⟩ u) v D := h.keep fun j hj _ => heap_setCell_other W ⟨g, i, none⟩ j u (by show j ≠ g; omega)
def DepsOf (N : Nat) (W : World) (D : List (Ch × Value)) : Prop := ∀ x ∈ D, OwnI N W x.2 x.1.deps ∧ Sized x.1 ∧ x.1.deps.length ≤ 64

theorem many_atT (p : List UInt8) (k : Nat) (y : Int) (hk : k ≤ p.length) (n : Nat) : (manyOf (txtR (p.length : Int)) n p k y).2.1 ≤ p.length := by
  induction n with
  | zero => exact hk
  | succ n ih => exact rdT_at p _ _ _ ih
theorem getF_depsD (p : List UInt8) : (getF p).1.deps.length ≤ 64 := by
  unfold getF
  split
  · exact chan_deps p 0 0
  · show ([] : List Int).length ≤ 64; simp
theorem writeF_lenD (f : Fr) : (writeF f).1.length ≤ 281474976710656 := by
  unfold writeF
  split
  · rename_i h
    have h0 := loadFr_len h
    have h1 := frameL_length f.kind.toNat (loadFr f)
    show (frameL f.kind.toNat (loadFr f)).length ≤ _
    omega
  · simp

set_option maxRecDepth 100000 in
set_option maxHeartbeats 8000000 in
theorem refRead_any (v : Value) (p : List UInt8) (w : World) (h : IsB w v p) :
    Calls Tryz.prog 5 #[v] w fun e w' => GotFrK (readF p).1 (readF p).2 w e w' := by
  have HP : Hid (IsB w v p) := h
  obtain ⟨av, cv0, ev⟩ := h.form
  subst ev
  obtain ⟨⟨kd, load, oe⟩, eO⟩ : ∃ r, openL p = r := ⟨_, rfl⟩
  have C0 : Hid (∀ W, Below w.heap.size w W → Calls Tryz.prog 17 #[.slice av p.length cv0] W fun e w' => ∃ v', e = .returned (.tuple #[.int .i64 (kd : Int), v', .int .i64 oe]) ∧ OwnB W.heap.size w' v' load ∧ Below W.heap.size W w') := fun W hb => by
    have := refOpen_any _ p W (HP.out.below hb)
    rw [eO] at this
    exact this
  have HB0 : Hid (Below w.heap.size w (w.alloc (.cells #[.int .i64 0, .int .i64 0, .slice none 0 0, .bool false, .slice none 0 0] 26))) := (Below.refl _ _).alloc (Nat.le_refl _) _
  have HR0 : Hid ((w.alloc (.cells #[.int .i64 0, .int .i64 0, .slice none 0 0, .bool false, .slice none 0 0] 26)).heap[w.heap.size]? = some (.cells #[.int .i64 0, .int .i64 0, .slice none 0 0, .bool false, .slice none 0 0] 26)) := heap_alloc_new _ _
  by_cases ho : oe = 0
  · subst ho
    have hO : (openL p).2.2 = 0 := by rw [eO]
    have hLd : (openL p).2.1 = load := by rw [eO]
    have hll : load.length ≤ 65536 := by have := (seal_open hO).2.2.1; rw [eO] at this; exact this
    have hKd : ((openL p).1 : Int) = (kd : Int) := by rw [eO]
    obtain ⟨⟨fm, k0, y0⟩, e0⟩ : ∃ r, numR load 0 0 = r := ⟨_, rfl⟩
    obtain ⟨⟨cl, k1, y1⟩, e1⟩ : ∃ r, numsR load k0 y0 = r := ⟨_, rfl⟩
    obtain ⟨⟨mo, k2, y2⟩, e2⟩ : ∃ r, numR load k1 y1 = r := ⟨_, rfl⟩
    obtain ⟨⟨m0, k3, y3⟩, e3⟩ : ∃ r, rdC load k2 y2 64 = r := ⟨_, rfl⟩
    have hm0 : 0 ≤ m0 ∧ m0 ≤ 64 := by have := rdC_nat load k2 y2 64; rw [e3] at this; simp only at this; omega
    obtain ⟨m, rfl⟩ : ∃ m : Nat, m0 = (m : Int) := ⟨m0.toNat, by omega⟩
    have hm : m ≤ 64 := by omega
    clear hm0
    have hk0 : k0 ≤ load.length := by have := numR_at load 0 0 (Nat.zero_le _); rw [e0] at this; exact this
    have hk1 : k1 ≤ load.length := by have := numsR_at load k0 y0 hk0; rw [e1] at this; exact this
    have hk2 : k2 ≤ load.length := by have := numR_at load k1 y1 hk1; rw [e2] at this; exact this
    have hk3 : k3 ≤ load.length := by have := rdC_at load k2 y2 64 hk2; rw [e3] at this; exact this
    have hc64 : cl.length ≤ 64 := by have := numsR_len load k0 y0; rw [e1] at this; exact this
    have HBAD : Hid (∀ j, j < m → ∀ t k5 y5, rdT load (manyOf (txtR (load.length : Int)) j load k3 y3).2.1 (manyOf (txtR (load.length : Int)) j load k3 y3).2.2 (load.length : Int) = (t, k5, y5) → (getF t).2 ≠ 0 → readF p = (Fr.none, 2)) := fun j hj t k5 y5 ht hb => doc_bad hO hLd e0 e1 e2 e3 hj ht hb
    have HEND := read_cases hO (doc_only hLd e0 e1 e2 e3)
    rw [hKd] at HEND
    have HFIN : Hid _ := HEND
    clear HEND
    obtain ⟨b0, eb0⟩ : ∃ b, badL k0 y0 = b := ⟨_, rfl⟩
    obtain ⟨b1, eb1⟩ : ∃ b, badL k1 y1 = b := ⟨_, rfl⟩
    obtain ⟨b2, eb2⟩ : ∃ b, badL k2 y2 = b := ⟨_, rfl⟩
    obtain ⟨b3, eb3⟩ : ∃ b, badL k3 y3 = b := ⟨_, rfl⟩
    go_enter Tryz.func5, Tryz.ntmps5
    go_wp2_with fail
    refine (C0.out _ HB0.out).mono ?_
    rintro e w1 ⟨v1, rfl, o1, hb1⟩
    have HB1 : Hid (Below w.heap.size w w1) := HB0.out.trans (hb1.mono HB0.out.size)
    have HR1 : Hid (w1.heap[w.heap.size]? = some (.cells #[.int .i64 0, .int .i64 0, .slice none 0 0, .bool false, .slice none 0 0] 26)) := row_below HR0.out hb1
    obtain ⟨al, cap, ev1⟩ := o1.form
    subst ev1
    have HL : Hid (IsB w1 (.slice al load.length cap) load) := o1.isB (by omega)
    have D0 : Hid (∀ W, Below w1.heap.size w1 W → Calls Tryz.prog 18 #[.agg #[.slice al load.length cap, .int .i64 0, .int .i64 0, .int .i64 0]] W fun e w' => e = .returned (.tuple #[.agg #[.slice al load.length cap, .int .i64 (k0 : Int), .int .i64 y0, .int .i64 b0], .int .i64 fm]) ∧ Below W.heap.size W w') := fun W hb => by
      have := refNext_any al cap load 0 0 W (HL.out.below hb) (Nat.zero_le _)
      unfold numR at e0; rw [e0] at this
      simp only [refR, eb0] at this
      exact this
    have D1 : Hid (∀ W, Below w1.heap.size w1 W → Calls Tryz.prog 19 #[.agg #[.slice al load.length cap, .int .i64 (k0 : Int), .int .i64 y0, .int .i64 b0]] W fun e w' => ∃ v, e = .returned (.tuple #[.agg #[.slice al load.length cap, .int .i64 (k1 : Int), .int .i64 y1, .int .i64 b1], v]) ∧ OwnI W.heap.size w' v cl ∧ Below W.heap.size W w') := fun W hb => by
      have := refNumbers_any al cap load k0 y0 W (HL.out.below hb) hk0
      rw [e1] at this
      simp only [refR, eb0, eb1] at this
      exact this
    have D2 : Hid (∀ W, Below w1.heap.size w1 W → Calls Tryz.prog 18 #[.agg #[.slice al load.length cap, .int .i64 (k1 : Int), .int .i64 y1, .int .i64 b1]] W fun e w' => e = .returned (.tuple #[.agg #[.slice al load.length cap, .int .i64 (k2 : Int), .int .i64 y2, .int .i64 b2], .int .i64 mo]) ∧ Below W.heap.size W w') := fun W hb => by
      have := refNext_any al cap load k1 y1 W (HL.out.below hb) hk1
      unfold numR at e2; rw [e2] at this
      simp only [refR, eb1, eb2] at this
      exact this
    have D3 : Hid (∀ W, Below w1.heap.size w1 W → Calls Tryz.prog 20 #[.agg #[.slice al load.length cap, .int .i64 (k2 : Int), .int .i64 y2, .int .i64 b2], .int .i64 64] W fun e w' => e = .returned (.tuple #[.agg #[.slice al load.length cap, .int .i64 (k3 : Int), .int .i64 y3, .int .i64 b3], .int .i64 (m : Int)]) ∧ Below W.heap.size W w') := fun W hb => by
      have := refCount_any al cap load k2 y2 64 W (HL.out.below hb) hk2
      rw [e3] at this
      simp only [refR, eb2, eb3] at this
      exact this
    have HK3 : Hid (k3 ≤ load.length) := hk3
    have HEB3 : Hid (badL k3 y3 = b3) := eb3
    have hn1 : w.heap.size < w1.heap.size := row_lt HR1.out
    clear e0 e1 e2 e3 hk0 hk1 hk2 hk3 eb0 eb1 eb2 eb3 o1 hb1 HB0 HR0 hO hLd hKd eO C0
    have BA : Hid (Below w1.heap.size w1 ((w1.alloc (.cells #[.int .i64 (kd : Int), .int .i64 0, .slice none 0 0, .bool false, .slice none 0 0] 26)).alloc (.cells #[.slice al load.length cap, .int .i64 0, .int .i64 0, .int .i64 0] 46))) := ((Below.refl _ _).alloc (Nat.le_refl _) _).alloc (by simp) _
    have F1 : Hid (FS w.heap.size w1 w1.heap.size (w1.heap.size + 1) #[.int .i64 (kd : Int), .int .i64 0, .slice none 0 0, .bool false, .slice none 0 0] #[.slice al load.length cap, .int .i64 0, .int .i64 0, .int .i64 0] ((w1.alloc (.cells #[.int .i64 (kd : Int), .int .i64 0, .slice none 0 0, .bool false, .slice none 0 0] 26)).alloc (.cells #[.slice al load.length cap, .int .i64 0, .int .i64 0, .int .i64 0] 46))) := ⟨row_alloc (row_alloc HR1.out _) _, row_alloc (heap_alloc_new _ _) _, heap_at _ _ _ (by simp), BA.out, hn1, by omega, rfl⟩
    go_upto_region 6 with (first | (with_reducible refine wpList_store_new (P := Tryz.prog) ?hg 26 (.tmp 7) (.tmp 28) ?ho _ _ ?hx ?hy sizeFrame ?hs ?h1 ?hrest; case hg => rfl; case ho => rfl; case hx => rfl; case hy => rfl; case hs => rfl; case h1 => first | rfl | simp [Value.oneCell']) | (with_reducible refine wpList_store_new (P := Tryz.prog) ?hg 46 (.tmp 8) (.tmp 30) ?ho _ _ ?hx ?hy sizeReader ?hs ?h1 ?hrest; case hg => rfl; case ho => rfl; case hx => rfl; case hy => rfl; case hs => rfl; case h1 => first | rfl | simp [Value.oneCell']))
    obtain ⟨W1, eW⟩ : ∃ X, X = ((w1.alloc (.cells #[.int .i64 (kd : Int), .int .i64 0, .slice none 0 0, .bool false, .slice none 0 0] 26)).alloc (.cells #[.slice al load.length cap, .int .i64 0, .int .i64 0, .int .i64 0] 46)) := ⟨_, rfl⟩
    rw [← eW] at F1 ⊢
    clear eW BA HR1
    have BW : Hid (∀ W, Below w1.heap.size w1 W → Below w.heap.size w W) := fun W hb => HB1.out.trans (hb.mono (Nat.le_of_lt hn1))
    clear HB1
    have HT : Hid (∀ W k y t k5 y5 b b5, Below w1.heap.size w1 W → k ≤ load.length → rdT load k y (load.length : Int) = (t, k5, y5) → badL k y = b → badL k5 y5 = b5 → Calls Tryz.prog 21 #[.agg #[.slice al load.length cap, .int .i64 (k : Int), .int .i64 y, .int .i64 b], .int .i64 (load.length : Int)] W fun e w' => e = .returned (.tuple #[.agg #[.slice al load.length cap, .int .i64 (k5 : Int), .int .i64 y5, .int .i64 b5], .string (txt t)]) ∧ Below W.heap.size W w') := fun W k y t k5 y5 b b5 hb hk ht e1 e2 => by
      have := refText_any al cap load k y (load.length : Int) W (HL.out.below hb) hk
      rw [ht] at this
      simp only [refR, e1, e2] at this
      exact this
    generalize w1.heap.size + 1 = gR at *
    generalize w1.heap.size = gF at *
    go_step
    refine wpList_load_row rfl 46 (.tmp 8) rfl gR _ _ _ rfl F1.out.2.2.1 Tryz.underlying46 rfl sizeReader ?_
    (try simp only [Act.put, List.setIfInBounds_toArray, List.set_cons_zero, List.set_cons_succ])
    go_wp2_with fail
    refine (D0.out _ F1.out.2.2.2.1).mono ?_
    rintro e w9 ⟨rfl, hb⟩
    have Ra : Hid (FS w.heap.size w1 gF gR #[.int .i64 (kd : Int), .int .i64 0, .slice none 0 0, .bool false, .slice none 0 0] #[.slice al load.length cap, .int .i64 0, .int .i64 0, .int .i64 0] w9) := F1.out.call hb
    have Rb : Hid (FS w.heap.size w1 gF gR #[.int .i64 (kd : Int), .int .i64 0, .slice none 0 0, .bool false, .slice none 0 0] #[.slice al load.length cap, .int .i64 (k0 : Int), .int .i64 y0, .int .i64 b0] (w9.setRow gR #[.slice al load.length cap, .int .i64 (k0 : Int), .int .i64 y0, .int .i64 b0])) := Ra.out.setR _
    have hgg := Ra.out.2.2.2.2.2.1
    clear hb F1
    obtain ⟨c_0, c_1, c_2, c_3, c_4⟩ := Rb.out.cells
    have f_1 := Rb.out.free 1
    have F2 : Hid (FS w.heap.size w1 gF gR #[.int .i64 (kd : Int), .int .i64 fm, .slice none 0 0, .bool false, .slice none 0 0] #[.slice al load.length cap, .int .i64 (k0 : Int), .int .i64 y0, .int .i64 b0] ((w9.setRow gR #[.slice al load.length cap, .int .i64 (k0 : Int), .int .i64 y0, .int .i64 b0]).setCell ⟨gF, 1, none⟩ (.int .i64 fm))) := by
      have h0 := (Rb.out.set 1 (.int .i64 fm))
      simp only [List.setIfInBounds_toArray, List.set_cons_zero, List.set_cons_succ] at h0
      exact h0
    rename_i hKq
    refine hKq _ _ ?_
    clear hKq
    (try simp only [Act.put, List.setIfInBounds_toArray, List.set_cons_zero, List.set_cons_succ])
    refine wpList_plain rfl (fun K hK => ?_)
    go_simp
    refine hK _ _ ?_
    clear hK K
    refine wpList_plain rfl (fun K hK => ?_)
    go_simp
    refine hK _ _ ?_
    clear hK K
    refine wpList_plain rfl (fun K hK => ?_)
    go_simp
    refine hK _ _ ?_
    clear hK K
    refine wpList_store_row rfl 46 (.tmp 8) (.tmp 34) rfl gR _ _ #[.slice al load.length cap, .int .i64 (k0 : Int), .int .i64 y0, .int .i64 b0] rfl rfl Ra.out.2.2.1 sizeReader rfl (by simp [Value.oneCell']) ?_
    (try simp only [Act.put, List.setIfInBounds_toArray, List.set_cons_zero, List.set_cons_succ])
    refine wpList_plain rfl (fun K hK => ?_)
    go_simp
    refine hK _ _ ?_
    clear hK K
    refine wpList_plain rfl (fun K hK => ?_)
    go_simp
    refine hK _ _ ?_
    clear hK K
    go_upto_region 7 with fail
    clear Ra Rb hgg c_0 c_1 c_2 c_3 c_4 f_1
    obtain ⟨W2, eW⟩ : ∃ X, X = ((w9.setRow gR #[.slice al load.length cap, .int .i64 (k0 : Int), .int .i64 y0, .int .i64 b0]).setCell ⟨gF, 1, none⟩ (.int .i64 fm)) := ⟨_, rfl⟩
    rw [← eW] at F2 ⊢
    clear eW
    go_step
    refine wpList_load_row rfl 46 (.tmp 8) rfl gR _ _ _ rfl F2.out.2.2.1 Tryz.underlying46 rfl sizeReader ?_
    (try simp only [Act.put, List.setIfInBounds_toArray, List.set_cons_zero, List.set_cons_succ])
    go_wp2_with fail
    refine (D1.out _ F2.out.2.2.2.1).mono ?_
    rintro e w9 ⟨v9, rfl, o9, hb⟩
    obtain ⟨ac, cc, ev⟩ := o9.form
    subst ev
    have Qa : Hid (OwnI (gR + 1) w9 (.slice ac cl.length cc) cl) := o9.cut (row_lt F2.out.2.2.1)
    clear o9
    have Ra : Hid (FS w.heap.size w1 gF gR #[.int .i64 (kd : Int), .int .i64 fm, .slice none 0 0, .bool false, .slice none 0 0] #[.slice al load.length cap, .int .i64 (k0 : Int), .int .i64 y0, .int .i64 b0] w9) := F2.out.call hb
    have Rb : Hid (FS w.heap.size w1 gF gR #[.int .i64 (kd : Int), .int .i64 fm, .slice none 0 0, .bool false, .slice none 0 0] #[.slice al load.length cap, .int .i64 (k1 : Int), .int .i64 y1, .int .i64 b1] (w9.setRow gR #[.slice al load.length cap, .int .i64 (k1 : Int), .int .i64 y1, .int .i64 b1])) := Ra.out.setR _
    have hgg := Ra.out.2.2.2.2.2.1
    clear hb F2
    obtain ⟨c_0, c_1, c_2, c_3, c_4⟩ := Rb.out.cells
    have f_2 := Rb.out.free 2
    have F3 : Hid (FS w.heap.size w1 gF gR #[.int .i64 (kd : Int), .int .i64 fm, .slice ac cl.length cc, .bool false, .slice none 0 0] #[.slice al load.length cap, .int .i64 (k1 : Int), .int .i64 y1, .int .i64 b1] ((w9.setRow gR #[.slice al load.length cap, .int .i64 (k1 : Int), .int .i64 y1, .int .i64 b1]).setCell ⟨gF, 2, none⟩ (.slice ac cl.length cc))) := by
      have h0 := (Rb.out.set 2 (.slice ac cl.length cc))
      simp only [List.setIfInBounds_toArray, List.set_cons_zero, List.set_cons_succ] at h0
      exact h0
    have Q3 : Hid (OwnI (gR + 1) ((w9.setRow gR #[.slice al load.length cap, .int .i64 (k1 : Int), .int .i64 y1, .int .i64 b1]).setCell ⟨gF, 2, none⟩ (.slice ac cl.length cc)) (.slice ac cl.length cc) cl) := ((Qa.out.setR (by omega) _).setC (by omega) 2 (.slice ac cl.length cc))
    rename_i hKq
    refine hKq _ _ ?_
    clear hKq
    (try simp only [Act.put, List.setIfInBounds_toArray, List.set_cons_zero, List.set_cons_succ])
    refine wpList_plain rfl (fun K hK => ?_)
    go_simp
    refine hK _ _ ?_
    clear hK K
    refine wpList_plain rfl (fun K hK => ?_)
    go_simp
    refine hK _ _ ?_
    clear hK K
    refine wpList_plain rfl (fun K hK => ?_)
    go_simp
    refine hK _ _ ?_
    clear hK K
    refine wpList_store_row rfl 46 (.tmp 8) (.tmp 40) rfl gR _ _ #[.slice al load.length cap, .int .i64 (k1 : Int), .int .i64 y1, .int .i64 b1] rfl rfl Ra.out.2.2.1 sizeReader rfl (by simp [Value.oneCell']) ?_
    (try simp only [Act.put, List.setIfInBounds_toArray, List.set_cons_zero, List.set_cons_succ])
    refine wpList_plain rfl (fun K hK => ?_)
    go_simp
    refine hK _ _ ?_
    clear hK K
    refine wpList_plain rfl (fun K hK => ?_)
    go_simp
    refine hK _ _ ?_
    clear hK K
    go_upto_region 10 with fail
    clear Ra Rb hgg c_0 c_1 c_2 c_3 c_4 f_2 Qa
    obtain ⟨W3, eW⟩ : ∃ X, X = ((w9.setRow gR #[.slice al load.length cap, .int .i64 (k1 : Int), .int .i64 y1, .int .i64 b1]).setCell ⟨gF, 2, none⟩ (.slice ac cl.length cc)) := ⟨_, rfl⟩
    rw [← eW] at F3 Q3 ⊢
    clear eW
    go_step
    refine wpList_load_row rfl 46 (.tmp 8) rfl gR _ _ _ rfl F3.out.2.2.1 Tryz.underlying46 rfl sizeReader ?_
    (try simp only [Act.put, List.setIfInBounds_toArray, List.set_cons_zero, List.set_cons_succ])
    go_wp2_with fail
    refine (D2.out _ F3.out.2.2.2.1).mono ?_
    rintro e w9 ⟨rfl, hb⟩
    have Qa : Hid (OwnI (gR + 1) w9 (.slice ac cl.length cc) cl) := Q3.out.below hb
    have Ra : Hid (FS w.heap.size w1 gF gR #[.int .i64 (kd : Int), .int .i64 fm, .slice ac cl.length cc, .bool false, .slice none 0 0] #[.slice al load.length cap, .int .i64 (k1 : Int), .int .i64 y1, .int .i64 b1] w9) := F3.out.call hb
    have Rb : Hid (FS w.heap.size w1 gF gR #[.int .i64 (kd : Int), .int .i64 fm, .slice ac cl.length cc, .bool false, .slice none 0 0] #[.slice al load.length cap, .int .i64 (k2 : Int), .int .i64 y2, .int .i64 b2] (w9.setRow gR #[.slice al load.length cap, .int .i64 (k2 : Int), .int .i64 y2, .int .i64 b2])) := Ra.out.setR _
    have hgg := Ra.out.2.2.2.2.2.1
    clear hb F3
    obtain ⟨c_0, c_1, c_2, c_3, c_4⟩ := Rb.out.cells
    have F4 : Hid (FS w.heap.size w1 gF gR #[.int .i64 (kd : Int), .int .i64 fm, .slice ac cl.length cc, .bool false, .slice none 0 0] #[.slice al load.length cap, .int .i64 (k2 : Int), .int .i64 y2, .int .i64 b2] (w9.setRow gR #[.slice al load.length cap, .int .i64 (k2 : Int), .int .i64 y2, .int .i64 b2])) := by
      have h0 := Rb.out
      skip
      exact h0
    have Q4 : Hid (OwnI (gR + 1) (w9.setRow gR #[.slice al load.length cap, .int .i64 (k2 : Int), .int .i64 y2, .int .i64 b2]) (.slice ac cl.length cc) cl) := (Qa.out.setR (by omega) _)
    rename_i hKq
    refine hKq _ _ ?_
    clear hKq
    (try simp only [Act.put, List.setIfInBounds_toArray, List.set_cons_zero, List.set_cons_succ])
    refine wpList_plain rfl (fun K hK => ?_)
    go_simp
    refine hK _ _ ?_
    clear hK K
    refine wpList_plain rfl (fun K hK => ?_)
    go_simp
    refine hK _ _ ?_
    clear hK K
    refine wpList_plain rfl (fun K hK => ?_)
    go_simp
    refine hK _ _ ?_
    clear hK K
    refine wpList_store_row rfl 46 (.tmp 8) (.tmp 46) rfl gR _ _ #[.slice al load.length cap, .int .i64 (k2 : Int), .int .i64 y2, .int .i64 b2] rfl rfl Ra.out.2.2.1 sizeReader rfl (by simp [Value.oneCell']) ?_
    (try simp only [Act.put, List.setIfInBounds_toArray, List.set_cons_zero, List.set_cons_succ])
    refine wpList_plain rfl (fun K hK => ?_)
    go_simp
    refine hK _ _ ?_
    clear hK K
    go_upto_region 11 with fail
    clear Ra Rb hgg c_0 c_1 c_2 c_3 c_4  Qa Q3
    obtain ⟨W4, eW⟩ : ∃ X, X = (w9.setRow gR #[.slice al load.length cap, .int .i64 (k2 : Int), .int .i64 y2, .int .i64 b2]) := ⟨_, rfl⟩
    rw [← eW] at F4 Q4 ⊢
    clear eW
    obtain ⟨c_0, c_1, c_2, c_3, c_4⟩ := F4.out.cells
    have f_3 := F4.out.free 3
    have hgg := F4.out.2.2.2.2.2.1
    have F5 : Hid (FS w.heap.size w1 gF gR #[.int .i64 (kd : Int), .int .i64 fm, .slice ac cl.length cc, .bool (mo == 1), .slice none 0 0] #[.slice al load.length cap, .int .i64 (k2 : Int), .int .i64 y2, .int .i64 b2] (W4.setCell ⟨gF, 3, none⟩ (.bool (mo == 1)))) := by
      have h0 := F4.out.set 3 (.bool (mo == 1))
      simp only [List.setIfInBounds_toArray, List.set_cons_zero, List.set_cons_succ] at h0
      exact h0
    have Q5 : Hid (OwnI (gR + 1) (W4.setCell ⟨gF, 3, none⟩ (.bool (mo == 1))) (.slice ac cl.length cc) cl) := Q4.out.setC (by omega) 3 _
    go_upto_region 12 with fail
    clear F4 Q4 hgg f_3 c_0 c_1 c_2 c_3 c_4
    obtain ⟨W5, eW⟩ : ∃ X, X = W4.setCell ⟨gF, 3, none⟩ (.bool (mo == 1)) := ⟨_, rfl⟩
    rw [← eW] at F5 Q5 ⊢
    clear eW
    go_step
    refine wpList_load_row rfl 46 (.tmp 8) rfl gR _ _ _ rfl F5.out.2.2.1 Tryz.underlying46 rfl sizeReader ?_
    (try simp only [Act.put, List.setIfInBounds_toArray, List.set_cons_zero, List.set_cons_succ])
    go_wp2_with fail
    refine (D3.out _ F5.out.2.2.2.1).mono ?_
    rintro e w9 ⟨rfl, hb⟩
    have Qa : Hid (OwnI (gR + 1) w9 (.slice ac cl.length cc) cl) := Q5.out.below hb
    have Ra : Hid (FS w.heap.size w1 gF gR #[.int .i64 (kd : Int), .int .i64 fm, .slice ac cl.length cc, .bool (mo == 1), .slice none 0 0] #[.slice al load.length cap, .int .i64 (k2 : Int), .int .i64 y2, .int .i64 b2] w9) := F5.out.call hb
    have Rb : Hid (FS w.heap.size w1 gF gR #[.int .i64 (kd : Int), .int .i64 fm, .slice ac cl.length cc, .bool (mo == 1), .slice none 0 0] #[.slice al load.length cap, .int .i64 (k3 : Int), .int .i64 y3, .int .i64 b3] (w9.setRow gR #[.slice al load.length cap, .int .i64 (k3 : Int), .int .i64 y3, .int .i64 b3])) := Ra.out.setR _
    have hgg := Ra.out.2.2.2.2.2.1
    clear hb F5
    obtain ⟨c_0, c_1, c_2, c_3, c_4⟩ := Rb.out.cells
    have F6 : Hid (FS w.heap.size w1 gF gR #[.int .i64 (kd : Int), .int .i64 fm, .slice ac cl.length cc, .bool (mo == 1), .slice none 0 0] #[.slice al load.length cap, .int .i64 (k3 : Int), .int .i64 y3, .int .i64 b3] (w9.setRow gR #[.slice al load.length cap, .int .i64 (k3 : Int), .int .i64 y3, .int .i64 b3])) := by
      have h0 := Rb.out
      skip
      exact h0
    have Q6 : Hid (OwnI (gR + 1) (w9.setRow gR #[.slice al load.length cap, .int .i64 (k3 : Int), .int .i64 y3, .int .i64 b3]) (.slice ac cl.length cc) cl) := (Qa.out.setR (by omega) _)
    rename_i hKq
    refine hKq _ _ ?_
    clear hKq
    (try simp only [Act.put, List.setIfInBounds_toArray, List.set_cons_zero, List.set_cons_succ])
    refine wpList_plain rfl (fun K hK => ?_)
    go_simp
    refine hK _ _ ?_
    clear hK K
    refine wpList_plain rfl (fun K hK => ?_)
    go_simp
    refine hK _ _ ?_
    clear hK K
    refine wpList_plain rfl (fun K hK => ?_)
    go_simp
    refine hK _ _ ?_
    clear hK K
    refine wpList_store_row rfl 46 (.tmp 8) (.tmp 54) rfl gR _ _ #[.slice al load.length cap, .int .i64 (k3 : Int), .int .i64 y3, .int .i64 b3] rfl rfl Ra.out.2.2.1 sizeReader rfl (by simp [Value.oneCell']) ?_
    (try simp only [Act.put, List.setIfInBounds_toArray, List.set_cons_zero, List.set_cons_succ])
    refine wpList_plain rfl (fun K hK => ?_)
    go_simp
    refine hK _ _ ?_
    clear hK K
    go_upto_region 13 with fail
    clear Ra Rb hgg c_0 c_1 c_2 c_3 c_4  Qa Q5
    obtain ⟨W6, eW⟩ : ∃ X, X = (w9.setRow gR #[.slice al load.length cap, .int .i64 (k3 : Int), .int .i64 y3, .int .i64 b3]) := ⟨_, rfl⟩
    rw [← eW] at F6 Q6 ⊢
    clear eW
    clear D0 D1 D2 D3
    go_wp2
    go_loopw [11] (fun i wr => ∃ j : Nat, j ≤ m ∧ i = .int .i64 (j : Int) ∧ Hid (∃ D0 ao0 co0, OwnH (gR + 1) wr (.slice ao0 D0.length co0) D0 ∧ D0.map Prod.fst = (manyOf (txtR (load.length : Int)) j load k3 y3).1.map (fun t => (getF t).1) ∧ DepsOf (gR + 1) wr D0 ∧ OwnI (gR + 1) wr (.slice ac cl.length cc) cl ∧ FS w.heap.size w1 gF gR #[.int .i64 (kd : Int), .int .i64 fm, .slice ac cl.length cc, .bool (mo == 1), .slice ao0 D0.length co0] #[.slice al load.length cap, .int .i64 (((manyOf (txtR (load.length : Int)) j load k3 y3).2.1 : Nat) : Int), .int .i64 (manyOf (txtR (load.length : Int)) j load k3 y3).2.2, .int .i64 (badL (manyOf (txtR (load.length : Int)) j load k3 y3).2.1 (manyOf (txtR (load.length : Int)) j load k3 y3).2.2)] wr)) (fun i _ => m - (intOf i).toNat)
    case atStart =>
      refine ⟨0, Nat.zero_le _, rfl, [], none, 0, OwnH.nil0 _ _, rfl, fun x hx => by simp at hx, Q6.out, ?_⟩
      show FS _ _ _ _ _ #[.slice al load.length cap, .int .i64 (k3 : Int), .int .i64 y3, .int .i64 (badL k3 y3)] _
      rw [HEB3.out]
      exact F6.out
    case round =>
      obtain ⟨j, hj, rfl, HO⟩ := hrel
      obtain ⟨D, ao, co, i1, i2, i3, i4, i5⟩ := HO.out
      clear HO
      by_cases hlt : j < m
      · have j1 : (j : Int) < (m : Int) := by omega
        have hkk := many_atT load k3 y3 HK3.out j
        have hbad := HBAD.out j hlt
        have HLEN : Hid (D.length = j) := by have := congrArg List.length i2; rw [List.length_map, List.length_map, manyOf_len] at this; exact this
        have hD64 : D.length ≤ 64 := by have := HLEN.out; omega
        obtain ⟨⟨l, kk, yy⟩, eM⟩ : ∃ r, (manyOf (txtR (load.length : Int)) j load k3 y3) = r := ⟨_, rfl⟩
        rw [eM] at i2 i5 hkk hbad
        simp only at i2 i5 hkk hbad
        obtain ⟨⟨t, k5, y5⟩, eT⟩ : ∃ r, rdT load kk yy (load.length : Int) = r := ⟨_, rfl⟩
        have HM : Hid ((manyOf (txtR (load.length : Int)) (j + 1) load k3 y3) = (l ++ [t], k5, y5)) := manyOf_succ (txtR (load.length : Int)) j load k3 y3 eM eT
        have ht64 : (t.length : Int) ≤ (load.length : Int) := by have := rdT_len load kk yy (load.length : Int) (by omega); rw [eT] at this; exact this
        obtain ⟨⟨c, ee⟩, eG⟩ : ∃ r, getF t = r := ⟨_, rfl⟩
        have hcd := getF_depsD t
        have hcs := getF_sized t
        rw [eG] at hcd hcs
        simp only at hcd hcs
        have HBD : Hid (ee ≠ 0 → readF p = (Fr.none, 2)) := fun h0 => hbad t k5 y5 eT (by rw [eG]; exact h0)
        obtain ⟨bb, eb⟩ : ∃ b, badL kk yy = b := ⟨_, rfl⟩
        obtain ⟨b5, eb5⟩ : ∃ b, badL k5 y5 = b := ⟨_, rfl⟩
        rw [eb] at i5
        have E1 : Hid (∀ W, Below gF w1 W → Calls Tryz.prog 21 #[.agg #[.slice al load.length cap, .int .i64 (kk : Int), .int .i64 yy, .int .i64 bb], .int .i64 (load.length : Int)] W fun e w' => e = .returned (.tuple #[.agg #[.slice al load.length cap, .int .i64 (k5 : Int), .int .i64 y5, .int .i64 b5], .string (txt t)]) ∧ Below W.heap.size W w') := fun W hb => HT.out W kk yy t k5 y5 bb b5 hb hkk eT eb eb5
        have E2 : Hid (∀ W a c', IsB W (.slice a t.length c') t → Calls Tryz.prog 22 #[.slice a t.length c'] W fun e w' => GotCh c ee W e w') := fun W a c' hW => by
          have := refGet_any a c' t W hW
          rw [eG] at this
          exact this
        have HEB5 : Hid (badL k5 y5 = b5) := eb5
        have HGT : Hid ((getF t).1 = c) := by show _ = _; rw [eG]
        have HI2 : Hid (D.map Prod.fst = l.map (fun t => (getF t).1)) := i2
        have HW : Hid (OwnH (gR + 1) wr (.slice ao D.length co) D ∧ DepsOf (gR + 1) wr D ∧ OwnI (gR + 1) wr (.slice ac cl.length cc) cl) := ⟨i1, i3, i4⟩
        have Fr1 : Hid (FS w.heap.size w1 gF gR #[.int .i64 (kd : Int), .int .i64 fm, .slice ac cl.length cc, .bool (mo == 1), .slice ao D.length co] #[.slice al load.length cap, .int .i64 (kk : Int), .int .i64 yy, .int .i64 bb] wr) := i5
        clear i1 i2 i3 i4 i5 hbad hkk eM eT eG eb eb5
        go_upto_region 17 with fail
        go_step
        refine wpList_load_row rfl 46 (.tmp 8) rfl gR _ _ _ rfl Fr1.out.2.2.1 Tryz.underlying46 rfl sizeReader ?_
        (try simp only [Act.put, List.setIfInBounds_toArray, List.set_cons_zero, List.set_cons_succ])
        go_wp2_with fail
        refine (E1.out _ Fr1.out.2.2.2.1).mono ?_
        rintro e w2 ⟨rfl, hb⟩
        have Fr2 : Hid (FS w.heap.size w1 gF gR #[.int .i64 (kd : Int), .int .i64 fm, .slice ac cl.length cc, .bool (mo == 1), .slice ao D.length co] #[.slice al load.length cap, .int .i64 (kk : Int), .int .i64 yy, .int .i64 bb] w2) := Fr1.out.call hb
        have hgg := Fr2.out.2.2.2.2.2.1
        have Fr3 : Hid (FS w.heap.size w1 gF gR #[.int .i64 (kd : Int), .int .i64 fm, .slice ac cl.length cc, .bool (mo == 1), .slice ao D.length co] #[.slice al load.length cap, .int .i64 (k5 : Int), .int .i64 y5, .int .i64 b5] (w2.setRow gR #[.slice al load.length cap, .int .i64 (k5 : Int), .int .i64 y5, .int .i64 b5])) := Fr2.out.setR _
        have HW3 : Hid (OwnH (gR + 1) (w2.setRow gR #[.slice al load.length cap, .int .i64 (k5 : Int), .int .i64 y5, .int .i64 b5]) (.slice ao D.length co) D ∧ DepsOf (gR + 1) (w2.setRow gR #[.slice al load.length cap, .int .i64 (k5 : Int), .int .i64 y5, .int .i64 b5]) D ∧ OwnI (gR + 1) (w2.setRow gR #[.slice al load.length cap, .int .i64 (k5 : Int), .int .i64 y5, .int .i64 b5]) (.slice ac cl.length cc) cl) := ⟨(HW.out.1.below hb).setR (by omega) _, fun x hx => ⟨((HW.out.2.1 x hx).1.below hb).setR (by omega) _, (HW.out.2.1 x hx).2⟩, (HW.out.2.2.below hb).setR (by omega) _⟩
        rename_i hKq
        refine hKq _ _ ?_
        clear hKq
        (try simp only [Act.put, List.setIfInBounds_toArray, List.set_cons_zero, List.set_cons_succ])
        refine wpList_plain rfl (fun K hK => ?_)
        go_simp
        refine hK _ _ ?_
        clear hK K
        refine wpList_plain rfl (fun K hK => ?_)
        go_simp
        refine hK _ _ ?_
        clear hK K
        refine wpList_plain rfl (fun K hK => ?_)
        go_simp
        refine hK _ _ ?_
        clear hK K
        refine wpList_store_row rfl 46 (.tmp 8) (.tmp 66) rfl gR _ _ #[.slice al load.length cap, .int .i64 (k5 : Int), .int .i64 y5, .int .i64 b5] rfl rfl Fr2.out.2.2.1 sizeReader rfl (by simp [Value.oneCell']) ?_
        (try simp only [Act.put, List.setIfInBounds_toArray, List.set_cons_zero, List.set_cons_succ])
        obtain ⟨Wt, eW⟩ : ∃ X, X = w2.setRow gR #[.slice al load.length cap, .int .i64 (k5 : Int), .int .i64 y5, .int .i64 b5] := ⟨_, rfl⟩
        rw [← eW] at Fr3 HW3 ⊢
        clear eW hb Fr1 Fr2 HW
        have cv := Lib.run_convert_string_bytes (P := Tryz.prog) Wt 9 22 5 (txt t) Tryz.underlying9 Tryz.underlying22 Tryz.underlying5
        have hcap : t.length ≤ grownCap Wt (txt t).size 0 5 := grownCap_ge Wt (txt t).size 0 5
        have BC : Hid (Below Wt.heap.size Wt (Lib.bytesWorld Wt 5 (txt t))) := below_bytes Wt _ _
        have IB : Hid (IsB (Lib.bytesWorld Wt 5 (txt t)) (.slice (some ⟨Wt.heap.size, 0, none⟩) t.length (grownCap Wt (txt t).size 0 5)) t) := isB_bytes Wt t _ hcap (by omega)
        clear hcap
        go_wp2_with fail
        refine (E2.out _ _ _ IB.out).mono ?_
        rintro e w4 ⟨dv, rfl, o4, hb4⟩
        obtain ⟨a4, c4, ev⟩ := o4.form
        subst ev
        have hb5 := BC.out.trans (hb4.mono BC.out.size)
        have Fr4 : Hid (FS w.heap.size w1 gF gR #[.int .i64 (kd : Int), .int .i64 fm, .slice ac cl.length cc, .bool (mo == 1), .slice ao D.length co] #[.slice al load.length cap, .int .i64 (k5 : Int), .int .i64 y5, .int .i64 b5] w4) := Fr3.out.call hb5
        have HW4 : Hid (OwnH (gR + 1) w4 (.slice ao D.length co) D ∧ DepsOf (gR + 1) w4 D ∧ OwnI (gR + 1) w4 (.slice ac cl.length cc) cl ∧ OwnI (gR + 1) w4 (.slice a4 c.deps.length c4) c.deps) := ⟨HW3.out.1.below hb5, fun x hx => ⟨(HW3.out.2.1 x hx).1.below hb5, (HW3.out.2.1 x hx).2⟩, HW3.out.2.2.below hb5, o4.cut (by have := row_lt Fr3.out.2.2.1; have := BC.out.size; omega)⟩
        clear Fr3 HW3 o4 hb4 hb5 BC IB cv E1 E2
        simp only [chCells]
        go_upto_region 19 with (with_reducible refine wpList_store_new (P := Tryz.prog) ?hg 57 (.tmp 13) (.tmp 72) ?ho _ _ ?hx ?hy sizeChange ?hs ?h1 ?hrest; case hg => rfl; case ho => rfl; case hx => rfl; case hy => rfl; case hs => rfl; case h1 => first | rfl | simp [Value.oneCell'])
        obtain ⟨Wg, eW⟩ : ∃ X, X = w4.alloc (.cells #[.int .i64 c.ac, .int .i64 c.ar, .int .i64 c.seq, .slice a4 c.deps.length c4, .int .i64 c.kind, .int .i64 c.nc, .int .i64 c.nr, .int .i64 c.pc, .int .i64 c.pr, .int .i64 c.fc, .int .i64 c.fr, .string c.name, .string c.value] 57) := ⟨_, rfl⟩
        have BA : Hid (Below w4.heap.size w4 Wg) := by rw [eW]; exact (Below.refl _ _).alloc (Nat.le_refl _) _
        have G5 : Hid (Wg.heap[w4.heap.size]? = some (.cells #[.int .i64 c.ac, .int .i64 c.ar, .int .i64 c.seq, .slice a4 c.deps.length c4, .int .i64 c.kind, .int .i64 c.nc, .int .i64 c.nr, .int .i64 c.pc, .int .i64 c.pr, .int .i64 c.fc, .int .i64 c.fr, .string c.name, .string c.value] 57)) := by rw [eW]; exact heap_alloc_new _ _
        have Fr5 : Hid (FS w.heap.size w1 gF gR #[.int .i64 (kd : Int), .int .i64 fm, .slice ac cl.length cc, .bool (mo == 1), .slice ao D.length co] #[.slice al load.length cap, .int .i64 (k5 : Int), .int .i64 y5, .int .i64 b5] Wg) := Fr4.out.call BA.out
        have HW5 : Hid (OwnH (gR + 1) Wg (.slice ao D.length co) D ∧ DepsOf (gR + 1) Wg D ∧ OwnI (gR + 1) Wg (.slice ac cl.length cc) cl ∧ OwnI (gR + 1) Wg (.slice a4 c.deps.length c4) c.deps) := ⟨HW4.out.1.below BA.out, fun x hx => ⟨(HW4.out.2.1 x hx).1.below BA.out, (HW4.out.2.1 x hx).2⟩, HW4.out.2.2.1.below BA.out, HW4.out.2.2.2.below BA.out⟩
        rw [← eW]
        clear eW BA Fr4 HW4
        generalize w4.heap.size = g13 at *
        by_cases hee : ee = 0
        · subst hee
          go_upto_region 21 with fail
          obtain ⟨c_0, c_1, c_2, c_3, c_4⟩ := Fr5.out.cells
          go_step
          refine wpList_plain rfl (fun K hK => ?_)
          go_simp
          refine hK _ _ ?_
          clear hK K
          refine wpList_plain rfl (fun K hK => ?_)
          go_simp
          refine hK _ _ ?_
          clear hK K
          refine wpList_load_row rfl 57 (.tmp 13) rfl g13 _ _ _ rfl G5.out Tryz.underlying57 rfl sizeChange ?_
          (try simp only [Act.put, List.setIfInBounds_toArray, List.set_cons_zero, List.set_cons_succ])
          obtain ⟨i0, hi, hz0, hz1, hz2⟩ := info_parts infoChange
          have HI : Hid (Tryz.prog.info? 57 = some i0 ∧ i0.zero = some (.agg #[.int .i64 0, .int .i64 0, .int .i64 0, .slice none 0 0, .int .i64 0, .int .i64 0, .int .i64 0, .int .i64 0, .int .i64 0, .int .i64 0, .int .i64 0, .string ⟨#[]⟩, .string ⟨#[]⟩]) ∧ i0.size = 13 ∧ i0.bytes = 136) := ⟨hi, hz0, hz1, hz2⟩
          clear hi hz0 hz1 hz2
          have BB : Hid (Below Wg.heap.size Wg (Wg.alloc (.cells #[.int .i64 c.ac, .int .i64 c.ar, .int .i64 c.seq, .slice a4 c.deps.length c4, .int .i64 c.kind, .int .i64 c.nc, .int .i64 c.nr, .int .i64 c.pc, .int .i64 c.pr, .int .i64 c.fc, .int .i64 c.fr, .string c.name, .string c.value] 57))) := (Below.refl _ _).alloc (Nat.le_refl _) _
          have HN : Hid (∀ j u, (chCells c (.slice a4 c.deps.length c4))[j]? = some u → (Wg.alloc (.cells #[.int .i64 c.ac, .int .i64 c.ar, .int .i64 c.seq, .slice a4 c.deps.length c4, .int .i64 c.kind, .int .i64 c.nc, .int .i64 c.nr, .int .i64 c.pc, .int .i64 c.pr, .int .i64 c.fc, .int .i64 c.fr, .string c.name, .string c.value] 57)).cell? ((⟨Wg.heap.size, 0, none⟩ : Addr).add j) = some u) := fun j u hj => by
            rw [Addr.add_lit, Nat.zero_add, cell_of_row _ _ _ _ _ _ (heap_alloc_new Wg _)]
            simpa [chCells] using hj
          have hsG := row_lt Fr5.out.2.2.1
          clear c_0 c_1 c_2 c_3 c_4
          refine wpList_plain rfl (fun K hK => ?_)
          go_simp
          refine hK _ _ ?_
          clear hK K
          refine wpList_append_own _ rfl _ _ 24 rfl (gR + 1) 57 i0 (.agg #[.int .i64 0, .int .i64 0, .int .i64 0, .slice none 0 0, .int .i64 0, .int .i64 0, .int .i64 0, .int .i64 0, .int .i64 0, .int .i64 0, .int .i64 0, .string ⟨#[]⟩, .string ⟨#[]⟩]) 13 136 Tryz.underlying24 HI.out.1 HI.out.2.1 HI.out.2.2.1 HI.out.2.2.2 rfl (by decide) (.slice ao D.length co) D.length (flatH D) rfl (World.ownsRow.alloc HW5.out.1 _) ⟨Wg.heap.size, 0, none⟩ 1 1 (chCells c (.slice a4 c.deps.length c4)) rfl rfl HN.out (fun u hu => by simp only [chCells, List.mem_cons, List.not_mem_nil, or_false] at hu; rcases hu with rfl | rfl | rfl | rfl | rfl | rfl | rfl | rfl | rfl | rfl | rfl | rfl | rfl <;> rfl) (by unfold maxLen; omega) (by omega) (by simp; omega) ?_
          intro v6 w6 hown6 hgrow6 hnil6
          obtain ⟨g6, c6, rfl⟩ := ownsRow_succ hown6
          have hFr6 := (Fr5.out.call BB.out).grown hgrow6 (fun z hz => HW5.out.1.block z hz)
          obtain ⟨c_0, c_1, c_2, c_3, c_4⟩ := hFr6.cells
          have f_4 := hFr6.free 4
          (try simp only [Act.put, List.setIfInBounds_toArray, List.set_cons_zero, List.set_cons_succ])
          refine wpList_plain rfl (fun K hK => ?_)
          go_simp
          refine hK _ _ ?_
          clear hK K
          refine wpList_plain rfl (fun K hK => ?_)
          go_simp
          refine hK _ _ ?_
          clear hK K
          have oA := HW5.out.1.below BB.out
          have hgg2 := hFr6.2.2.2.2.2.1
          have HN6 : Hid (∃ D0 ao0 co0, OwnH (gR + 1) (w6.setCell ⟨gF, 4, none⟩ (.slice (some ⟨g6, 0, none⟩) (D.length + 1) c6)) (.slice ao0 D0.length co0) D0 ∧ D0.map Prod.fst = (manyOf (txtR (load.length : Int)) (j + 1) load k3 y3).1.map (fun t => (getF t).1) ∧ DepsOf (gR + 1) (w6.setCell ⟨gF, 4, none⟩ (.slice (some ⟨g6, 0, none⟩) (D.length + 1) c6)) D0 ∧ OwnI (gR + 1) (w6.setCell ⟨gF, 4, none⟩ (.slice (some ⟨g6, 0, none⟩) (D.length + 1) c6)) (.slice ac cl.length cc) cl ∧ FS w.heap.size w1 gF gR #[.int .i64 (kd : Int), .int .i64 fm, .slice ac cl.length cc, .bool (mo == 1), .slice ao0 D0.length co0] #[.slice al load.length cap, .int .i64 (((manyOf (txtR (load.length : Int)) (j + 1) load k3 y3).2.1 : Nat) : Int), .int .i64 (manyOf (txtR (load.length : Int)) (j + 1) load k3 y3).2.2, .int .i64 (badL (manyOf (txtR (load.length : Int)) (j + 1) load k3 y3).2.1 (manyOf (txtR (load.length : Int)) (j + 1) load k3 y3).2.2)] (w6.setCell ⟨gF, 4, none⟩ (.slice (some ⟨g6, 0, none⟩) (D.length + 1) c6))) := by
            have h0 := hFr6.set 4 (.slice (some ⟨g6, 0, none⟩) (D.length + 1) c6)
            simp only [List.setIfInBounds_toArray, List.set_cons_zero, List.set_cons_succ] at h0
            refine ⟨D ++ [(c, .slice a4 c.deps.length c4)], some ⟨g6, 0, none⟩, c6, ?_, ?_, ?_, ?_, ?_⟩
            · have h1 : OwnH (gR + 1) w6 (.slice (some ⟨g6, 0, none⟩) (D.length + 1) c6) (D ++ [(c, .slice a4 c.deps.length c4)]) := OwnH.snoc hown6
              rw [List.length_append]
              exact h1.setC (by omega) 4 _
            · rw [HM.out, List.map_append, List.map_append, HI2.out]
              simp [HGT.out]
            · intro x hx
              rcases List.mem_append.1 hx with hx | hx
              · exact ⟨(((HW5.out.2.1 x hx).1.below BB.out).beside oA hgrow6).setC (by omega) 4 _, (HW5.out.2.1 x hx).2⟩
              · rw [List.mem_singleton.1 hx]
                exact ⟨((HW5.out.2.2.2.below BB.out).beside oA hgrow6).setC (by omega) 4 _, hcs, hcd⟩
            · exact ((HW5.out.2.2.1.below BB.out).beside oA hgrow6).setC (by omega) 4 _
            · rw [HM.out, List.length_append]
              simp only [HEB5.out]
              exact h0
          clear hown6 hgrow6 hnil6 HW5 BB HN Fr5 G5 oA hFr6 HM HI2 f_4 c_0 c_1 c_2 c_3 c_4
          go_wp2
          go_roundw
          case rel => exact ⟨j + 1, by omega, by go_num, HN6⟩
          case measure => simp [intOf]; omega
        · have HE2 : Hid (readF p = (Fr.none, 2)) := HBD.out hee
          have q : (ee != 0) = true := by simp [hee]
          clear hee
          go_upto_region 20 with fail
          go_step
          refine wpList_plain rfl (fun K hK => ?_)
          go_simp
          refine hK _ _ ?_
          clear hK K
          refine wpList_store_row rfl 26 (.tmp 2) (.tmp 76) rfl w.heap.size _ _ #[.int .i64 0, .int .i64 0, .slice none 0 0, .bool false, .slice none 0 0] rfl rfl Fr5.out.1 sizeFrame rfl (by simp [Value.oneCell']) ?_
          (try simp only [Act.put, List.setIfInBounds_toArray, List.set_cons_zero, List.set_cons_succ])
          go_wp2
          (try simp only [Exit.inBlock, Exit.then])
          refine bodyPost_ret (v := .tuple #[.agg #[.int .i64 0, .int .i64 0, .slice none 0 0, .bool false, .slice none 0 0], .int .i64 2]) ?rb rfl ?pb
          case rb => exact results_cell_row2 rfl _ _ w.heap.size _ _ _ _ rfl (setRow_same Fr5.out.1) Tryz.underlying26 rfl (by kernel_rfl) rfl
          rw [HE2.out]
          exact GotFrK.zero (below_setRow (BW.out _ Fr5.out.2.2.2.1) (Nat.le_refl _) _)
      · obtain rfl : j = m := by omega
        obtain ⟨⟨l, kk, yy⟩, eM⟩ : ∃ r, (manyOf (txtR (load.length : Int)) j load k3 y3) = r := ⟨_, rfl⟩
        rw [eM] at i2 i5
        simp only at i2 i5
        have HF := HFIN.out
        rw [eM] at HF
        simp only at HF
        rw [← i2] at HF
        obtain ⟨bb, eb⟩ : ∃ b, badL kk yy = b := ⟨_, rfl⟩
        rw [eb] at i5
        have hDl : D.length ≤ 64 := by have h1 := congrArg List.length i2; rw [List.length_map, List.length_map] at h1; have h2 := manyOf_len (txtR (load.length : Int)) j load k3 y3; rw [eM] at h2; simp only at h2; omega
        have IH := i1.isH (by omega) (fun x hx => ⟨(i3 x hx).1.isI (by have := (i3 x hx).2.2; omega), (i3 x hx).2.1⟩)
        have II := i4.isI (by omega)
        obtain ⟨L, eL⟩ : ∃ L, D.map Prod.fst = L := ⟨_, rfl⟩
        have hLD : D.length = L.length := by rw [← eL, List.length_map]
        rw [eL] at HF IH
        rw [hLD] at IH i5
        rw [show decide (mo = 1) = (mo == 1) from rfl] at HF
        obtain ⟨⟨B, we⟩, eWr⟩ : ∃ r, writeF (⟨(kd : Int), fm, cl, mo == 1, L⟩ : Fr) = r := ⟨_, rfl⟩
        have hBl := writeF_lenD (⟨(kd : Int), fm, cl, mo == 1, L⟩ : Fr)
        rw [eWr] at HF hBl
        simp only at HF hBl
        have HF2 : Hid ((we = 0 ∧ B = p ∧ readF p = ((⟨(kd : Int), fm, cl, mo == 1, L⟩ : Fr), 0)) ∨ (we = 0 ∧ B ≠ p ∧ readF p = (Fr.none, 2)) ∨ (we ≠ 0 ∧ readF p = (Fr.none, 2))) := HF
        have KO : Hid (OwnH (gR + 1) wr (.slice ao D.length co) D ∧ DepsOf (gR + 1) wr D ∧ OwnI (gR + 1) wr (.slice ac cl.length cc) cl) := ⟨i1, i3, i4⟩
        have KEL : Hid (D.map Prod.fst = L ∧ D.length = L.length ∧ D.length ≤ 64) := ⟨eL, hLD, hDl⟩
        have HII : Hid (IsI wr (.slice ac cl.length cc) cl) := II
        have HIH : Hid (IsH wr (.slice ao L.length co) L) := IH
        have F7 : Hid (FS w.heap.size w1 gF gR #[.int .i64 (kd : Int), .int .i64 fm, .slice ac cl.length cc, .bool (mo == 1), .slice ao L.length co] #[.slice al load.length cap, .int .i64 (kk : Int), .int .i64 yy, .int .i64 bb] wr) := i5
        have CW : Hid (∀ W, IsI W (.slice ac cl.length cc) cl → IsH W (.slice ao L.length co) L → Calls Tryz.prog 23 #[.agg #[.int .i64 (kd : Int), .int .i64 fm, .slice ac cl.length cc, .bool (mo == 1), .slice ao L.length co]] W fun e w' => ∃ v, e = .returned (.tuple #[v, .int .i64 we]) ∧ OwnB W.heap.size w' v B ∧ Below W.heap.size W w') := fun W h1 h2 => by
          have := refWrite_any (kd : Int) fm ac cl cc (mo == 1) ao L co W h1 h2
          rw [eWr] at this
          exact this
        clear i1 i2 i3 i4 i5 IH II HF eM eb eL hLD eWr HFIN HBAD HT
        go_upto_region 22 with fail
        go_step
        refine wpList_load_row rfl 26 (.tmp 7) rfl gF _ _ _ rfl F7.out.2.1 Tryz.underlying26 rfl sizeFrame ?_
        (try simp only [Act.put, List.setIfInBounds_toArray, List.set_cons_zero, List.set_cons_succ])
        go_wp2_with fail
        refine (CW.out _ HII.out HIH.out).mono ?_
        rintro e w8 ⟨v8, rfl, o8, hb⟩
        have Fz : Hid (FS w.heap.size w1 gF gR #[.int .i64 (kd : Int), .int .i64 fm, .slice ac cl.length cc, .bool (mo == 1), .slice ao L.length co] #[.slice al load.length cap, .int .i64 (kk : Int), .int .i64 yy, .int .i64 bb] w8) := F7.out.call hb
        have hnR : w.heap.size < gR + 1 := by have := F7.out.2.2.2.2; omega
        have HZ : Hid (∀ cs (W' : World), (∀ j, w.heap.size ≤ j → j < (w8.setRow w.heap.size cs).heap.size → W'.heap[j]? = (w8.setRow w.heap.size cs).heap[j]?) → IsI W' (.slice ac cl.length cc) cl ∧ IsH W' (.slice ao L.length co) L) := fun cs W' hk => by
          have o1 := ((KO.out.1.below hb).setR (gR := w.heap.size) hnR cs).keep (w' := W') fun j hj hl => hk j (by omega) hl
          have h1 := o1.isH (by have := KEL.out.2.2; omega) (fun x hx => ⟨((((KO.out.2.1 x hx).1.below hb).setR hnR cs).keep (w' := W') fun j hj hl => hk j (by omega) hl).isI (by have := (KO.out.2.1 x hx).2.2; omega), (KO.out.2.1 x hx).2.1⟩)
          rw [KEL.out.1, KEL.out.2.1] at h1
          exact ⟨(((KO.out.2.2.below hb).setR hnR cs).keep (w' := W') fun j hj hl => hk j (by omega) hl).isI (by omega), h1⟩
        have cv1 := conv_txt (o8.isB hBl)
        have cv2 := conv_txt (HP.out.below (BW.out _ Fz.out.2.2.2.1))
        clear o8 hb F7 HII HIH CW KO KEL hnR
        rcases HF2.out with ⟨ee0, eB, HE⟩ | ⟨ee0, eB, HE⟩ | ⟨ee0, HE⟩
        · have HE2 : Hid (readF p = ((⟨(kd : Int), fm, cl, mo == 1, L⟩ : Fr), 0)) := HE
          subst ee0 eB
          clear HE HF2
          have q1 : ((txt B).toList != (txt B).toList) = false := by simp
          have q2 : ((txt B).toList == (txt B).toList) = true := by simp
          go_upto_region 25 with fail
          go_step
          refine wpList_load_row rfl 26 (.tmp 7) rfl gF _ _ _ rfl Fz.out.2.1 Tryz.underlying26 rfl sizeFrame ?_
          (try simp only [Act.put, List.setIfInBounds_toArray, List.set_cons_zero, List.set_cons_succ])
          refine wpList_store_row rfl 26 (.tmp 2) (.tmp 98) rfl w.heap.size _ _ #[.int .i64 (kd : Int), .int .i64 fm, .slice ac cl.length cc, .bool (mo == 1), .slice ao L.length co] rfl rfl Fz.out.1 sizeFrame rfl (by simp [Value.oneCell']) ?_
          (try simp only [Act.put, List.setIfInBounds_toArray, List.set_cons_zero, List.set_cons_succ])
          go_wp2
          (try simp only [Exit.inBlock, Exit.then])
          refine bodyPost_ret (v := .tuple #[.agg #[.int .i64 (kd : Int), .int .i64 fm, .slice ac cl.length cc, .bool (mo == 1), .slice ao L.length co], .int .i64 0]) ?rc rfl ?pc
          case rc => exact results_cell_row2 rfl _ _ w.heap.size _ _ _ _ rfl (setRow_same Fz.out.1) Tryz.underlying26 rfl (by kernel_rfl) rfl
          rw [HE2.out]
          exact ⟨ac, cc, ao, co, rfl, HZ.out _, below_setRow (BW.out _ Fz.out.2.2.2.1) (Nat.le_refl _) _⟩
        · have HE2 : Hid (readF p = (Fr.none, 2)) := HE
          subst ee0
          clear HE HF2
          have q0 : (txt B).toList ≠ (txt p).toList := fun h => eB (by simpa [ByteArray.toList_eq, txt] using h)
          have q1 : ((txt B).toList != (txt p).toList) = true := by simpa using q0
          have q2 : ((txt B).toList == (txt p).toList) = false := by simpa using q0
          clear eB
          go_upto_region 24 with fail
          go_step
          refine wpList_plain rfl (fun K hK => ?_)
          go_simp
          refine hK _ _ ?_
          clear hK K
          refine wpList_store_row rfl 26 (.tmp 2) (.tmp 97) rfl w.heap.size _ _ #[.int .i64 0, .int .i64 0, .slice none 0 0, .bool false, .slice none 0 0] rfl rfl Fz.out.1 sizeFrame rfl (by simp [Value.oneCell']) ?_
          (try simp only [Act.put, List.setIfInBounds_toArray, List.set_cons_zero, List.set_cons_succ])
          go_wp2
          (try simp only [Exit.inBlock, Exit.then])
          refine bodyPost_ret (v := .tuple #[.agg #[.int .i64 0, .int .i64 0, .slice none 0 0, .bool false, .slice none 0 0], .int .i64 2]) ?rd rfl ?pd
          case rd => exact results_cell_row2 rfl _ _ w.heap.size _ _ _ _ rfl (setRow_same Fz.out.1) Tryz.underlying26 rfl (by kernel_rfl) rfl
          rw [HE2.out]
          exact GotFrK.zero (below_setRow (BW.out _ Fz.out.2.2.2.1) (Nat.le_refl _) _)
        · have HE2 : Hid (readF p = (Fr.none, 2)) := HE
          have q1 : (we != 0) = true := by simp [ee0]
          clear HE HF2 ee0
          go_upto_region 24 with fail
          go_step
          refine wpList_plain rfl (fun K hK => ?_)
          go_simp
          refine hK _ _ ?_
          clear hK K
          refine wpList_store_row rfl 26 (.tmp 2) (.tmp 97) rfl w.heap.size _ _ #[.int .i64 0, .int .i64 0, .slice none 0 0, .bool false, .slice none 0 0] rfl rfl Fz.out.1 sizeFrame rfl (by simp [Value.oneCell']) ?_
          (try simp only [Act.put, List.setIfInBounds_toArray, List.set_cons_zero, List.set_cons_succ])
          go_wp2
          (try simp only [Exit.inBlock, Exit.then])
          refine bodyPost_ret (v := .tuple #[.agg #[.int .i64 0, .int .i64 0, .slice none 0 0, .bool false, .slice none 0 0], .int .i64 2]) ?re rfl ?pe
          case re => exact results_cell_row2 rfl _ _ w.heap.size _ _ _ _ rfl (setRow_same Fz.out.1) Tryz.underlying26 rfl (by kernel_rfl) rfl
          rw [HE2.out]
          exact GotFrK.zero (below_setRow (BW.out _ Fz.out.2.2.2.1) (Nat.le_refl _) _)
  · have HE2 : Hid (readF p = (Fr.none, oe)) := by show _ = _; unfold readF; rw [eO, if_neg ho]
    have q : (oe != 0) = true := by simp [ho]
    clear eO ho
    go_enter Tryz.func5, Tryz.ntmps5
    go_wp2_with fail
    refine (C0.out _ HB0.out).mono ?_
    rintro e w1 ⟨v1, rfl, o1, hb1⟩
    have HB1 : Hid (Below w.heap.size w w1) := HB0.out.trans (hb1.mono HB0.out.size)
    have HR1 : Hid (w1.heap[w.heap.size]? = some (.cells #[.int .i64 0, .int .i64 0, .slice none 0 0, .bool false, .slice none 0 0] 26)) := row_below HR0.out hb1
    clear hb1 o1 HB0 HR0
    go_upto_region 3 with fail
    go_step
    refine wpList_plain rfl (fun K hK => ?_)
    go_simp
    refine hK _ _ ?_
    clear hK K
    refine wpList_plain rfl (fun K hK => ?_)
    go_simp
    refine hK _ _ ?_
    clear hK K
    refine wpList_store_row rfl 26 (.tmp 2) (.tmp 25) rfl w.heap.size _ _ #[.int .i64 0, .int .i64 0, .slice none 0 0, .bool false, .slice none 0 0] rfl rfl HR1.out sizeFrame rfl (by simp [Value.oneCell']) ?_
    (try simp only [Act.put, List.setIfInBounds_toArray, List.set_cons_zero, List.set_cons_succ])
    go_wp2
    (try simp only [Exit.inBlock, Exit.then])
    refine bodyPost_ret (v := .tuple #[.agg #[.int .i64 0, .int .i64 0, .slice none 0 0, .bool false, .slice none 0 0], .int .i64 oe]) ?ra rfl ?pa
    case ra => exact results_cell_row2 rfl _ _ w.heap.size _ _ _ _ rfl (setRow_same HR1.out) Tryz.underlying26 rfl (by kernel_rfl) rfl
    rw [HE2.out]
    exact GotFrK.zero (below_setRow (HB1.out) (Nat.le_refl _) _)

end Go.Proofs.YtlioiblpcpaejaaGreat
