/- The nodes of package patch in memory: their fields and links; link. -/
import Derived.Test.YtccpljllgpabnabPlainPb
import Derived.Test.YtccpljllgpabnabVtT
import Derived.Deep.Cut
namespace Go.Proofs.Ytccpljllgpabnab
open Go.RowKit
set_option linter.unusedVariables false
set_option linter.unusedSimpArgs false

/-- A pointer to a block, or nil. -/
def ptr (o : Option Nat) : Value := .pointer (o.map fun b => ⟨b, 0, none⟩)
def gRow (g : Gr) (b : Nat) : Array Value := #[.int .i64 (g.o b).k.1, .int .i64 (g.o b).k.2, .string (g.o b).tg, .string (g.o b).tx, g.av b, .slice none 0 0, ptr (g.up b), ptr (g.pv b), ptr (g.nx b), ptr (g.fs b)]
/-- The blocks of X are these nodes. -/
def GMem (X : Nat → Prop) (W : World) (g : Gr) : Prop := ∀ b, X b → W.heap[b]? = some (.cells (gRow g b) 51)
section
variable {X : Nat → Prop} {W W' : World} {g g' : Gr} {b : Nat}
theorem GMem.keep (h : GMem X W g) (hk : ∀ b, X b → W'.heap[b]? = W.heap[b]?) : GMem X W' g := fun b hb => (hk b hb).trans (h b hb)
theorem GMem.lt (h : GMem X W g) (hb : X b) : b < W.heap.size := row_lt (h b hb)
theorem GMem.congr (h : GMem X W g) (he : ∀ b, X b → gRow g' b = gRow g b) : GMem X W g' := fun b hb => by rw [he b hb]; exact h b hb
theorem GMem.fz (h : GMem X W g) (hb : X b) (j : Nat) : W.frozen? ⟨b, j, none⟩ = false := frozen_of_row W b j _ _ (h b hb)
theorem GMem.cup (h : GMem X W g) (hb : X b) : W.cell? ⟨b, 6, none⟩ = some (ptr (g.up b)) := by rw [cell_of_row W b 6 _ _ _ (h b hb)]; rfl
theorem GMem.cpv (h : GMem X W g) (hb : X b) : W.cell? ⟨b, 7, none⟩ = some (ptr (g.pv b)) := by rw [cell_of_row W b 7 _ _ _ (h b hb)]; rfl
theorem GMem.cnx (h : GMem X W g) (hb : X b) : W.cell? ⟨b, 8, none⟩ = some (ptr (g.nx b)) := by rw [cell_of_row W b 8 _ _ _ (h b hb)]; rfl
theorem GMem.cfs (h : GMem X W g) (hb : X b) : W.cell? ⟨b, 9, none⟩ = some (ptr (g.fs b)) := by rw [cell_of_row W b 9 _ _ _ (h b hb)]; rfl
theorem GMem.setUp (h : GMem X W g) (hb : X b) (v : Option Nat) : GMem X (W.setCell ⟨b, 6, none⟩ (ptr v)) { g with up := updF g.up b v } := fun c hc => by
  by_cases e : c = b
  · subst e
    rw [heap_setCell_same W c 6 _ _ _ (h c hc)]
    simp [gRow, updF]
  · rw [RowKit.Below.heap_setCell _ _ _ _ e, h c hc]
    simp [gRow, updF, e]
theorem GMem.setPv (h : GMem X W g) (hb : X b) (v : Option Nat) : GMem X (W.setCell ⟨b, 7, none⟩ (ptr v)) { g with pv := updF g.pv b v } := fun c hc => by
  by_cases e : c = b
  · subst e
    rw [heap_setCell_same W c 7 _ _ _ (h c hc)]
    simp [gRow, updF]
  · rw [RowKit.Below.heap_setCell _ _ _ _ e, h c hc]
    simp [gRow, updF, e]
theorem GMem.setNx (h : GMem X W g) (hb : X b) (v : Option Nat) : GMem X (W.setCell ⟨b, 8, none⟩ (ptr v)) { g with nx := updF g.nx b v } := fun c hc => by
  by_cases e : c = b
  · subst e
    rw [heap_setCell_same W c 8 _ _ _ (h c hc)]
    simp [gRow, updF]
  · rw [RowKit.Below.heap_setCell _ _ _ _ e, h c hc]
    simp [gRow, updF, e]
theorem GMem.setFs (h : GMem X W g) (hb : X b) (v : Option Nat) : GMem X (W.setCell ⟨b, 9, none⟩ (ptr v)) { g with fs := updF g.fs b v } := fun c hc => by
  by_cases e : c = b
  · subst e
    rw [heap_setCell_same W c 9 _ _ _ (h c hc)]
    simp [gRow, updF]
  · rw [RowKit.Below.heap_setCell _ _ _ _ e, h c hc]
    simp [gRow, updF, e]
theorem touch_set {X : Nat → Prop} {w W : World} {b i : Nat} {v : Value} (h : Touch X w W) (hb : X b) : Touch X w (W.setCell ⟨b, i, none⟩ v) := h.trans (F' := fun k => k = b) (Touch.of_grown (grownBy_setCell _ _ _ _) fun k e _ => by cases e; rfl) fun j e => .inl (by rw [e]; exact hb)
theorem size_set {W : World} {b i : Nat} {v : Value} : (W.setCell ⟨b, i, none⟩ v).heap.size = W.heap.size := by simp [World.setCell]
end

set_option maxHeartbeats 4000000 in
theorem link_any (X : Nat → Prop) (g : Gr) (n p : Nat) (a : Option Nat) (w : World) (hM : GMem X w g) (hn : X n) (hp : X p) (ha : ∀ x, a = some x → X x ∧ x ≠ n) (hm : ∀ y, nxtA g p a = some y → X y) (hne : nxtA g p a ≠ some n) :
    Calls Try.prog 49 #[ptr (some n), ptr (some p), ptr a] w fun e w' => (∃ v, e = .returned v) ∧ GMem X w' (lnk g n p a) ∧ Touch X w w' ∧ w'.heap.size = w.heap.size := by
  cases a with
  | none =>
    cases em : nxtA g p none with
    | none =>
      replace em : g.fs p = none := em
      have M1 := hM.setUp hn (some p)
      have M2 := M1.setPv hn none
      have M3 := M2.setNx hn none
      have M4 := M3.setFs hp (some n)
      have p6 : ∃ v, w.cell? ⟨n, 6, none⟩ = some v := ⟨_, hM.cup hn⟩
      obtain ⟨v6, p6⟩ := p6
      have z6 := hM.fz hn 6
      have p7 : ∃ v, (w.setCell ⟨n, 6, none⟩ (.pointer (some ⟨p, 0, none⟩))).cell? ⟨n, 7, none⟩ = some v := ⟨_, M1.cpv hn⟩
      obtain ⟨v7, p7⟩ := p7
      have z7 : (w.setCell ⟨n, 6, none⟩ (.pointer (some ⟨p, 0, none⟩))).frozen? ⟨n, 7, none⟩ = false := M1.fz hn 7
      have q8 : ((w.setCell ⟨n, 6, none⟩ (.pointer (some ⟨p, 0, none⟩))).setCell ⟨n, 7, none⟩ (.pointer none)).cell? ⟨p, 9, none⟩ = some (.pointer none) := (by have h9 := M2.cfs hp; dsimp only at h9; rw [em] at h9; exact h9)
      have p8 : ∃ v, ((w.setCell ⟨n, 6, none⟩ (.pointer (some ⟨p, 0, none⟩))).setCell ⟨n, 7, none⟩ (.pointer none)).cell? ⟨n, 8, none⟩ = some v := ⟨_, M2.cnx hn⟩
      obtain ⟨v8, p8⟩ := p8
      have z8 : ((w.setCell ⟨n, 6, none⟩ (.pointer (some ⟨p, 0, none⟩))).setCell ⟨n, 7, none⟩ (.pointer none)).frozen? ⟨n, 8, none⟩ = false := M2.fz hn 8
      have p9 : ∃ v, (((w.setCell ⟨n, 6, none⟩ (.pointer (some ⟨p, 0, none⟩))).setCell ⟨n, 7, none⟩ (.pointer none)).setCell ⟨n, 8, none⟩ (.pointer none)).cell? ⟨p, 9, none⟩ = some v := ⟨_, M3.cfs hp⟩
      obtain ⟨v9, p9⟩ := p9
      have z9 : (((w.setCell ⟨n, 6, none⟩ (.pointer (some ⟨p, 0, none⟩))).setCell ⟨n, 7, none⟩ (.pointer none)).setCell ⟨n, 8, none⟩ (.pointer none)).frozen? ⟨p, 9, none⟩ = false := M3.fz hp 9
      have q9 : ((((w.setCell ⟨n, 6, none⟩ (.pointer (some ⟨p, 0, none⟩))).setCell ⟨n, 7, none⟩ (.pointer none)).setCell ⟨n, 8, none⟩ (.pointer none)).setCell ⟨p, 9, none⟩ (.pointer (some ⟨n, 0, none⟩))).cell? ⟨n, 8, none⟩ = some (.pointer none) := (by have h9 := M4.cnx hn; dsimp only at h9; rw [updF_same] at h9; exact h9)
      have HF : Hid (GMem X ((((w.setCell ⟨n, 6, none⟩ (.pointer (some ⟨p, 0, none⟩))).setCell ⟨n, 7, none⟩ (.pointer none)).setCell ⟨n, 8, none⟩ (.pointer none)).setCell ⟨p, 9, none⟩ (.pointer (some ⟨n, 0, none⟩))) (lnk g n p none)) := M4.congr (fun b hb => (by
        simp only [gRow, lnk, nxtA, em, orU, updF, if_true, reduceCtorEq, if_false]
        try rfl))
      have HT : Hid (Touch X w ((((w.setCell ⟨n, 6, none⟩ (.pointer (some ⟨p, 0, none⟩))).setCell ⟨n, 7, none⟩ (.pointer none)).setCell ⟨n, 8, none⟩ (.pointer none)).setCell ⟨p, 9, none⟩ (.pointer (some ⟨n, 0, none⟩))) ∧ ((((w.setCell ⟨n, 6, none⟩ (.pointer (some ⟨p, 0, none⟩))).setCell ⟨n, 7, none⟩ (.pointer none)).setCell ⟨n, 8, none⟩ (.pointer none)).setCell ⟨p, 9, none⟩ (.pointer (some ⟨n, 0, none⟩))).heap.size = w.heap.size) := ⟨touch_set (touch_set (touch_set (touch_set (Touch.refl X w) hn) hn) hn) hp, by simp only [size_set]⟩
      clear M1 M2 M3 M4 hM em
      show Calls Try.prog 49 #[.pointer (some ⟨n, 0, none⟩), .pointer (some ⟨p, 0, none⟩), .pointer none] w _
      go_enter Try.func49, Try.ntmps49
      go_wp2
      refine bodyPost_end (results_none rfl _ _ _) rfl ?_
      exact ⟨⟨_, rfl⟩, HF.out, HT.out⟩
    | some y =>
      have hy := hm y em
      have hyn : y ≠ n := fun e => hne (by rw [em, e])
      replace em : g.fs p = some y := em
      have M1 := hM.setUp hn (some p)
      have M2 := M1.setPv hn none
      have M3 := M2.setNx hn (some y)
      have M4 := M3.setFs hp (some n)
      have M5 := M4.setPv hy (some n)
      have p6 : ∃ v, w.cell? ⟨n, 6, none⟩ = some v := ⟨_, hM.cup hn⟩
      obtain ⟨v6, p6⟩ := p6
      have z6 := hM.fz hn 6
      have p7 : ∃ v, (w.setCell ⟨n, 6, none⟩ (.pointer (some ⟨p, 0, none⟩))).cell? ⟨n, 7, none⟩ = some v := ⟨_, M1.cpv hn⟩
      obtain ⟨v7, p7⟩ := p7
      have z7 : (w.setCell ⟨n, 6, none⟩ (.pointer (some ⟨p, 0, none⟩))).frozen? ⟨n, 7, none⟩ = false := M1.fz hn 7
      have q8 : ((w.setCell ⟨n, 6, none⟩ (.pointer (some ⟨p, 0, none⟩))).setCell ⟨n, 7, none⟩ (.pointer none)).cell? ⟨p, 9, none⟩ = some (.pointer (some ⟨y, 0, none⟩)) := (by have h9 := M2.cfs hp; dsimp only at h9; rw [em] at h9; exact h9)
      have p8 : ∃ v, ((w.setCell ⟨n, 6, none⟩ (.pointer (some ⟨p, 0, none⟩))).setCell ⟨n, 7, none⟩ (.pointer none)).cell? ⟨n, 8, none⟩ = some v := ⟨_, M2.cnx hn⟩
      obtain ⟨v8, p8⟩ := p8
      have z8 : ((w.setCell ⟨n, 6, none⟩ (.pointer (some ⟨p, 0, none⟩))).setCell ⟨n, 7, none⟩ (.pointer none)).frozen? ⟨n, 8, none⟩ = false := M2.fz hn 8
      have p9 : ∃ v, (((w.setCell ⟨n, 6, none⟩ (.pointer (some ⟨p, 0, none⟩))).setCell ⟨n, 7, none⟩ (.pointer none)).setCell ⟨n, 8, none⟩ (.pointer (some ⟨y, 0, none⟩))).cell? ⟨p, 9, none⟩ = some v := ⟨_, M3.cfs hp⟩
      obtain ⟨v9, p9⟩ := p9
      have z9 : (((w.setCell ⟨n, 6, none⟩ (.pointer (some ⟨p, 0, none⟩))).setCell ⟨n, 7, none⟩ (.pointer none)).setCell ⟨n, 8, none⟩ (.pointer (some ⟨y, 0, none⟩))).frozen? ⟨p, 9, none⟩ = false := M3.fz hp 9
      have q9 : ((((w.setCell ⟨n, 6, none⟩ (.pointer (some ⟨p, 0, none⟩))).setCell ⟨n, 7, none⟩ (.pointer none)).setCell ⟨n, 8, none⟩ (.pointer (some ⟨y, 0, none⟩))).setCell ⟨p, 9, none⟩ (.pointer (some ⟨n, 0, none⟩))).cell? ⟨n, 8, none⟩ = some (.pointer (some ⟨y, 0, none⟩)) := (by have h9 := M4.cnx hn; dsimp only at h9; rw [updF_same] at h9; exact h9)
      have p10 : ∃ v, ((((w.setCell ⟨n, 6, none⟩ (.pointer (some ⟨p, 0, none⟩))).setCell ⟨n, 7, none⟩ (.pointer none)).setCell ⟨n, 8, none⟩ (.pointer (some ⟨y, 0, none⟩))).setCell ⟨p, 9, none⟩ (.pointer (some ⟨n, 0, none⟩))).cell? ⟨y, 7, none⟩ = some v := ⟨_, M4.cpv hy⟩
      obtain ⟨v10, p10⟩ := p10
      have z10 : ((((w.setCell ⟨n, 6, none⟩ (.pointer (some ⟨p, 0, none⟩))).setCell ⟨n, 7, none⟩ (.pointer none)).setCell ⟨n, 8, none⟩ (.pointer (some ⟨y, 0, none⟩))).setCell ⟨p, 9, none⟩ (.pointer (some ⟨n, 0, none⟩))).frozen? ⟨y, 7, none⟩ = false := M4.fz hy 7
      have HF : Hid (GMem X (((((w.setCell ⟨n, 6, none⟩ (.pointer (some ⟨p, 0, none⟩))).setCell ⟨n, 7, none⟩ (.pointer none)).setCell ⟨n, 8, none⟩ (.pointer (some ⟨y, 0, none⟩))).setCell ⟨p, 9, none⟩ (.pointer (some ⟨n, 0, none⟩))).setCell ⟨y, 7, none⟩ (.pointer (some ⟨n, 0, none⟩))) (lnk g n p none)) := M5.congr (fun b hb => (by
        simp only [gRow, lnk, nxtA, em, orU, updF, if_true, reduceCtorEq, if_false]
        try rfl))
      have HT : Hid (Touch X w (((((w.setCell ⟨n, 6, none⟩ (.pointer (some ⟨p, 0, none⟩))).setCell ⟨n, 7, none⟩ (.pointer none)).setCell ⟨n, 8, none⟩ (.pointer (some ⟨y, 0, none⟩))).setCell ⟨p, 9, none⟩ (.pointer (some ⟨n, 0, none⟩))).setCell ⟨y, 7, none⟩ (.pointer (some ⟨n, 0, none⟩))) ∧ (((((w.setCell ⟨n, 6, none⟩ (.pointer (some ⟨p, 0, none⟩))).setCell ⟨n, 7, none⟩ (.pointer none)).setCell ⟨n, 8, none⟩ (.pointer (some ⟨y, 0, none⟩))).setCell ⟨p, 9, none⟩ (.pointer (some ⟨n, 0, none⟩))).setCell ⟨y, 7, none⟩ (.pointer (some ⟨n, 0, none⟩))).heap.size = w.heap.size) := ⟨touch_set (touch_set (touch_set (touch_set (touch_set (Touch.refl X w) hn) hn) hn) hp) hy, by simp only [size_set]⟩
      clear M1 M2 M3 M4 hM em M5
      show Calls Try.prog 49 #[.pointer (some ⟨n, 0, none⟩), .pointer (some ⟨p, 0, none⟩), .pointer none] w _
      go_enter Try.func49, Try.ntmps49
      go_wp2
      refine bodyPost_end (results_none rfl _ _ _) rfl ?_
      exact ⟨⟨_, rfl⟩, HF.out, HT.out⟩
  | some x =>
    obtain ⟨hx, hxn⟩ := ha x rfl
    cases em : nxtA g p (some x) with
    | none =>
      replace em : g.nx x = none := em
      have M1 := hM.setUp hn (some p)
      have M2 := M1.setPv hn (some x)
      have M3 := M2.setNx hn none
      have M4 := M3.setNx hx (some n)
      have p6 : ∃ v, w.cell? ⟨n, 6, none⟩ = some v := ⟨_, hM.cup hn⟩
      obtain ⟨v6, p6⟩ := p6
      have z6 := hM.fz hn 6
      have p7 : ∃ v, (w.setCell ⟨n, 6, none⟩ (.pointer (some ⟨p, 0, none⟩))).cell? ⟨n, 7, none⟩ = some v := ⟨_, M1.cpv hn⟩
      obtain ⟨v7, p7⟩ := p7
      have z7 : (w.setCell ⟨n, 6, none⟩ (.pointer (some ⟨p, 0, none⟩))).frozen? ⟨n, 7, none⟩ = false := M1.fz hn 7
      have q8 : ((w.setCell ⟨n, 6, none⟩ (.pointer (some ⟨p, 0, none⟩))).setCell ⟨n, 7, none⟩ (.pointer (some ⟨x, 0, none⟩))).cell? ⟨x, 8, none⟩ = some (.pointer none) := (by have h9 := M2.cnx hx; dsimp only at h9; rw [em] at h9; exact h9)
      have p8 : ∃ v, ((w.setCell ⟨n, 6, none⟩ (.pointer (some ⟨p, 0, none⟩))).setCell ⟨n, 7, none⟩ (.pointer (some ⟨x, 0, none⟩))).cell? ⟨n, 8, none⟩ = some v := ⟨_, M2.cnx hn⟩
      obtain ⟨v8, p8⟩ := p8
      have z8 : ((w.setCell ⟨n, 6, none⟩ (.pointer (some ⟨p, 0, none⟩))).setCell ⟨n, 7, none⟩ (.pointer (some ⟨x, 0, none⟩))).frozen? ⟨n, 8, none⟩ = false := M2.fz hn 8
      have p9 : ∃ v, (((w.setCell ⟨n, 6, none⟩ (.pointer (some ⟨p, 0, none⟩))).setCell ⟨n, 7, none⟩ (.pointer (some ⟨x, 0, none⟩))).setCell ⟨n, 8, none⟩ (.pointer none)).cell? ⟨x, 8, none⟩ = some v := ⟨_, M3.cnx hx⟩
      obtain ⟨v9, p9⟩ := p9
      have z9 : (((w.setCell ⟨n, 6, none⟩ (.pointer (some ⟨p, 0, none⟩))).setCell ⟨n, 7, none⟩ (.pointer (some ⟨x, 0, none⟩))).setCell ⟨n, 8, none⟩ (.pointer none)).frozen? ⟨x, 8, none⟩ = false := M3.fz hx 8
      have q9 : ((((w.setCell ⟨n, 6, none⟩ (.pointer (some ⟨p, 0, none⟩))).setCell ⟨n, 7, none⟩ (.pointer (some ⟨x, 0, none⟩))).setCell ⟨n, 8, none⟩ (.pointer none)).setCell ⟨x, 8, none⟩ (.pointer (some ⟨n, 0, none⟩))).cell? ⟨n, 8, none⟩ = some (.pointer none) := (by have h9 := M4.cnx hn; dsimp only at h9; rw [updF_ne _ _ hxn.symm, updF_same] at h9; exact h9)
      have HF : Hid (GMem X ((((w.setCell ⟨n, 6, none⟩ (.pointer (some ⟨p, 0, none⟩))).setCell ⟨n, 7, none⟩ (.pointer (some ⟨x, 0, none⟩))).setCell ⟨n, 8, none⟩ (.pointer none)).setCell ⟨x, 8, none⟩ (.pointer (some ⟨n, 0, none⟩))) (lnk g n p (some x))) := M4.congr (fun b hb => (by
        simp only [gRow, lnk, nxtA, em, orU, updF, if_true, reduceCtorEq, if_false]
        by_cases e1 : b = n <;> by_cases e2 : b = x <;> simp_all))
      have HT : Hid (Touch X w ((((w.setCell ⟨n, 6, none⟩ (.pointer (some ⟨p, 0, none⟩))).setCell ⟨n, 7, none⟩ (.pointer (some ⟨x, 0, none⟩))).setCell ⟨n, 8, none⟩ (.pointer none)).setCell ⟨x, 8, none⟩ (.pointer (some ⟨n, 0, none⟩))) ∧ ((((w.setCell ⟨n, 6, none⟩ (.pointer (some ⟨p, 0, none⟩))).setCell ⟨n, 7, none⟩ (.pointer (some ⟨x, 0, none⟩))).setCell ⟨n, 8, none⟩ (.pointer none)).setCell ⟨x, 8, none⟩ (.pointer (some ⟨n, 0, none⟩))).heap.size = w.heap.size) := ⟨touch_set (touch_set (touch_set (touch_set (Touch.refl X w) hn) hn) hn) hx, by simp only [size_set]⟩
      clear M1 M2 M3 M4 hM em
      show Calls Try.prog 49 #[.pointer (some ⟨n, 0, none⟩), .pointer (some ⟨p, 0, none⟩), .pointer (some ⟨x, 0, none⟩)] w _
      go_enter Try.func49, Try.ntmps49
      go_wp2
      refine bodyPost_end (results_none rfl _ _ _) rfl ?_
      exact ⟨⟨_, rfl⟩, HF.out, HT.out⟩
    | some y =>
      have hy := hm y em
      have hyn : y ≠ n := fun e => hne (by rw [em, e])
      replace em : g.nx x = some y := em
      have M1 := hM.setUp hn (some p)
      have M2 := M1.setPv hn (some x)
      have M3 := M2.setNx hn (some y)
      have M4 := M3.setNx hx (some n)
      have M5 := M4.setPv hy (some n)
      have p6 : ∃ v, w.cell? ⟨n, 6, none⟩ = some v := ⟨_, hM.cup hn⟩
      obtain ⟨v6, p6⟩ := p6
      have z6 := hM.fz hn 6
      have p7 : ∃ v, (w.setCell ⟨n, 6, none⟩ (.pointer (some ⟨p, 0, none⟩))).cell? ⟨n, 7, none⟩ = some v := ⟨_, M1.cpv hn⟩
      obtain ⟨v7, p7⟩ := p7
      have z7 : (w.setCell ⟨n, 6, none⟩ (.pointer (some ⟨p, 0, none⟩))).frozen? ⟨n, 7, none⟩ = false := M1.fz hn 7
      have q8 : ((w.setCell ⟨n, 6, none⟩ (.pointer (some ⟨p, 0, none⟩))).setCell ⟨n, 7, none⟩ (.pointer (some ⟨x, 0, none⟩))).cell? ⟨x, 8, none⟩ = some (.pointer (some ⟨y, 0, none⟩)) := (by have h9 := M2.cnx hx; dsimp only at h9; rw [em] at h9; exact h9)
      have p8 : ∃ v, ((w.setCell ⟨n, 6, none⟩ (.pointer (some ⟨p, 0, none⟩))).setCell ⟨n, 7, none⟩ (.pointer (some ⟨x, 0, none⟩))).cell? ⟨n, 8, none⟩ = some v := ⟨_, M2.cnx hn⟩
      obtain ⟨v8, p8⟩ := p8
      have z8 : ((w.setCell ⟨n, 6, none⟩ (.pointer (some ⟨p, 0, none⟩))).setCell ⟨n, 7, none⟩ (.pointer (some ⟨x, 0, none⟩))).frozen? ⟨n, 8, none⟩ = false := M2.fz hn 8
      have p9 : ∃ v, (((w.setCell ⟨n, 6, none⟩ (.pointer (some ⟨p, 0, none⟩))).setCell ⟨n, 7, none⟩ (.pointer (some ⟨x, 0, none⟩))).setCell ⟨n, 8, none⟩ (.pointer (some ⟨y, 0, none⟩))).cell? ⟨x, 8, none⟩ = some v := ⟨_, M3.cnx hx⟩
      obtain ⟨v9, p9⟩ := p9
      have z9 : (((w.setCell ⟨n, 6, none⟩ (.pointer (some ⟨p, 0, none⟩))).setCell ⟨n, 7, none⟩ (.pointer (some ⟨x, 0, none⟩))).setCell ⟨n, 8, none⟩ (.pointer (some ⟨y, 0, none⟩))).frozen? ⟨x, 8, none⟩ = false := M3.fz hx 8
      have q9 : ((((w.setCell ⟨n, 6, none⟩ (.pointer (some ⟨p, 0, none⟩))).setCell ⟨n, 7, none⟩ (.pointer (some ⟨x, 0, none⟩))).setCell ⟨n, 8, none⟩ (.pointer (some ⟨y, 0, none⟩))).setCell ⟨x, 8, none⟩ (.pointer (some ⟨n, 0, none⟩))).cell? ⟨n, 8, none⟩ = some (.pointer (some ⟨y, 0, none⟩)) := (by have h9 := M4.cnx hn; dsimp only at h9; rw [updF_ne _ _ hxn.symm, updF_same] at h9; exact h9)
      have p10 : ∃ v, ((((w.setCell ⟨n, 6, none⟩ (.pointer (some ⟨p, 0, none⟩))).setCell ⟨n, 7, none⟩ (.pointer (some ⟨x, 0, none⟩))).setCell ⟨n, 8, none⟩ (.pointer (some ⟨y, 0, none⟩))).setCell ⟨x, 8, none⟩ (.pointer (some ⟨n, 0, none⟩))).cell? ⟨y, 7, none⟩ = some v := ⟨_, M4.cpv hy⟩
      obtain ⟨v10, p10⟩ := p10
      have z10 : ((((w.setCell ⟨n, 6, none⟩ (.pointer (some ⟨p, 0, none⟩))).setCell ⟨n, 7, none⟩ (.pointer (some ⟨x, 0, none⟩))).setCell ⟨n, 8, none⟩ (.pointer (some ⟨y, 0, none⟩))).setCell ⟨x, 8, none⟩ (.pointer (some ⟨n, 0, none⟩))).frozen? ⟨y, 7, none⟩ = false := M4.fz hy 7
      have HF : Hid (GMem X (((((w.setCell ⟨n, 6, none⟩ (.pointer (some ⟨p, 0, none⟩))).setCell ⟨n, 7, none⟩ (.pointer (some ⟨x, 0, none⟩))).setCell ⟨n, 8, none⟩ (.pointer (some ⟨y, 0, none⟩))).setCell ⟨x, 8, none⟩ (.pointer (some ⟨n, 0, none⟩))).setCell ⟨y, 7, none⟩ (.pointer (some ⟨n, 0, none⟩))) (lnk g n p (some x))) := M5.congr (fun b hb => (by
        simp only [gRow, lnk, nxtA, em, orU, updF, if_true, reduceCtorEq, if_false]
        by_cases e1 : b = n <;> by_cases e2 : b = x <;> simp_all))
      have HT : Hid (Touch X w (((((w.setCell ⟨n, 6, none⟩ (.pointer (some ⟨p, 0, none⟩))).setCell ⟨n, 7, none⟩ (.pointer (some ⟨x, 0, none⟩))).setCell ⟨n, 8, none⟩ (.pointer (some ⟨y, 0, none⟩))).setCell ⟨x, 8, none⟩ (.pointer (some ⟨n, 0, none⟩))).setCell ⟨y, 7, none⟩ (.pointer (some ⟨n, 0, none⟩))) ∧ (((((w.setCell ⟨n, 6, none⟩ (.pointer (some ⟨p, 0, none⟩))).setCell ⟨n, 7, none⟩ (.pointer (some ⟨x, 0, none⟩))).setCell ⟨n, 8, none⟩ (.pointer (some ⟨y, 0, none⟩))).setCell ⟨x, 8, none⟩ (.pointer (some ⟨n, 0, none⟩))).setCell ⟨y, 7, none⟩ (.pointer (some ⟨n, 0, none⟩))).heap.size = w.heap.size) := ⟨touch_set (touch_set (touch_set (touch_set (touch_set (Touch.refl X w) hn) hn) hn) hx) hy, by simp only [size_set]⟩
      clear M1 M2 M3 M4 hM em M5
      show Calls Try.prog 49 #[.pointer (some ⟨n, 0, none⟩), .pointer (some ⟨p, 0, none⟩), .pointer (some ⟨x, 0, none⟩)] w _
      go_enter Try.func49, Try.ntmps49
      go_wp2
      refine bodyPost_end (results_none rfl _ _ _) rfl ?_
      exact ⟨⟨_, rfl⟩, HF.out, HT.out⟩

end Go.Proofs.Ytccpljllgpabnab
