/- What the document's Get of a change does. -/
import Derived.Test.YtlioiblpcpaejaaGreatXWdG
import Derived.Test.YtlioiblpcpaejaaGreatXWdQ
namespace Go.Proofs.YtlioiblpcpaejaaGreat
open Go.RowKit
set_option linter.unusedVariables false
set_option linter.unusedSimpArgs false

theorem un_ok2 {c : Ch} (h : checkCh c = 0) {m1 m2 : Int} (h1 : (c.name.data.toList.length : Int) ≤ m1) (h2 : (c.value.data.toList.length : Int) ≤ m2) : chanO m1 m2 (unCh c) := by
  obtain ⟨q1, q2, q3, q4, q5⟩ := un_ok h (m1 := 1000) (m2 := 1000) (by decide) (by decide)
  refine ⟨q1, q2, q3, q4, ?_⟩
  unfold restO at q5 ⊢
  unfold unCh at q5 ⊢
  simp only at q5 ⊢
  split
  · rename_i k; rw [if_pos k] at q5; exact ⟨q5.1, q5.2.1, q5.2.2.1, h1, q5.2.2.2.2⟩
  · rename_i k1
    rw [if_neg k1] at q5
    split
    · rename_i k; rw [if_pos k] at q5; exact q5
    · rename_i k2
      rw [if_neg k2] at q5
      split
      · rename_i k; rw [if_pos k] at q5; exact ⟨q5.1, q5.2.1, q5.2.2.1, h1, h2⟩
      · rename_i k3
        rw [if_neg k3] at q5
        split
        · rename_i k; rw [if_pos k] at q5; exact ⟨q5.1, q5.2.1, q5.2.2.1, h1, q5.2.2.2.2⟩
        · rename_i k4
          rw [if_neg k4] at q5
          split
          · rename_i k; rw [if_pos k] at q5; exact ⟨q5.1, q5.2.1, q5.2.2.1, q5.2.2.2.1, h2⟩
          · rename_i k; rw [if_neg k] at q5; exact q5
theorem texts_in {c : Ch} (h : checkCh c = 0) : c.name.data.toList.length ≤ (bytesCh c).length ∧ c.value.data.toList.length ≤ (bytesCh c).length := by
  have f := fine c h
  have key : ∀ (l : List UInt8), (l = [] ∨ ∃ u v, restP c = u ++ (textP l ++ v)) → l.length ≤ (bytesCh c).length := by
    intro l hl
    rcases hl with rfl | ⟨u, v, e⟩
    · simp
    · rw [bytes_head, e]
      simp only [List.length_append, textP]
      omega
  have hk := f.kind
  refine ⟨key _ ?_, key _ ?_⟩
  · rcases hk with k | k | k | k | k
    · exact .inr ⟨stampP c.pc c.pr ++ stampP c.fc c.fr, [], by simp [restP, k]⟩
    · exact .inl (by rw [f.noname (by rw [k]; decide)])
    · exact .inr ⟨_, textP c.value.data.toList, by simp [restP, k]; rfl⟩
    · exact .inr ⟨_, [], by simp [restP, k]; rfl⟩
    · exact .inl (by rw [f.noname (by rw [k]; decide)])
  · rcases hk with k | k | k | k | k
    · exact .inl (by rw [f.novalue (by rw [k]; decide)])
    · exact .inl (by rw [f.novalue (by rw [k]; decide)])
    · exact .inr ⟨stampP c.nc c.nr ++ textP c.name.data.toList, [], by simp [restP, k]⟩
    · exact .inl (by rw [f.novalue (by rw [k]; decide)])
    · exact .inr ⟨_, [], by simp [restP, k]; rfl⟩
theorem numsR_len (p : List UInt8) (k : Nat) (y : Int) : (numsR p k y).1.length ≤ 64 := by
  show (manyOf numR (rdC p k y 64).1.toNat p (rdC p k y 64).2.1 (rdC p k y 64).2.2).1.length ≤ 64
  rw [manyOf_len]
  have := rdC_nat p k y 64
  omega
theorem get_only {p : List UInt8} {X : ChT} {k : Nat} {y : Int} (hl : p.length ≤ 281474976710656) (hX : chanR (p.length : Int) (p.length : Int) p 0 0 = (X, k, y)) : ∀ c, checkCh c = 0 → bytesCh c = p → mkCh X = c := by
  intro c h e
  subst e
  have t := texts_in h
  have := (chanR_strict ((bytesCh c).length : Int) ((bytesCh c).length : Int) (by omega) (by omega)).full (bytesCh c) 0 (unCh c) [] (un_ok2 h (by omega) (by omega)) (by rw [un_enc h]; simp)
  rw [hX] at this
  have e2 : X = unCh c := (Prod.mk.inj this).1
  rw [e2, mk_un]
theorem got_cases {p : List UInt8} {g : Ch} (hg : ∀ c, checkCh c = 0 → bytesCh c = p → g = c) : ((putCh g).2 = 0 ∧ (putCh g).1 = p ∧ getF p = (g, 0)) ∨ ((putCh g).2 = 0 ∧ (putCh g).1 ≠ p ∧ getF p = (Ch.none, 2)) ∨ ((putCh g).2 ≠ 0 ∧ getF p = (Ch.none, 2)) := by
  have e := getF_of hg
  unfold putCh
  by_cases hc : checkCh g = 0
  · rw [if_pos hc]
    by_cases hb : bytesCh g = p
    · rw [if_pos ⟨hc, hb⟩] at e; exact .inl ⟨rfl, hb, e⟩
    · rw [if_neg (fun h => hb h.2)] at e; exact .inr (.inl ⟨rfl, hb, e⟩)
  · rw [if_neg hc]
    rw [if_neg (fun h => hc h.1)] at e
    exact .inr (.inr ⟨hc, e⟩)
theorem putCh_le (c : Ch) : (putCh c).1.length ≤ 1000 := by
  unfold putCh
  split
  · rename_i h; exact bytesCh_len h
  · simp
/-- The result's box, the change's, the reader's. -/
def DS (w : World) (gc gr : Nat) (C R : Array Value) (W : World) : Prop :=
  W.heap[w.heap.size]? = some (.cells #[.int .i64 0, .int .i64 0, .int .i64 0, .slice none 0 0, .int .i64 0, .int .i64 0, .int .i64 0, .int .i64 0, .int .i64 0, .int .i64 0, .int .i64 0, .string ⟨#[]⟩, .string ⟨#[]⟩] 57) ∧ W.heap[gc]? = some (.cells C 57) ∧ W.heap[gr]? = some (.cells R 46) ∧ Below w.heap.size w W ∧ w.heap.size < gc ∧ gc < gr
theorem DS.call {w : World} {gc gr : Nat} {C R : Array Value} {W W' : World} (h : DS w gc gr C R W) (hb : Below W.heap.size W W') : DS w gc gr C R W' :=
  ⟨row_below h.1 hb, row_below h.2.1 hb, row_below h.2.2.1 hb, h.2.2.2.1.trans (hb.mono h.2.2.2.1.size), h.2.2.2.2⟩
theorem DS.setR {w : World} {gc gr : Nat} {C R : Array Value} {W : World} (h : DS w gc gr C R W) (R' : Array Value) : DS w gc gr C R' (W.setRow gr R') := by
  obtain ⟨h1, h2, h3, h4, h5, h6⟩ := h
  exact ⟨row_other h1 _ (by omega), row_other h2 _ (by omega), setRow_same h3, below_setRow h4 (by omega) _, h5, h6⟩
theorem DS.set {w : World} {gc gr : Nat} {C R : Array Value} {W : World} (h : DS w gc gr C R W) (i : Nat) (v : Value) : DS w gc gr (C.setIfInBounds i v) R (W.setCell ⟨gc, i, none⟩ v) := by
  obtain ⟨h1, h2, h3, h4, h5, h6⟩ := h
  refine ⟨?_, heap_setCell_same W gc i _ _ v h2, ?_, h4.setCell (by show _ ≤ gc; omega) _, h5, h6⟩
  · rw [heap_setCell_other W ⟨gc, i, none⟩ w.heap.size v (by show w.heap.size ≠ gc; omega)]; exact h1
  · rw [heap_setCell_other W ⟨gc, i, none⟩ gr v (by show gr ≠ gc; omega)]; exact h3
theorem DS.free {w : World} {gc gr : Nat} {C R : Array Value} {W : World} (h : DS w gc gr C R W) : ∀ i, W.frozen? ⟨gc, i, none⟩ = false := fun i => frozen_of_row W gc i _ _ h.2.1
theorem DS.cells {w : World} {gc gr : Nat} {v0 v1 v2 v3 v4 v5 v6 v7 v8 v9 v10 v11 v12 : Value} {R : Array Value} {W : World} (h : DS w gc gr #[v0, v1, v2, v3, v4, v5, v6, v7, v8, v9, v10, v11, v12] R W) : W.cell? ⟨gc, 0, none⟩ = some v0 ∧ W.cell? ⟨gc, 1, none⟩ = some v1 ∧ W.cell? ⟨gc, 2, none⟩ = some v2 ∧ W.cell? ⟨gc, 3, none⟩ = some v3 ∧ W.cell? ⟨gc, 4, none⟩ = some v4 ∧ W.cell? ⟨gc, 5, none⟩ = some v5 ∧ W.cell? ⟨gc, 6, none⟩ = some v6 ∧ W.cell? ⟨gc, 7, none⟩ = some v7 ∧ W.cell? ⟨gc, 8, none⟩ = some v8 ∧ W.cell? ⟨gc, 9, none⟩ = some v9 ∧ W.cell? ⟨gc, 10, none⟩ = some v10 ∧ W.cell? ⟨gc, 11, none⟩ = some v11 ∧ W.cell? ⟨gc, 12, none⟩ = some v12 := by
  have h := h.2.1
  exact ⟨cell_of_row W gc 0 _ _ _ h, cell_of_row W gc 1 _ _ _ h, cell_of_row W gc 2 _ _ _ h, cell_of_row W gc 3 _ _ _ h, cell_of_row W gc 4 _ _ _ h, cell_of_row W gc 5 _ _ _ h, cell_of_row W gc 6 _ _ _ h, cell_of_row W gc 7 _ _ _ h, cell_of_row W gc 8 _ _ _ h, cell_of_row W gc 9 _ _ _ h, cell_of_row W gc 10 _ _ _ h, cell_of_row W gc 11 _ _ _ h, cell_of_row W gc 12 _ _ _ h⟩
/-- The clock that was read lies behind the boxes. -/
def DQ (N gc gr : Nat) (W : World) (v : Value) (ds : List Int) : Prop := OwnI N W v ds ∧ gc < gr ∧ gr < N
theorem DQ.call {N gc gr : Nat} {W W' : World} {v : Value} {ds : List Int} (h : DQ N gc gr W v ds) (hb : Below W.heap.size W W') : DQ N gc gr W' v ds := ⟨h.1.below hb, h.2⟩
theorem DQ.setR {N gc gr : Nat} {W : World} {v : Value} {ds : List Int} (h : DQ N gc gr W v ds) (R : Array Value) : DQ N gc gr (W.setRow gr R) v ds := ⟨h.1.keep fun j hj _ => setRow_other W gr j R (by have := h.2; omega), h.2⟩
theorem DQ.set {N gc gr : Nat} {W : World} {v : Value} {ds : List Int} (h : DQ N gc gr W v ds) (i : Nat) (u : Value) : DQ N gc gr (W.setCell ⟨gc, i, none⟩ u) v ds :=
  ⟨h.1.keep fun j hj _ => heap_setCell_other W ⟨gc, i, none⟩ j u (by have := h.2; show j ≠ gc; omega), h.2⟩

set_option maxRecDepth 100000 in
set_option maxHeartbeats 8000000 in
theorem refGet_any (a : Option Addr) (cap : Nat) (p : List UInt8) (w : World) (h : IsB w (.slice a p.length cap) p) :
    Calls Tryz.prog 22 #[.slice a p.length cap] w fun e w' => GotCh (getF p).1 (getF p).2 w e w' := by
  have hlp := h.len
  have HP : Hid (IsB w (.slice a p.length cap) p) := h
  obtain ⟨⟨kd, k0, y0⟩, e0⟩ : ∃ r, numR p 0 0 = r := ⟨_, rfl⟩
  obtain ⟨⟨⟨a1, a2⟩, k1, y1⟩, e1⟩ : ∃ r, stampR p k0 y0 = r := ⟨_, rfl⟩
  obtain ⟨⟨sq, k2, y2⟩, e2⟩ : ∃ r, numR p k1 y1 = r := ⟨_, rfl⟩
  obtain ⟨⟨ds, k3, y3⟩, e3⟩ : ∃ r, numsR p k2 y2 = r := ⟨_, rfl⟩
  have hk0 : k0 ≤ p.length := by have := numR_at p 0 0 (Nat.zero_le _); rw [e0] at this; exact this
  have hk1 : k1 ≤ p.length := by have := stampR_at p k0 y0 hk0; rw [e1] at this; exact this
  have hk2 : k2 ≤ p.length := by have := numR_at p k1 y1 hk1; rw [e2] at this; exact this
  have hk3 : k3 ≤ p.length := by have := numsR_at p k2 y2 hk2; rw [e3] at this; exact this
  have hd64 : ds.length ≤ 64 := by have := numsR_len p k2 y2; rw [e3] at this; exact this
  have HES : Hid (∀ rs k4 y4, restR kd (a1, a2) (p.length : Int) (p.length : Int) p k3 y3 = (rs, k4, y4) → chanR (p.length : Int) (p.length : Int) p 0 0 = ((kd, (a1, a2), sq, ds, rs), k4, y4)) := fun rs k4 y4 h => by unfold chanR seqR; simp only [e0, e1, e2, e3, h]
  obtain ⟨b0, eb0⟩ : ∃ b, badL k0 y0 = b := ⟨_, rfl⟩
  obtain ⟨b1, eb1⟩ : ∃ b, badL k1 y1 = b := ⟨_, rfl⟩
  obtain ⟨b2, eb2⟩ : ∃ b, badL k2 y2 = b := ⟨_, rfl⟩
  obtain ⟨b3, eb3⟩ : ∃ b, badL k3 y3 = b := ⟨_, rfl⟩
  have C0 : Hid (∀ W, Below w.heap.size w W → Calls Tryz.prog 18 #[.agg #[.slice a p.length cap, .int .i64 0, .int .i64 0, .int .i64 0]] W fun e w' => e = .returned (.tuple #[.agg #[.slice a p.length cap, .int .i64 (k0 : Int), .int .i64 y0, .int .i64 b0], .int .i64 kd]) ∧ Below W.heap.size W w') := fun W hb => by
    have := refNext_any a cap p 0 0 W (HP.out.below hb) (Nat.zero_le _)
    unfold numR at e0; rw [e0] at this
    simp only [refR, eb0] at this
    exact this
  have C1 : Hid (∀ W, Below w.heap.size w W → Calls Tryz.prog 45 #[.agg #[.slice a p.length cap, .int .i64 (k0 : Int), .int .i64 y0, .int .i64 b0]] W fun e w' => e = .returned (.tuple #[.agg #[.slice a p.length cap, .int .i64 (k1 : Int), .int .i64 y1, .int .i64 b1], .agg #[.int .i64 a1, .int .i64 a2]]) ∧ Below W.heap.size W w') := fun W hb => by
    have := refStampN_any a cap p k0 y0 W (HP.out.below hb) hk0
    rw [e1] at this
    simp only [refR, eb0, eb1] at this
    exact this
  have C2 : Hid (∀ W, Below w.heap.size w W → Calls Tryz.prog 18 #[.agg #[.slice a p.length cap, .int .i64 (k1 : Int), .int .i64 y1, .int .i64 b1]] W fun e w' => e = .returned (.tuple #[.agg #[.slice a p.length cap, .int .i64 (k2 : Int), .int .i64 y2, .int .i64 b2], .int .i64 sq]) ∧ Below W.heap.size W w') := fun W hb => by
    have := refNext_any a cap p k1 y1 W (HP.out.below hb) hk1
    unfold numR at e2; rw [e2] at this
    simp only [refR, eb1, eb2] at this
    exact this
  have C3 : Hid (∀ W, Below w.heap.size w W → Calls Tryz.prog 19 #[.agg #[.slice a p.length cap, .int .i64 (k2 : Int), .int .i64 y2, .int .i64 b2]] W fun e w' => ∃ v, e = .returned (.tuple #[.agg #[.slice a p.length cap, .int .i64 (k3 : Int), .int .i64 y3, .int .i64 b3], v]) ∧ OwnI W.heap.size w' v ds ∧ Below W.heap.size W w') := fun W hb => by
    have := refNumbers_any a cap p k2 y2 W (HP.out.below hb) hk2
    rw [e3] at this
    simp only [refR, eb2, eb3] at this
    exact this
  have HB0 : Hid (Below w.heap.size w (((w.alloc (.cells #[.int .i64 0, .int .i64 0, .int .i64 0, .slice none 0 0, .int .i64 0, .int .i64 0, .int .i64 0, .int .i64 0, .int .i64 0, .int .i64 0, .int .i64 0, .string ⟨#[]⟩, .string ⟨#[]⟩] 57)).alloc (.cells #[.int .i64 0, .int .i64 0, .int .i64 0, .slice none 0 0, .int .i64 0, .int .i64 0, .int .i64 0, .int .i64 0, .int .i64 0, .int .i64 0, .int .i64 0, .string ⟨#[]⟩, .string ⟨#[]⟩] 57)).alloc (.cells #[.slice a p.length cap, .int .i64 0, .int .i64 0, .int .i64 0] 46))) := (((Below.refl _ _).alloc (Nat.le_refl _) _).alloc (by simp) _).alloc (by simp; omega) _
  have D1 : Hid (DS w (w.heap.size + 1) (w.heap.size + 2) #[.int .i64 0, .int .i64 0, .int .i64 0, .slice none 0 0, .int .i64 0, .int .i64 0, .int .i64 0, .int .i64 0, .int .i64 0, .int .i64 0, .int .i64 0, .string ⟨#[]⟩, .string ⟨#[]⟩] #[.slice a p.length cap, .int .i64 0, .int .i64 0, .int .i64 0] (((w.alloc (.cells #[.int .i64 0, .int .i64 0, .int .i64 0, .slice none 0 0, .int .i64 0, .int .i64 0, .int .i64 0, .int .i64 0, .int .i64 0, .int .i64 0, .int .i64 0, .string ⟨#[]⟩, .string ⟨#[]⟩] 57)).alloc (.cells #[.int .i64 0, .int .i64 0, .int .i64 0, .slice none 0 0, .int .i64 0, .int .i64 0, .int .i64 0, .int .i64 0, .int .i64 0, .int .i64 0, .int .i64 0, .string ⟨#[]⟩, .string ⟨#[]⟩] 57)).alloc (.cells #[.slice a p.length cap, .int .i64 0, .int .i64 0, .int .i64 0] 46))) := ⟨row_alloc (row_alloc (heap_alloc_new _ _) _) _, row_alloc (heap_alloc2_new w _ _) _, heap_at _ _ _ (by simp), HB0.out, by omega, by omega⟩
  have HK3 : Hid (k3 ≤ p.length) := hk3
  have HEB3 : Hid (badL k3 y3 = b3) := eb3
  clear e0 e1 e2 e3 hk0 hk1 hk2 hk3 eb0 eb1 eb2 eb3 h HB0
  go_enter Tryz.func22, Tryz.ntmps22
  go_upto_region 3 with (first | (with_reducible refine wpList_store_new (P := Tryz.prog) ?hg 57 (.tmp 4) (.tmp 8) ?ho _ _ ?hx ?hy sizeChange ?hs ?h1 ?hrest; case hg => rfl; case ho => rfl; case hx => rfl; case hy => rfl; case hs => rfl; case h1 => first | rfl | simp [Value.oneCell']) | (with_reducible refine wpList_store_new (P := Tryz.prog) ?hg 46 (.tmp 5) (.tmp 10) ?ho _ _ ?hx ?hy sizeReader ?hs ?h1 ?hrest; case hg => rfl; case ho => rfl; case hx => rfl; case hy => rfl; case hs => rfl; case h1 => first | rfl | simp [Value.oneCell']))
  obtain ⟨W1, eW1⟩ : ∃ X, X = (((w.alloc (.cells #[.int .i64 0, .int .i64 0, .int .i64 0, .slice none 0 0, .int .i64 0, .int .i64 0, .int .i64 0, .int .i64 0, .int .i64 0, .int .i64 0, .int .i64 0, .string ⟨#[]⟩, .string ⟨#[]⟩] 57)).alloc (.cells #[.int .i64 0, .int .i64 0, .int .i64 0, .slice none 0 0, .int .i64 0, .int .i64 0, .int .i64 0, .int .i64 0, .int .i64 0, .int .i64 0, .int .i64 0, .string ⟨#[]⟩, .string ⟨#[]⟩] 57)).alloc (.cells #[.slice a p.length cap, .int .i64 0, .int .i64 0, .int .i64 0] 46)) := ⟨_, rfl⟩
  rw [← eW1] at D1 ⊢
  clear eW1
  try rw [show w.heap.size + 1 + 1 = w.heap.size + 2 from rfl]
  generalize w.heap.size + 2 = gr at *
  generalize w.heap.size + 1 = gc at *
  go_step
  refine wpList_load_row rfl 46 (.tmp 5) rfl gr _ _ _ rfl D1.out.2.2.1 Tryz.underlying46 rfl sizeReader ?_
  (try simp only [Act.put, List.setIfInBounds_toArray, List.set_cons_zero, List.set_cons_succ])
  go_wp2_with fail
  refine (C0.out _ D1.out.2.2.2.1).mono ?_
  rintro e w9 ⟨rfl, hb⟩
  have Ra : Hid (DS w gc gr #[.int .i64 0, .int .i64 0, .int .i64 0, .slice none 0 0, .int .i64 0, .int .i64 0, .int .i64 0, .int .i64 0, .int .i64 0, .int .i64 0, .int .i64 0, .string ⟨#[]⟩, .string ⟨#[]⟩] #[.slice a p.length cap, .int .i64 0, .int .i64 0, .int .i64 0] w9) := D1.out.call hb
  have Rb : Hid (DS w gc gr #[.int .i64 0, .int .i64 0, .int .i64 0, .slice none 0 0, .int .i64 0, .int .i64 0, .int .i64 0, .int .i64 0, .int .i64 0, .int .i64 0, .int .i64 0, .string ⟨#[]⟩, .string ⟨#[]⟩] #[.slice a p.length cap, .int .i64 (k0 : Int), .int .i64 y0, .int .i64 b0] (w9.setRow gr #[.slice a p.length cap, .int .i64 (k0 : Int), .int .i64 y0, .int .i64 b0])) := Ra.out.setR _
  clear hb D1
  obtain ⟨c_0, c_1, c_2, c_3, c_4, c_5, c_6, c_7, c_8, c_9, c_10, c_11, c_12⟩ := Rb.out.cells
  have f_4 := Rb.out.free 4
  have D2 : Hid (DS w gc gr #[.int .i64 0, .int .i64 0, .int .i64 0, .slice none 0 0, .int .i64 kd, .int .i64 0, .int .i64 0, .int .i64 0, .int .i64 0, .int .i64 0, .int .i64 0, .string ⟨#[]⟩, .string ⟨#[]⟩] #[.slice a p.length cap, .int .i64 (k0 : Int), .int .i64 y0, .int .i64 b0] ((w9.setRow gr #[.slice a p.length cap, .int .i64 (k0 : Int), .int .i64 y0, .int .i64 b0]).setCell ⟨gc, 4, none⟩ (.int .i64 kd))) := by
    have h0 := (Rb.out.set 4 (.int .i64 kd))
    simp only [List.setIfInBounds_toArray, List.set_cons_zero, List.set_cons_succ] at h0
    exact h0
  clear c_0 c_1 c_2 c_3 c_5 c_6 c_7 c_8 c_9 c_10 c_11 c_12
  rename_i hKq
  refine hKq _ _ ?_
  clear hKq
  (try simp only [Act.put, List.setIfInBounds_toArray, List.set_cons_zero, List.set_cons_succ])
  refine wpList_plain rfl (fun K hK => ?_)
  go_simp
  refine hK _ _ ?_
  clear hK K
  refine wpList_plain rfl (fun K hK => ?_)
  go_simp
  refine hK _ _ ?_
  clear hK K
  refine wpList_plain rfl (fun K hK => ?_)
  go_simp
  refine hK _ _ ?_
  clear hK K
  refine wpList_store_row rfl 46 (.tmp 5) (.tmp 14) rfl gr _ _ #[.slice a p.length cap, .int .i64 (k0 : Int), .int .i64 y0, .int .i64 b0] rfl rfl Ra.out.2.2.1 sizeReader rfl (by simp [Value.oneCell']) ?_
  (try simp only [Act.put, List.setIfInBounds_toArray, List.set_cons_zero, List.set_cons_succ])
  refine wpList_plain rfl (fun K hK => ?_)
  go_simp
  refine hK _ _ ?_
  clear hK K
  refine wpList_plain rfl (fun K hK => ?_)
  go_simp
  refine hK _ _ ?_
  clear hK K
  go_upto_region 4 with fail
  clear Ra Rb c_4 f_4
  obtain ⟨W2, eW⟩ : ∃ X, X = ((w9.setRow gr #[.slice a p.length cap, .int .i64 (k0 : Int), .int .i64 y0, .int .i64 b0]).setCell ⟨gc, 4, none⟩ (.int .i64 kd)) := ⟨_, rfl⟩
  rw [← eW] at D2 ⊢
  clear eW
  go_step
  refine wpList_load_row rfl 46 (.tmp 5) rfl gr _ _ _ rfl D2.out.2.2.1 Tryz.underlying46 rfl sizeReader ?_
  (try simp only [Act.put, List.setIfInBounds_toArray, List.set_cons_zero, List.set_cons_succ])
  go_wp2_with fail
  refine (C1.out _ D2.out.2.2.2.1).mono ?_
  rintro e w9 ⟨rfl, hb⟩
  have Ra : Hid (DS w gc gr #[.int .i64 0, .int .i64 0, .int .i64 0, .slice none 0 0, .int .i64 kd, .int .i64 0, .int .i64 0, .int .i64 0, .int .i64 0, .int .i64 0, .int .i64 0, .string ⟨#[]⟩, .string ⟨#[]⟩] #[.slice a p.length cap, .int .i64 (k0 : Int), .int .i64 y0, .int .i64 b0] w9) := D2.out.call hb
  have Rb : Hid (DS w gc gr #[.int .i64 0, .int .i64 0, .int .i64 0, .slice none 0 0, .int .i64 kd, .int .i64 0, .int .i64 0, .int .i64 0, .int .i64 0, .int .i64 0, .int .i64 0, .string ⟨#[]⟩, .string ⟨#[]⟩] #[.slice a p.length cap, .int .i64 (k1 : Int), .int .i64 y1, .int .i64 b1] (w9.setRow gr #[.slice a p.length cap, .int .i64 (k1 : Int), .int .i64 y1, .int .i64 b1])) := Ra.out.setR _
  clear hb D2
  obtain ⟨c_0, c_1, c_2, c_3, c_4, c_5, c_6, c_7, c_8, c_9, c_10, c_11, c_12⟩ := Rb.out.cells
  have f_0 := Rb.out.free 0
  have f_1 := Rb.out.free 1
  have D3 : Hid (DS w gc gr #[.int .i64 a1, .int .i64 a2, .int .i64 0, .slice none 0 0, .int .i64 kd, .int .i64 0, .int .i64 0, .int .i64 0, .int .i64 0, .int .i64 0, .int .i64 0, .string ⟨#[]⟩, .string ⟨#[]⟩] #[.slice a p.length cap, .int .i64 (k1 : Int), .int .i64 y1, .int .i64 b1] (((w9.setRow gr #[.slice a p.length cap, .int .i64 (k1 : Int), .int .i64 y1, .int .i64 b1]).setCell ⟨gc, 0, none⟩ (.int .i64 a1)).setCell ⟨gc, 1, none⟩ (.int .i64 a2))) := by
    have h0 := ((Rb.out.set 0 (.int .i64 a1)).set 1 (.int .i64 a2))
    simp only [List.setIfInBounds_toArray, List.set_cons_zero, List.set_cons_succ] at h0
    exact h0
  clear c_2 c_3 c_5 c_6 c_7 c_8 c_9 c_10 c_11 c_12
  rename_i hKq
  refine hKq _ _ ?_
  clear hKq
  (try simp only [Act.put, List.setIfInBounds_toArray, List.set_cons_zero, List.set_cons_succ])
  refine wpList_plain rfl (fun K hK => ?_)
  go_simp
  refine hK _ _ ?_
  clear hK K
  refine wpList_plain rfl (fun K hK => ?_)
  go_simp
  refine hK _ _ ?_
  clear hK K
  refine wpList_plain rfl (fun K hK => ?_)
  go_simp
  refine hK _ _ ?_
  clear hK K
  refine wpList_store_row rfl 46 (.tmp 5) (.tmp 20) rfl gr _ _ #[.slice a p.length cap, .int .i64 (k1 : Int), .int .i64 y1, .int .i64 b1] rfl rfl Ra.out.2.2.1 sizeReader rfl (by simp [Value.oneCell']) ?_
  (try simp only [Act.put, List.setIfInBounds_toArray, List.set_cons_zero, List.set_cons_succ])
  refine wpList_plain rfl (fun K hK => ?_)
  go_simp
  refine hK _ _ ?_
  clear hK K
  refine wpList_plain rfl (fun K hK => ?_)
  go_simp
  refine hK _ _ ?_
  clear hK K
  go_upto_region 5 with fail
  clear Ra Rb c_0 c_1 c_4 f_0 f_1
  obtain ⟨W3, eW⟩ : ∃ X, X = (((w9.setRow gr #[.slice a p.length cap, .int .i64 (k1 : Int), .int .i64 y1, .int .i64 b1]).setCell ⟨gc, 0, none⟩ (.int .i64 a1)).setCell ⟨gc, 1, none⟩ (.int .i64 a2)) := ⟨_, rfl⟩
  rw [← eW] at D3 ⊢
  clear eW
  go_step
  refine wpList_load_row rfl 46 (.tmp 5) rfl gr _ _ _ rfl D3.out.2.2.1 Tryz.underlying46 rfl sizeReader ?_
  (try simp only [Act.put, List.setIfInBounds_toArray, List.set_cons_zero, List.set_cons_succ])
  go_wp2_with fail
  refine (C2.out _ D3.out.2.2.2.1).mono ?_
  rintro e w9 ⟨rfl, hb⟩
  have Ra : Hid (DS w gc gr #[.int .i64 a1, .int .i64 a2, .int .i64 0, .slice none 0 0, .int .i64 kd, .int .i64 0, .int .i64 0, .int .i64 0, .int .i64 0, .int .i64 0, .int .i64 0, .string ⟨#[]⟩, .string ⟨#[]⟩] #[.slice a p.length cap, .int .i64 (k1 : Int), .int .i64 y1, .int .i64 b1] w9) := D3.out.call hb
  have Rb : Hid (DS w gc gr #[.int .i64 a1, .int .i64 a2, .int .i64 0, .slice none 0 0, .int .i64 kd, .int .i64 0, .int .i64 0, .int .i64 0, .int .i64 0, .int .i64 0, .int .i64 0, .string ⟨#[]⟩, .string ⟨#[]⟩] #[.slice a p.length cap, .int .i64 (k2 : Int), .int .i64 y2, .int .i64 b2] (w9.setRow gr #[.slice a p.length cap, .int .i64 (k2 : Int), .int .i64 y2, .int .i64 b2])) := Ra.out.setR _
  clear hb D3
  obtain ⟨c_0, c_1, c_2, c_3, c_4, c_5, c_6, c_7, c_8, c_9, c_10, c_11, c_12⟩ := Rb.out.cells
  have f_2 := Rb.out.free 2
  have D4 : Hid (DS w gc gr #[.int .i64 a1, .int .i64 a2, .int .i64 sq, .slice none 0 0, .int .i64 kd, .int .i64 0, .int .i64 0, .int .i64 0, .int .i64 0, .int .i64 0, .int .i64 0, .string ⟨#[]⟩, .string ⟨#[]⟩] #[.slice a p.length cap, .int .i64 (k2 : Int), .int .i64 y2, .int .i64 b2] ((w9.setRow gr #[.slice a p.length cap, .int .i64 (k2 : Int), .int .i64 y2, .int .i64 b2]).setCell ⟨gc, 2, none⟩ (.int .i64 sq))) := by
    have h0 := (Rb.out.set 2 (.int .i64 sq))
    simp only [List.setIfInBounds_toArray, List.set_cons_zero, List.set_cons_succ] at h0
    exact h0
  clear c_0 c_1 c_3 c_5 c_6 c_7 c_8 c_9 c_10 c_11 c_12
  rename_i hKq
  refine hKq _ _ ?_
  clear hKq
  (try simp only [Act.put, List.setIfInBounds_toArray, List.set_cons_zero, List.set_cons_succ])
  refine wpList_plain rfl (fun K hK => ?_)
  go_simp
  refine hK _ _ ?_
  clear hK K
  refine wpList_plain rfl (fun K hK => ?_)
  go_simp
  refine hK _ _ ?_
  clear hK K
  refine wpList_plain rfl (fun K hK => ?_)
  go_simp
  refine hK _ _ ?_
  clear hK K
  refine wpList_store_row rfl 46 (.tmp 5) (.tmp 26) rfl gr _ _ #[.slice a p.length cap, .int .i64 (k2 : Int), .int .i64 y2, .int .i64 b2] rfl rfl Ra.out.2.2.1 sizeReader rfl (by simp [Value.oneCell']) ?_
  (try simp only [Act.put, List.setIfInBounds_toArray, List.set_cons_zero, List.set_cons_succ])
  refine wpList_plain rfl (fun K hK => ?_)
  go_simp
  refine hK _ _ ?_
  clear hK K
  refine wpList_plain rfl (fun K hK => ?_)
  go_simp
  refine hK _ _ ?_
  clear hK K
  go_upto_region 6 with fail
  clear Ra Rb c_2 c_4 f_2
  obtain ⟨W4, eW⟩ : ∃ X, X = ((w9.setRow gr #[.slice a p.length cap, .int .i64 (k2 : Int), .int .i64 y2, .int .i64 b2]).setCell ⟨gc, 2, none⟩ (.int .i64 sq)) := ⟨_, rfl⟩
  rw [← eW] at D4 ⊢
  clear eW
  go_step
  refine wpList_load_row rfl 46 (.tmp 5) rfl gr _ _ _ rfl D4.out.2.2.1 Tryz.underlying46 rfl sizeReader ?_
  (try simp only [Act.put, List.setIfInBounds_toArray, List.set_cons_zero, List.set_cons_succ])
  go_wp2_with fail
  refine (C3.out _ D4.out.2.2.2.1).mono ?_
  rintro e w9 ⟨v9, rfl, o9, hb⟩
  obtain ⟨ad, cd, ev⟩ := o9.form
  subst ev
  have hgN : gr < W4.heap.size := row_lt D4.out.2.2.1
  have hwN : w.heap.size ≤ W4.heap.size := D4.out.2.2.2.1.size
  have Qa : Hid (DQ W4.heap.size gc gr w9 (.slice ad ds.length cd) ds) := ⟨o9, D4.out.2.2.2.2.2, hgN⟩
  clear o9 hgN
  have Ra : Hid (DS w gc gr #[.int .i64 a1, .int .i64 a2, .int .i64 sq, .slice none 0 0, .int .i64 kd, .int .i64 0, .int .i64 0, .int .i64 0, .int .i64 0, .int .i64 0, .int .i64 0, .string ⟨#[]⟩, .string ⟨#[]⟩] #[.slice a p.length cap, .int .i64 (k2 : Int), .int .i64 y2, .int .i64 b2] w9) := D4.out.call hb
  have Rb : Hid (DS w gc gr #[.int .i64 a1, .int .i64 a2, .int .i64 sq, .slice none 0 0, .int .i64 kd, .int .i64 0, .int .i64 0, .int .i64 0, .int .i64 0, .int .i64 0, .int .i64 0, .string ⟨#[]⟩, .string ⟨#[]⟩] #[.slice a p.length cap, .int .i64 (k3 : Int), .int .i64 y3, .int .i64 b3] (w9.setRow gr #[.slice a p.length cap, .int .i64 (k3 : Int), .int .i64 y3, .int .i64 b3])) := Ra.out.setR _
  clear hb D4
  generalize W4.heap.size = N at *
  obtain ⟨c_0, c_1, c_2, c_3, c_4, c_5, c_6, c_7, c_8, c_9, c_10, c_11, c_12⟩ := Rb.out.cells
  have f_3 := Rb.out.free 3
  have D5 : Hid (DS w gc gr #[.int .i64 a1, .int .i64 a2, .int .i64 sq, .slice ad ds.length cd, .int .i64 kd, .int .i64 0, .int .i64 0, .int .i64 0, .int .i64 0, .int .i64 0, .int .i64 0, .string ⟨#[]⟩, .string ⟨#[]⟩] #[.slice a p.length cap, .int .i64 (k3 : Int), .int .i64 y3, .int .i64 b3] ((w9.setRow gr #[.slice a p.length cap, .int .i64 (k3 : Int), .int .i64 y3, .int .i64 b3]).setCell ⟨gc, 3, none⟩ (.slice ad ds.length cd))) := by
    have h0 := (Rb.out.set 3 (.slice ad ds.length cd))
    simp only [List.setIfInBounds_toArray, List.set_cons_zero, List.set_cons_succ] at h0
    exact h0
  have Q5 : Hid (DQ N gc gr ((w9.setRow gr #[.slice a p.length cap, .int .i64 (k3 : Int), .int .i64 y3, .int .i64 b3]).setCell ⟨gc, 3, none⟩ (.slice ad ds.length cd)) (.slice ad ds.length cd) ds) := ((Qa.out.setR _).set 3 (.slice ad ds.length cd))
  clear c_0 c_1 c_2 c_5 c_6 c_7 c_8 c_9 c_10 c_11 c_12 Qa
  rename_i hKq
  refine hKq _ _ ?_
  clear hKq
  (try simp only [Act.put, List.setIfInBounds_toArray, List.set_cons_zero, List.set_cons_succ])
  refine wpList_plain rfl (fun K hK => ?_)
  go_simp
  refine hK _ _ ?_
  clear hK K
  refine wpList_plain rfl (fun K hK => ?_)
  go_simp
  refine hK _ _ ?_
  clear hK K
  refine wpList_plain rfl (fun K hK => ?_)
  go_simp
  refine hK _ _ ?_
  clear hK K
  refine wpList_store_row rfl 46 (.tmp 5) (.tmp 32) rfl gr _ _ #[.slice a p.length cap, .int .i64 (k3 : Int), .int .i64 y3, .int .i64 b3] rfl rfl Ra.out.2.2.1 sizeReader rfl (by simp [Value.oneCell']) ?_
  (try simp only [Act.put, List.setIfInBounds_toArray, List.set_cons_zero, List.set_cons_succ])
  refine wpList_plain rfl (fun K hK => ?_)
  go_simp
  refine hK _ _ ?_
  clear hK K
  refine wpList_plain rfl (fun K hK => ?_)
  go_simp
  refine hK _ _ ?_
  clear hK K
  go_upto_region 7 with fail
  clear Ra Rb c_3 c_4 f_3
  obtain ⟨W5, eW⟩ : ∃ X, X = ((w9.setRow gr #[.slice a p.length cap, .int .i64 (k3 : Int), .int .i64 y3, .int .i64 b3]).setCell ⟨gc, 3, none⟩ (.slice ad ds.length cd)) := ⟨_, rfl⟩
  rw [← eW] at D5 Q5 ⊢
  clear eW
  clear C0 C1 C2 C3
  by_cases q1 : kd = 1
  · subst q1
    obtain ⟨⟨⟨p1, p2⟩, k4, y4⟩, z0⟩ : ∃ r, stampR p k3 y3 = r := ⟨_, rfl⟩
    have hk4 : k4 ≤ p.length := by have := stampR_at p k3 y3 HK3.out; rw [z0] at this; exact this
    obtain ⟨b4, eb4⟩ : ∃ b, badL k4 y4 = b := ⟨_, rfl⟩
    have eb3 := HEB3.out
    obtain ⟨⟨⟨f1, f2⟩, k5, y5⟩, z1⟩ : ∃ r, stampR p k4 y4 = r := ⟨_, rfl⟩
    have hk5 : k5 ≤ p.length := by have := stampR_at p k4 y4 hk4; rw [z1] at this; exact this
    obtain ⟨b5, eb5⟩ : ∃ b, badL k5 y5 = b := ⟨_, rfl⟩
    obtain ⟨⟨t1, k6, y6⟩, z2⟩ : ∃ r, rdT p k5 y5 (p.length : Int) = r := ⟨_, rfl⟩
    have hk6 : k6 ≤ p.length := by have := rdT_at p k5 y5 (p.length : Int) hk5; rw [z2] at this; exact this
    have ht1 : (t1.length : Int) ≤ (p.length : Int) := by have := rdT_len p k5 y5 (p.length : Int) (by omega); rw [z2] at this; exact this
    obtain ⟨b6, eb6⟩ : ∃ b, badL k6 y6 = b := ⟨_, rfl⟩
    have E0 : Hid (∀ W, Below w.heap.size w W → Calls Tryz.prog 45 #[.agg #[.slice a p.length cap, .int .i64 (k3 : Int), .int .i64 y3, .int .i64 b3]] W fun e w' => e = .returned (.tuple #[.agg #[.slice a p.length cap, .int .i64 (k4 : Int), .int .i64 y4, .int .i64 b4], .agg #[.int .i64 p1, .int .i64 p2]]) ∧ Below W.heap.size W w') := fun W hb => by
      have := refStampN_any a cap p k3 y3 W (HP.out.below hb) HK3.out
      rw [z0] at this
      simp only [refR, eb3, eb4] at this
      exact this
    have E1 : Hid (∀ W, Below w.heap.size w W → Calls Tryz.prog 45 #[.agg #[.slice a p.length cap, .int .i64 (k4 : Int), .int .i64 y4, .int .i64 b4]] W fun e w' => e = .returned (.tuple #[.agg #[.slice a p.length cap, .int .i64 (k5 : Int), .int .i64 y5, .int .i64 b5], .agg #[.int .i64 f1, .int .i64 f2]]) ∧ Below W.heap.size W w') := fun W hb => by
      have := refStampN_any a cap p k4 y4 W (HP.out.below hb) hk4
      rw [z1] at this
      simp only [refR, eb4, eb5] at this
      exact this
    have E2 : Hid (∀ W, Below w.heap.size w W → Calls Tryz.prog 21 #[.agg #[.slice a p.length cap, .int .i64 (k5 : Int), .int .i64 y5, .int .i64 b5], .int .i64 (p.length : Int)] W fun e w' => e = .returned (.tuple #[.agg #[.slice a p.length cap, .int .i64 (k6 : Int), .int .i64 y6, .int .i64 b6], .string (txt t1)]) ∧ Below W.heap.size W w') := fun W hb => by
      have := refText_any a cap p k5 y5 (p.length : Int) W (HP.out.below hb) hk5
      rw [z2] at this
      simp only [refR, eb5, eb6] at this
      exact this
    have HE0 : restR 1 (a1, a2) (p.length : Int) (p.length : Int) p k3 y3 = (((a1, a2), (p1, p2), (f1, f2), t1, []), k6, y6) := by simp [restR, seqR, pureR, z0, z1, z2]
    have HG : Hid (∀ c, checkCh c = 0 → bytesCh c = p → (⟨a1, a2, sq, ds, 1, a1, a2, p1, p2, f1, f2, (txt t1), ⟨#[]⟩⟩ : Ch) = c) := get_only hlp (HES.out _ _ _ HE0)
    clear HE0 HES
    have HCA := got_cases HG.out
    have hPl := putCh_le (⟨a1, a2, sq, ds, 1, a1, a2, p1, p2, f1, f2, (txt t1), ⟨#[]⟩⟩ : Ch)
    obtain ⟨⟨B, ee⟩, eP⟩ : ∃ r, putCh (⟨a1, a2, sq, ds, 1, a1, a2, p1, p2, f1, f2, (txt t1), ⟨#[]⟩⟩ : Ch) = r := ⟨_, rfl⟩
    have CP : Hid (∀ W, IsI W (.slice ad ds.length cd) ds → Calls Tryz.prog 46 #[.agg #[.int .i64 a1, .int .i64 a2, .int .i64 sq, .slice ad ds.length cd, .int .i64 1, .int .i64 a1, .int .i64 a2, .int .i64 p1, .int .i64 p2, .int .i64 f1, .int .i64 f2, .string (txt t1), .string ⟨#[]⟩]] W fun e w' => ∃ v, e = .returned (.tuple #[v, .int .i64 ee]) ∧ OwnB W.heap.size w' v B ∧ Below W.heap.size W w') := fun W hW => by
      have := refPutCh_any a1 a2 sq ad ds cd 1 a1 a2 p1 p2 f1 f2 ((txt t1)) ⟨#[]⟩ (by show t1.toArray.size ≤ _; simp; omega) W hW
      rw [eP] at this
      exact this
    rw [eP] at HCA hPl
    simp only at HCA hPl
    have HCB : Hid ((ee = 0 ∧ B = p ∧ getF p = ((⟨a1, a2, sq, ds, 1, a1, a2, p1, p2, f1, f2, (txt t1), ⟨#[]⟩⟩ : Ch), 0)) ∨ (ee = 0 ∧ B ≠ p ∧ getF p = (Ch.none, 2)) ∨ (ee ≠ 0 ∧ getF p = (Ch.none, 2))) := HCA
    have hBl : B.length ≤ 281474976710656 := Nat.le_trans hPl (by decide)
    clear eP HCA hPl HG z0 z1 z2 hk4 hk5 hk6 eb4 eb5 eb6 eb3 ht1
    obtain ⟨c_0, c_1, c_2, c_3, c_4, c_5, c_6, c_7, c_8, c_9, c_10, c_11, c_12⟩ := D5.out.cells
    have f_5 := D5.out.free 5
    have f_6 := D5.out.free 6
    have D6 : Hid (DS w gc gr #[.int .i64 a1, .int .i64 a2, .int .i64 sq, .slice ad ds.length cd, .int .i64 1, .int .i64 a1, .int .i64 a2, .int .i64 0, .int .i64 0, .int .i64 0, .int .i64 0, .string ⟨#[]⟩, .string ⟨#[]⟩] #[.slice a p.length cap, .int .i64 (k3 : Int), .int .i64 y3, .int .i64 b3] ((W5.setCell ⟨gc, 5, none⟩ (.int .i64 a1)).setCell ⟨gc, 6, none⟩ (.int .i64 a2))) := by
      have h0 := (D5.out.set 5 (.int .i64 a1)).set 6 (.int .i64 a2)
      simp only [List.setIfInBounds_toArray, List.set_cons_zero, List.set_cons_succ] at h0
      exact h0
    have Q6 : Hid (DQ N gc gr ((W5.setCell ⟨gc, 5, none⟩ (.int .i64 a1)).setCell ⟨gc, 6, none⟩ (.int .i64 a2)) (.slice ad ds.length cd) ds) := (Q5.out.set 5 _).set 6 _
    clear D5 Q5
    go_upto_region 11 with fail
    clear c_0 c_1 c_2 c_3 c_4 c_5 c_6 c_7 c_8 c_9 c_10 c_11 c_12 f_5 f_6
    obtain ⟨W6, eW⟩ : ∃ X, X = ((W5.setCell ⟨gc, 5, none⟩ (.int .i64 a1)).setCell ⟨gc, 6, none⟩ (.int .i64 a2)) := ⟨_, rfl⟩
    rw [← eW] at D6 Q6 ⊢
    clear eW
    go_step
    refine wpList_load_row rfl 46 (.tmp 5) rfl gr _ _ _ rfl D6.out.2.2.1 Tryz.underlying46 rfl sizeReader ?_
    (try simp only [Act.put, List.setIfInBounds_toArray, List.set_cons_zero, List.set_cons_succ])
    go_wp2_with fail
    refine (E0.out _ D6.out.2.2.2.1).mono ?_
    rintro e w9 ⟨rfl, hb⟩
    have Qa : Hid (DQ N gc gr w9 (.slice ad ds.length cd) ds) := Q6.out.call hb
    have Ra : Hid (DS w gc gr #[.int .i64 a1, .int .i64 a2, .int .i64 sq, .slice ad ds.length cd, .int .i64 1, .int .i64 a1, .int .i64 a2, .int .i64 0, .int .i64 0, .int .i64 0, .int .i64 0, .string ⟨#[]⟩, .string ⟨#[]⟩] #[.slice a p.length cap, .int .i64 (k3 : Int), .int .i64 y3, .int .i64 b3] w9) := D6.out.call hb
    have Rb : Hid (DS w gc gr #[.int .i64 a1, .int .i64 a2, .int .i64 sq, .slice ad ds.length cd, .int .i64 1, .int .i64 a1, .int .i64 a2, .int .i64 0, .int .i64 0, .int .i64 0, .int .i64 0, .string ⟨#[]⟩, .string ⟨#[]⟩] #[.slice a p.length cap, .int .i64 (k4 : Int), .int .i64 y4, .int .i64 b4] (w9.setRow gr #[.slice a p.length cap, .int .i64 (k4 : Int), .int .i64 y4, .int .i64 b4])) := Ra.out.setR _
    clear hb D6
    obtain ⟨c_0, c_1, c_2, c_3, c_4, c_5, c_6, c_7, c_8, c_9, c_10, c_11, c_12⟩ := Rb.out.cells
    have f_7 := Rb.out.free 7
    have f_8 := Rb.out.free 8
    have D7 : Hid (DS w gc gr #[.int .i64 a1, .int .i64 a2, .int .i64 sq, .slice ad ds.length cd, .int .i64 1, .int .i64 a1, .int .i64 a2, .int .i64 p1, .int .i64 p2, .int .i64 0, .int .i64 0, .string ⟨#[]⟩, .string ⟨#[]⟩] #[.slice a p.length cap, .int .i64 (k4 : Int), .int .i64 y4, .int .i64 b4] (((w9.setRow gr #[.slice a p.length cap, .int .i64 (k4 : Int), .int .i64 y4, .int .i64 b4]).setCell ⟨gc, 7, none⟩ (.int .i64 p1)).setCell ⟨gc, 8, none⟩ (.int .i64 p2))) := by
      have h0 := ((Rb.out.set 7 (.int .i64 p1)).set 8 (.int .i64 p2))
      simp only [List.setIfInBounds_toArray, List.set_cons_zero, List.set_cons_succ] at h0
      exact h0
    have Q7 : Hid (DQ N gc gr (((w9.setRow gr #[.slice a p.length cap, .int .i64 (k4 : Int), .int .i64 y4, .int .i64 b4]).setCell ⟨gc, 7, none⟩ (.int .i64 p1)).setCell ⟨gc, 8, none⟩ (.int .i64 p2)) (.slice ad ds.length cd) ds) := (((Qa.out.setR _).set 7 (.int .i64 p1)).set 8 (.int .i64 p2))
    clear c_0 c_1 c_2 c_3 c_5 c_6 c_9 c_10 c_11 c_12 Qa Q6
    rename_i hKq
    refine hKq _ _ ?_
    clear hKq
    (try simp only [Act.put, List.setIfInBounds_toArray, List.set_cons_zero, List.set_cons_succ])
    refine wpList_plain rfl (fun K hK => ?_)
    go_simp
    refine hK _ _ ?_
    clear hK K
    refine wpList_plain rfl (fun K hK => ?_)
    go_simp
    refine hK _ _ ?_
    clear hK K
    refine wpList_plain rfl (fun K hK => ?_)
    go_simp
    refine hK _ _ ?_
    clear hK K
    refine wpList_store_row rfl 46 (.tmp 5) (.tmp 58) rfl gr _ _ #[.slice a p.length cap, .int .i64 (k4 : Int), .int .i64 y4, .int .i64 b4] rfl rfl Ra.out.2.2.1 sizeReader rfl (by simp [Value.oneCell']) ?_
    (try simp only [Act.put, List.setIfInBounds_toArray, List.set_cons_zero, List.set_cons_succ])
    refine wpList_plain rfl (fun K hK => ?_)
    go_simp
    refine hK _ _ ?_
    clear hK K
    refine wpList_plain rfl (fun K hK => ?_)
    go_simp
    refine hK _ _ ?_
    clear hK K
    go_upto_region 12 with fail
    clear Ra Rb c_4 c_7 c_8 f_7 f_8
    obtain ⟨W7, eW⟩ : ∃ X, X = (((w9.setRow gr #[.slice a p.length cap, .int .i64 (k4 : Int), .int .i64 y4, .int .i64 b4]).setCell ⟨gc, 7, none⟩ (.int .i64 p1)).setCell ⟨gc, 8, none⟩ (.int .i64 p2)) := ⟨_, rfl⟩
    rw [← eW] at D7 Q7 ⊢
    clear eW
    go_step
    refine wpList_load_row rfl 46 (.tmp 5) rfl gr _ _ _ rfl D7.out.2.2.1 Tryz.underlying46 rfl sizeReader ?_
    (try simp only [Act.put, List.setIfInBounds_toArray, List.set_cons_zero, List.set_cons_succ])
    go_wp2_with fail
    refine (E1.out _ D7.out.2.2.2.1).mono ?_
    rintro e w9 ⟨rfl, hb⟩
    have Qa : Hid (DQ N gc gr w9 (.slice ad ds.length cd) ds) := Q7.out.call hb
    have Ra : Hid (DS w gc gr #[.int .i64 a1, .int .i64 a2, .int .i64 sq, .slice ad ds.length cd, .int .i64 1, .int .i64 a1, .int .i64 a2, .int .i64 p1, .int .i64 p2, .int .i64 0, .int .i64 0, .string ⟨#[]⟩, .string ⟨#[]⟩] #[.slice a p.length cap, .int .i64 (k4 : Int), .int .i64 y4, .int .i64 b4] w9) := D7.out.call hb
    have Rb : Hid (DS w gc gr #[.int .i64 a1, .int .i64 a2, .int .i64 sq, .slice ad ds.length cd, .int .i64 1, .int .i64 a1, .int .i64 a2, .int .i64 p1, .int .i64 p2, .int .i64 0, .int .i64 0, .string ⟨#[]⟩, .string ⟨#[]⟩] #[.slice a p.length cap, .int .i64 (k5 : Int), .int .i64 y5, .int .i64 b5] (w9.setRow gr #[.slice a p.length cap, .int .i64 (k5 : Int), .int .i64 y5, .int .i64 b5])) := Ra.out.setR _
    clear hb D7
    obtain ⟨c_0, c_1, c_2, c_3, c_4, c_5, c_6, c_7, c_8, c_9, c_10, c_11, c_12⟩ := Rb.out.cells
    have f_9 := Rb.out.free 9
    have f_10 := Rb.out.free 10
    have D8 : Hid (DS w gc gr #[.int .i64 a1, .int .i64 a2, .int .i64 sq, .slice ad ds.length cd, .int .i64 1, .int .i64 a1, .int .i64 a2, .int .i64 p1, .int .i64 p2, .int .i64 f1, .int .i64 f2, .string ⟨#[]⟩, .string ⟨#[]⟩] #[.slice a p.length cap, .int .i64 (k5 : Int), .int .i64 y5, .int .i64 b5] (((w9.setRow gr #[.slice a p.length cap, .int .i64 (k5 : Int), .int .i64 y5, .int .i64 b5]).setCell ⟨gc, 9, none⟩ (.int .i64 f1)).setCell ⟨gc, 10, none⟩ (.int .i64 f2))) := by
      have h0 := ((Rb.out.set 9 (.int .i64 f1)).set 10 (.int .i64 f2))
      simp only [List.setIfInBounds_toArray, List.set_cons_zero, List.set_cons_succ] at h0
      exact h0
    have Q8 : Hid (DQ N gc gr (((w9.setRow gr #[.slice a p.length cap, .int .i64 (k5 : Int), .int .i64 y5, .int .i64 b5]).setCell ⟨gc, 9, none⟩ (.int .i64 f1)).setCell ⟨gc, 10, none⟩ (.int .i64 f2)) (.slice ad ds.length cd) ds) := (((Qa.out.setR _).set 9 (.int .i64 f1)).set 10 (.int .i64 f2))
    clear c_0 c_1 c_2 c_3 c_5 c_6 c_7 c_8 c_11 c_12 Qa Q7
    rename_i hKq
    refine hKq _ _ ?_
    clear hKq
    (try simp only [Act.put, List.setIfInBounds_toArray, List.set_cons_zero, List.set_cons_succ])
    refine wpList_plain rfl (fun K hK => ?_)
    go_simp
    refine hK _ _ ?_
    clear hK K
    refine wpList_plain rfl (fun K hK => ?_)
    go_simp
    refine hK _ _ ?_
    clear hK K
    refine wpList_plain rfl (fun K hK => ?_)
    go_simp
    refine hK _ _ ?_
    clear hK K
    refine wpList_store_row rfl 46 (.tmp 5) (.tmp 64) rfl gr _ _ #[.slice a p.length cap, .int .i64 (k5 : Int), .int .i64 y5, .int .i64 b5] rfl rfl Ra.out.2.2.1 sizeReader rfl (by simp [Value.oneCell']) ?_
    (try simp only [Act.put, List.setIfInBounds_toArray, List.set_cons_zero, List.set_cons_succ])
    refine wpList_plain rfl (fun K hK => ?_)
    go_simp
    refine hK _ _ ?_
    clear hK K
    refine wpList_plain rfl (fun K hK => ?_)
    go_simp
    refine hK _ _ ?_
    clear hK K
    go_upto_region 14 with fail
    clear Ra Rb c_4 c_9 c_10 f_9 f_10
    obtain ⟨W8, eW⟩ : ∃ X, X = (((w9.setRow gr #[.slice a p.length cap, .int .i64 (k5 : Int), .int .i64 y5, .int .i64 b5]).setCell ⟨gc, 9, none⟩ (.int .i64 f1)).setCell ⟨gc, 10, none⟩ (.int .i64 f2)) := ⟨_, rfl⟩
    rw [← eW] at D8 Q8 ⊢
    clear eW
    go_step
    refine wpList_load_row rfl 46 (.tmp 5) rfl gr _ _ _ rfl D8.out.2.2.1 Tryz.underlying46 rfl sizeReader ?_
    (try simp only [Act.put, List.setIfInBounds_toArray, List.set_cons_zero, List.set_cons_succ])
    go_wp2_with fail
    refine (E2.out _ D8.out.2.2.2.1).mono ?_
    rintro e w9 ⟨rfl, hb⟩
    have Qa : Hid (DQ N gc gr w9 (.slice ad ds.length cd) ds) := Q8.out.call hb
    have Ra : Hid (DS w gc gr #[.int .i64 a1, .int .i64 a2, .int .i64 sq, .slice ad ds.length cd, .int .i64 1, .int .i64 a1, .int .i64 a2, .int .i64 p1, .int .i64 p2, .int .i64 f1, .int .i64 f2, .string ⟨#[]⟩, .string ⟨#[]⟩] #[.slice a p.length cap, .int .i64 (k5 : Int), .int .i64 y5, .int .i64 b5] w9) := D8.out.call hb
    have Rb : Hid (DS w gc gr #[.int .i64 a1, .int .i64 a2, .int .i64 sq, .slice ad ds.length cd, .int .i64 1, .int .i64 a1, .int .i64 a2, .int .i64 p1, .int .i64 p2, .int .i64 f1, .int .i64 f2, .string ⟨#[]⟩, .string ⟨#[]⟩] #[.slice a p.length cap, .int .i64 (k6 : Int), .int .i64 y6, .int .i64 b6] (w9.setRow gr #[.slice a p.length cap, .int .i64 (k6 : Int), .int .i64 y6, .int .i64 b6])) := Ra.out.setR _
    clear hb D8
    obtain ⟨c_0, c_1, c_2, c_3, c_4, c_5, c_6, c_7, c_8, c_9, c_10, c_11, c_12⟩ := Rb.out.cells
    have f_11 := Rb.out.free 11
    have D9 : Hid (DS w gc gr #[.int .i64 a1, .int .i64 a2, .int .i64 sq, .slice ad ds.length cd, .int .i64 1, .int .i64 a1, .int .i64 a2, .int .i64 p1, .int .i64 p2, .int .i64 f1, .int .i64 f2, .string (txt t1), .string ⟨#[]⟩] #[.slice a p.length cap, .int .i64 (k6 : Int), .int .i64 y6, .int .i64 b6] ((w9.setRow gr #[.slice a p.length cap, .int .i64 (k6 : Int), .int .i64 y6, .int .i64 b6]).setCell ⟨gc, 11, none⟩ (.string (txt t1)))) := by
      have h0 := (Rb.out.set 11 (.string (txt t1)))
      simp only [List.setIfInBounds_toArray, List.set_cons_zero, List.set_cons_succ] at h0
      exact h0
    have Q9 : Hid (DQ N gc gr ((w9.setRow gr #[.slice a p.length cap, .int .i64 (k6 : Int), .int .i64 y6, .int .i64 b6]).setCell ⟨gc, 11, none⟩ (.string (txt t1))) (.slice ad ds.length cd) ds) := ((Qa.out.setR _).set 11 (.string (txt t1)))
    clear c_0 c_1 c_2 c_3 c_5 c_6 c_7 c_8 c_9 c_10 c_12 Qa Q8
    rename_i hKq
    refine hKq _ _ ?_
    clear hKq
    (try simp only [Act.put, List.setIfInBounds_toArray, List.set_cons_zero, List.set_cons_succ])
    refine wpList_plain rfl (fun K hK => ?_)
    go_simp
    refine hK _ _ ?_
    clear hK K
    refine wpList_plain rfl (fun K hK => ?_)
    go_simp
    refine hK _ _ ?_
    clear hK K
    refine wpList_plain rfl (fun K hK => ?_)
    go_simp
    refine hK _ _ ?_
    clear hK K
    refine wpList_store_row rfl 46 (.tmp 5) (.tmp 85) rfl gr _ _ #[.slice a p.length cap, .int .i64 (k6 : Int), .int .i64 y6, .int .i64 b6] rfl rfl Ra.out.2.2.1 sizeReader rfl (by simp [Value.oneCell']) ?_
    (try simp only [Act.put, List.setIfInBounds_toArray, List.set_cons_zero, List.set_cons_succ])
    refine wpList_plain rfl (fun K hK => ?_)
    go_simp
    refine hK _ _ ?_
    clear hK K
    refine wpList_plain rfl (fun K hK => ?_)
    go_simp
    refine hK _ _ ?_
    clear hK K
    go_upto_region 17 with fail
    clear Ra Rb c_4 c_11 f_11
    obtain ⟨W9, eW⟩ : ∃ X, X = ((w9.setRow gr #[.slice a p.length cap, .int .i64 (k6 : Int), .int .i64 y6, .int .i64 b6]).setCell ⟨gc, 11, none⟩ (.string (txt t1))) := ⟨_, rfl⟩
    rw [← eW] at D9 Q9 ⊢
    clear eW
    go_step
    refine wpList_load_row rfl 57 (.tmp 4) rfl gc _ _ _ rfl D9.out.2.1 Tryz.underlying57 rfl sizeChange ?_
    (try simp only [Act.put, List.setIfInBounds_toArray, List.set_cons_zero, List.set_cons_succ])
    go_wp2_with fail
    refine (CP.out _ (Q9.out.1.isI (by omega))).mono ?_
    rintro e w8 ⟨v8, rfl, o8, hb⟩
    have Dz : Hid (DS w gc gr #[.int .i64 a1, .int .i64 a2, .int .i64 sq, .slice ad ds.length cd, .int .i64 1, .int .i64 a1, .int .i64 a2, .int .i64 p1, .int .i64 p2, .int .i64 f1, .int .i64 f2, .string (txt t1), .string ⟨#[]⟩] #[.slice a p.length cap, .int .i64 (k6 : Int), .int .i64 y6, .int .i64 b6] w8) := D9.out.call hb
    have Qz : Hid (DQ N gc gr w8 (.slice ad ds.length cd) ds) := Q9.out.call hb
    have cv1 := conv_txt (o8.isB hBl)
    have cv2 := conv_txt (HP.out.below Dz.out.2.2.2.1)
    clear o8 hb D9 Q9 CP E0 E1 E2
    rcases HCB.out with ⟨ee0, eB, HE⟩ | ⟨ee0, eB, HE⟩ | ⟨ee0, HE⟩
    · have HE2 : Hid (getF p = ((⟨a1, a2, sq, ds, 1, a1, a2, p1, p2, f1, f2, (txt t1), ⟨#[]⟩⟩ : Ch), 0)) := HE
      subst ee0 eB
      clear HE HCB
      have q1 : ((txt B).toList != (txt B).toList) = false := by simp
      have q2 : ((txt B).toList == (txt B).toList) = true := by simp
      go_upto_region 20 with fail
      go_step
      refine wpList_load_row rfl 57 (.tmp 4) rfl gc _ _ _ rfl Dz.out.2.1 Tryz.underlying57 rfl sizeChange ?_
      (try simp only [Act.put, List.setIfInBounds_toArray, List.set_cons_zero, List.set_cons_succ])
      refine wpList_store_row rfl 57 (.tmp 2) (.tmp 119) rfl w.heap.size _ _ #[.int .i64 a1, .int .i64 a2, .int .i64 sq, .slice ad ds.length cd, .int .i64 1, .int .i64 a1, .int .i64 a2, .int .i64 p1, .int .i64 p2, .int .i64 f1, .int .i64 f2, .string (txt t1), .string ⟨#[]⟩] rfl rfl Dz.out.1 sizeChange rfl (by simp [Value.oneCell']) ?_
      (try simp only [Act.put, List.setIfInBounds_toArray, List.set_cons_zero, List.set_cons_succ])
      go_wp2
      (try simp only [Exit.inBlock, Exit.then])
      refine bodyPost_ret (v := .tuple #[.agg #[.int .i64 a1, .int .i64 a2, .int .i64 sq, .slice ad ds.length cd, .int .i64 1, .int .i64 a1, .int .i64 a2, .int .i64 p1, .int .i64 p2, .int .i64 f1, .int .i64 f2, .string (txt t1), .string ⟨#[]⟩], .int .i64 0]) ?rA1 rfl ?pA1
      case rA1 => exact results_cell_row2 rfl _ _ w.heap.size _ _ _ _ rfl (setRow_same Dz.out.1) Tryz.underlying57 rfl (by kernel_rfl) rfl
      rw [HE2.out]
      exact ⟨.slice ad ds.length cd, rfl, (Qz.out.1.keep fun j hj _ => setRow_other w8 w.heap.size j _ (by have := Qz.out.2; have := Dz.out.2.2.2.2; omega)).cut hwN, below_setRow Dz.out.2.2.2.1 (Nat.le_refl _) _⟩
    · have HE2 : Hid (getF p = (Ch.none, 2)) := HE
      subst ee0
      clear HE HCB
      have q0 : (txt B).toList ≠ (txt p).toList := fun h => eB (by simpa [ByteArray.toList_eq, txt] using h)
      have q1 : ((txt B).toList != (txt p).toList) = true := by simpa using q0
      have q2 : ((txt B).toList == (txt p).toList) = false := by simpa using q0
      clear eB
      go_upto_region 19 with fail
      go_step
      refine wpList_plain rfl (fun K hK => ?_)
      go_simp
      refine hK _ _ ?_
      clear hK K
      refine wpList_store_row rfl 57 (.tmp 2) (.tmp 118) rfl w.heap.size _ _ #[.int .i64 0, .int .i64 0, .int .i64 0, .slice none 0 0, .int .i64 0, .int .i64 0, .int .i64 0, .int .i64 0, .int .i64 0, .int .i64 0, .int .i64 0, .string ⟨#[]⟩, .string ⟨#[]⟩] rfl rfl Dz.out.1 sizeChange rfl (by simp [Value.oneCell']) ?_
      (try simp only [Act.put, List.setIfInBounds_toArray, List.set_cons_zero, List.set_cons_succ])
      go_wp2
      (try simp only [Exit.inBlock, Exit.then])
      refine bodyPost_ret (v := .tuple #[.agg #[.int .i64 0, .int .i64 0, .int .i64 0, .slice none 0 0, .int .i64 0, .int .i64 0, .int .i64 0, .int .i64 0, .int .i64 0, .int .i64 0, .int .i64 0, .string ⟨#[]⟩, .string ⟨#[]⟩], .int .i64 2]) ?rB1 rfl ?pB1
      case rB1 => exact results_cell_row2 rfl _ _ w.heap.size _ _ _ _ rfl (setRow_same Dz.out.1) Tryz.underlying57 rfl (by kernel_rfl) rfl
      rw [HE2.out]
      exact ⟨_, rfl, OwnI.nil0 _ _, below_setRow Dz.out.2.2.2.1 (Nat.le_refl _) _⟩
    · have HE2 : Hid (getF p = (Ch.none, 2)) := HE
      have q1 : (ee != 0) = true := by simp [ee0]
      clear HE HCB ee0
      go_upto_region 19 with fail
      go_step
      refine wpList_plain rfl (fun K hK => ?_)
      go_simp
      refine hK _ _ ?_
      clear hK K
      refine wpList_store_row rfl 57 (.tmp 2) (.tmp 118) rfl w.heap.size _ _ #[.int .i64 0, .int .i64 0, .int .i64 0, .slice none 0 0, .int .i64 0, .int .i64 0, .int .i64 0, .int .i64 0, .int .i64 0, .int .i64 0, .int .i64 0, .string ⟨#[]⟩, .string ⟨#[]⟩] rfl rfl Dz.out.1 sizeChange rfl (by simp [Value.oneCell']) ?_
      (try simp only [Act.put, List.setIfInBounds_toArray, List.set_cons_zero, List.set_cons_succ])
      go_wp2
      (try simp only [Exit.inBlock, Exit.then])
      refine bodyPost_ret (v := .tuple #[.agg #[.int .i64 0, .int .i64 0, .int .i64 0, .slice none 0 0, .int .i64 0, .int .i64 0, .int .i64 0, .int .i64 0, .int .i64 0, .int .i64 0, .int .i64 0, .string ⟨#[]⟩, .string ⟨#[]⟩], .int .i64 2]) ?rC1 rfl ?pC1
      case rC1 => exact results_cell_row2 rfl _ _ w.heap.size _ _ _ _ rfl (setRow_same Dz.out.1) Tryz.underlying57 rfl (by kernel_rfl) rfl
      rw [HE2.out]
      exact ⟨_, rfl, OwnI.nil0 _ _, below_setRow Dz.out.2.2.2.1 (Nat.le_refl _) _⟩
  by_cases q2 : kd = 2
  · subst q2
    clear q1
    obtain ⟨⟨⟨n1, n2⟩, k4, y4⟩, z0⟩ : ∃ r, stampR p k3 y3 = r := ⟨_, rfl⟩
    have hk4 : k4 ≤ p.length := by have := stampR_at p k3 y3 HK3.out; rw [z0] at this; exact this
    obtain ⟨b4, eb4⟩ : ∃ b, badL k4 y4 = b := ⟨_, rfl⟩
    have eb3 := HEB3.out
    obtain ⟨⟨⟨p1, p2⟩, k5, y5⟩, z1⟩ : ∃ r, stampR p k4 y4 = r := ⟨_, rfl⟩
    have hk5 : k5 ≤ p.length := by have := stampR_at p k4 y4 hk4; rw [z1] at this; exact this
    obtain ⟨b5, eb5⟩ : ∃ b, badL k5 y5 = b := ⟨_, rfl⟩
    obtain ⟨⟨⟨f1, f2⟩, k6, y6⟩, z2⟩ : ∃ r, stampR p k5 y5 = r := ⟨_, rfl⟩
    have hk6 : k6 ≤ p.length := by have := stampR_at p k5 y5 hk5; rw [z2] at this; exact this
    obtain ⟨b6, eb6⟩ : ∃ b, badL k6 y6 = b := ⟨_, rfl⟩
    have E0 : Hid (∀ W, Below w.heap.size w W → Calls Tryz.prog 45 #[.agg #[.slice a p.length cap, .int .i64 (k3 : Int), .int .i64 y3, .int .i64 b3]] W fun e w' => e = .returned (.tuple #[.agg #[.slice a p.length cap, .int .i64 (k4 : Int), .int .i64 y4, .int .i64 b4], .agg #[.int .i64 n1, .int .i64 n2]]) ∧ Below W.heap.size W w') := fun W hb => by
      have := refStampN_any a cap p k3 y3 W (HP.out.below hb) HK3.out
      rw [z0] at this
      simp only [refR, eb3, eb4] at this
      exact this
    have E1 : Hid (∀ W, Below w.heap.size w W → Calls Tryz.prog 45 #[.agg #[.slice a p.length cap, .int .i64 (k4 : Int), .int .i64 y4, .int .i64 b4]] W fun e w' => e = .returned (.tuple #[.agg #[.slice a p.length cap, .int .i64 (k5 : Int), .int .i64 y5, .int .i64 b5], .agg #[.int .i64 p1, .int .i64 p2]]) ∧ Below W.heap.size W w') := fun W hb => by
      have := refStampN_any a cap p k4 y4 W (HP.out.below hb) hk4
      rw [z1] at this
      simp only [refR, eb4, eb5] at this
      exact this
    have E2 : Hid (∀ W, Below w.heap.size w W → Calls Tryz.prog 45 #[.agg #[.slice a p.length cap, .int .i64 (k5 : Int), .int .i64 y5, .int .i64 b5]] W fun e w' => e = .returned (.tuple #[.agg #[.slice a p.length cap, .int .i64 (k6 : Int), .int .i64 y6, .int .i64 b6], .agg #[.int .i64 f1, .int .i64 f2]]) ∧ Below W.heap.size W w') := fun W hb => by
      have := refStampN_any a cap p k5 y5 W (HP.out.below hb) hk5
      rw [z2] at this
      simp only [refR, eb5, eb6] at this
      exact this
    have HE0 : restR 2 (a1, a2) (p.length : Int) (p.length : Int) p k3 y3 = (((n1, n2), (p1, p2), (f1, f2), [], []), k6, y6) := by simp [restR, seqR, pureR, z0, z1, z2]
    have HG : Hid (∀ c, checkCh c = 0 → bytesCh c = p → (⟨a1, a2, sq, ds, 2, n1, n2, p1, p2, f1, f2, ⟨#[]⟩, ⟨#[]⟩⟩ : Ch) = c) := get_only hlp (HES.out _ _ _ HE0)
    clear HE0 HES
    have HCA := got_cases HG.out
    have hPl := putCh_le (⟨a1, a2, sq, ds, 2, n1, n2, p1, p2, f1, f2, ⟨#[]⟩, ⟨#[]⟩⟩ : Ch)
    obtain ⟨⟨B, ee⟩, eP⟩ : ∃ r, putCh (⟨a1, a2, sq, ds, 2, n1, n2, p1, p2, f1, f2, ⟨#[]⟩, ⟨#[]⟩⟩ : Ch) = r := ⟨_, rfl⟩
    have CP : Hid (∀ W, IsI W (.slice ad ds.length cd) ds → Calls Tryz.prog 46 #[.agg #[.int .i64 a1, .int .i64 a2, .int .i64 sq, .slice ad ds.length cd, .int .i64 2, .int .i64 n1, .int .i64 n2, .int .i64 p1, .int .i64 p2, .int .i64 f1, .int .i64 f2, .string ⟨#[]⟩, .string ⟨#[]⟩]] W fun e w' => ∃ v, e = .returned (.tuple #[v, .int .i64 ee]) ∧ OwnB W.heap.size w' v B ∧ Below W.heap.size W w') := fun W hW => by
      have := refPutCh_any a1 a2 sq ad ds cd 2 n1 n2 p1 p2 f1 f2 ⟨#[]⟩ ⟨#[]⟩ (by show 0 ≤ _; omega) W hW
      rw [eP] at this
      exact this
    rw [eP] at HCA hPl
    simp only at HCA hPl
    have HCB : Hid ((ee = 0 ∧ B = p ∧ getF p = ((⟨a1, a2, sq, ds, 2, n1, n2, p1, p2, f1, f2, ⟨#[]⟩, ⟨#[]⟩⟩ : Ch), 0)) ∨ (ee = 0 ∧ B ≠ p ∧ getF p = (Ch.none, 2)) ∨ (ee ≠ 0 ∧ getF p = (Ch.none, 2))) := HCA
    have hBl : B.length ≤ 281474976710656 := Nat.le_trans hPl (by decide)
    clear eP HCA hPl HG z0 z1 z2 hk4 hk5 hk6 eb4 eb5 eb6 eb3
    obtain ⟨c_0, c_1, c_2, c_3, c_4, c_5, c_6, c_7, c_8, c_9, c_10, c_11, c_12⟩ := D5.out.cells
    go_upto_region 9 with fail
    clear c_0 c_1 c_2 c_3 c_4 c_5 c_6 c_7 c_8 c_9 c_10 c_11 c_12
    go_step
    refine wpList_load_row rfl 46 (.tmp 5) rfl gr _ _ _ rfl D5.out.2.2.1 Tryz.underlying46 rfl sizeReader ?_
    (try simp only [Act.put, List.setIfInBounds_toArray, List.set_cons_zero, List.set_cons_succ])
    go_wp2_with fail
    refine (E0.out _ D5.out.2.2.2.1).mono ?_
    rintro e w9 ⟨rfl, hb⟩
    have Qa : Hid (DQ N gc gr w9 (.slice ad ds.length cd) ds) := Q5.out.call hb
    have Ra : Hid (DS w gc gr #[.int .i64 a1, .int .i64 a2, .int .i64 sq, .slice ad ds.length cd, .int .i64 2, .int .i64 0, .int .i64 0, .int .i64 0, .int .i64 0, .int .i64 0, .int .i64 0, .string ⟨#[]⟩, .string ⟨#[]⟩] #[.slice a p.length cap, .int .i64 (k3 : Int), .int .i64 y3, .int .i64 b3] w9) := D5.out.call hb
    have Rb : Hid (DS w gc gr #[.int .i64 a1, .int .i64 a2, .int .i64 sq, .slice ad ds.length cd, .int .i64 2, .int .i64 0, .int .i64 0, .int .i64 0, .int .i64 0, .int .i64 0, .int .i64 0, .string ⟨#[]⟩, .string ⟨#[]⟩] #[.slice a p.length cap, .int .i64 (k4 : Int), .int .i64 y4, .int .i64 b4] (w9.setRow gr #[.slice a p.length cap, .int .i64 (k4 : Int), .int .i64 y4, .int .i64 b4])) := Ra.out.setR _
    clear hb D5
    obtain ⟨c_0, c_1, c_2, c_3, c_4, c_5, c_6, c_7, c_8, c_9, c_10, c_11, c_12⟩ := Rb.out.cells
    have f_5 := Rb.out.free 5
    have f_6 := Rb.out.free 6
    have D6 : Hid (DS w gc gr #[.int .i64 a1, .int .i64 a2, .int .i64 sq, .slice ad ds.length cd, .int .i64 2, .int .i64 n1, .int .i64 n2, .int .i64 0, .int .i64 0, .int .i64 0, .int .i64 0, .string ⟨#[]⟩, .string ⟨#[]⟩] #[.slice a p.length cap, .int .i64 (k4 : Int), .int .i64 y4, .int .i64 b4] (((w9.setRow gr #[.slice a p.length cap, .int .i64 (k4 : Int), .int .i64 y4, .int .i64 b4]).setCell ⟨gc, 5, none⟩ (.int .i64 n1)).setCell ⟨gc, 6, none⟩ (.int .i64 n2))) := by
      have h0 := ((Rb.out.set 5 (.int .i64 n1)).set 6 (.int .i64 n2))
      simp only [List.setIfInBounds_toArray, List.set_cons_zero, List.set_cons_succ] at h0
      exact h0
    have Q6 : Hid (DQ N gc gr (((w9.setRow gr #[.slice a p.length cap, .int .i64 (k4 : Int), .int .i64 y4, .int .i64 b4]).setCell ⟨gc, 5, none⟩ (.int .i64 n1)).setCell ⟨gc, 6, none⟩ (.int .i64 n2)) (.slice ad ds.length cd) ds) := (((Qa.out.setR _).set 5 (.int .i64 n1)).set 6 (.int .i64 n2))
    clear c_0 c_1 c_2 c_3 c_7 c_8 c_9 c_10 c_11 c_12 Qa Q5
    rename_i hKq
    refine hKq _ _ ?_
    clear hKq
    (try simp only [Act.put, List.setIfInBounds_toArray, List.set_cons_zero, List.set_cons_succ])
    refine wpList_plain rfl (fun K hK => ?_)
    go_simp
    refine hK _ _ ?_
    clear hK K
    refine wpList_plain rfl (fun K hK => ?_)
    go_simp
    refine hK _ _ ?_
    clear hK K
    refine wpList_plain rfl (fun K hK => ?_)
    go_simp
    refine hK _ _ ?_
    clear hK K
    refine wpList_store_row rfl 46 (.tmp 5) (.tmp 44) rfl gr _ _ #[.slice a p.length cap, .int .i64 (k4 : Int), .int .i64 y4, .int .i64 b4] rfl rfl Ra.out.2.2.1 sizeReader rfl (by simp [Value.oneCell']) ?_
    (try simp only [Act.put, List.setIfInBounds_toArray, List.set_cons_zero, List.set_cons_succ])
    refine wpList_plain rfl (fun K hK => ?_)
    go_simp
    refine hK _ _ ?_
    clear hK K
    refine wpList_plain rfl (fun K hK => ?_)
    go_simp
    refine hK _ _ ?_
    clear hK K
    go_upto_region 11 with fail
    clear Ra Rb c_4 c_5 c_6 f_5 f_6
    obtain ⟨W6, eW⟩ : ∃ X, X = (((w9.setRow gr #[.slice a p.length cap, .int .i64 (k4 : Int), .int .i64 y4, .int .i64 b4]).setCell ⟨gc, 5, none⟩ (.int .i64 n1)).setCell ⟨gc, 6, none⟩ (.int .i64 n2)) := ⟨_, rfl⟩
    rw [← eW] at D6 Q6 ⊢
    clear eW
    go_step
    refine wpList_load_row rfl 46 (.tmp 5) rfl gr _ _ _ rfl D6.out.2.2.1 Tryz.underlying46 rfl sizeReader ?_
    (try simp only [Act.put, List.setIfInBounds_toArray, List.set_cons_zero, List.set_cons_succ])
    go_wp2_with fail
    refine (E1.out _ D6.out.2.2.2.1).mono ?_
    rintro e w9 ⟨rfl, hb⟩
    have Qa : Hid (DQ N gc gr w9 (.slice ad ds.length cd) ds) := Q6.out.call hb
    have Ra : Hid (DS w gc gr #[.int .i64 a1, .int .i64 a2, .int .i64 sq, .slice ad ds.length cd, .int .i64 2, .int .i64 n1, .int .i64 n2, .int .i64 0, .int .i64 0, .int .i64 0, .int .i64 0, .string ⟨#[]⟩, .string ⟨#[]⟩] #[.slice a p.length cap, .int .i64 (k4 : Int), .int .i64 y4, .int .i64 b4] w9) := D6.out.call hb
    have Rb : Hid (DS w gc gr #[.int .i64 a1, .int .i64 a2, .int .i64 sq, .slice ad ds.length cd, .int .i64 2, .int .i64 n1, .int .i64 n2, .int .i64 0, .int .i64 0, .int .i64 0, .int .i64 0, .string ⟨#[]⟩, .string ⟨#[]⟩] #[.slice a p.length cap, .int .i64 (k5 : Int), .int .i64 y5, .int .i64 b5] (w9.setRow gr #[.slice a p.length cap, .int .i64 (k5 : Int), .int .i64 y5, .int .i64 b5])) := Ra.out.setR _
    clear hb D6
    obtain ⟨c_0, c_1, c_2, c_3, c_4, c_5, c_6, c_7, c_8, c_9, c_10, c_11, c_12⟩ := Rb.out.cells
    have f_7 := Rb.out.free 7
    have f_8 := Rb.out.free 8
    have D7 : Hid (DS w gc gr #[.int .i64 a1, .int .i64 a2, .int .i64 sq, .slice ad ds.length cd, .int .i64 2, .int .i64 n1, .int .i64 n2, .int .i64 p1, .int .i64 p2, .int .i64 0, .int .i64 0, .string ⟨#[]⟩, .string ⟨#[]⟩] #[.slice a p.length cap, .int .i64 (k5 : Int), .int .i64 y5, .int .i64 b5] (((w9.setRow gr #[.slice a p.length cap, .int .i64 (k5 : Int), .int .i64 y5, .int .i64 b5]).setCell ⟨gc, 7, none⟩ (.int .i64 p1)).setCell ⟨gc, 8, none⟩ (.int .i64 p2))) := by
      have h0 := ((Rb.out.set 7 (.int .i64 p1)).set 8 (.int .i64 p2))
      simp only [List.setIfInBounds_toArray, List.set_cons_zero, List.set_cons_succ] at h0
      exact h0
    have Q7 : Hid (DQ N gc gr (((w9.setRow gr #[.slice a p.length cap, .int .i64 (k5 : Int), .int .i64 y5, .int .i64 b5]).setCell ⟨gc, 7, none⟩ (.int .i64 p1)).setCell ⟨gc, 8, none⟩ (.int .i64 p2)) (.slice ad ds.length cd) ds) := (((Qa.out.setR _).set 7 (.int .i64 p1)).set 8 (.int .i64 p2))
    clear c_0 c_1 c_2 c_3 c_5 c_6 c_9 c_10 c_11 c_12 Qa Q6
    rename_i hKq
    refine hKq _ _ ?_
    clear hKq
    (try simp only [Act.put, List.setIfInBounds_toArray, List.set_cons_zero, List.set_cons_succ])
    refine wpList_plain rfl (fun K hK => ?_)
    go_simp
    refine hK _ _ ?_
    clear hK K
    refine wpList_plain rfl (fun K hK => ?_)
    go_simp
    refine hK _ _ ?_
    clear hK K
    refine wpList_plain rfl (fun K hK => ?_)
    go_simp
    refine hK _ _ ?_
    clear hK K
    refine wpList_store_row rfl 46 (.tmp 5) (.tmp 58) rfl gr _ _ #[.slice a p.length cap, .int .i64 (k5 : Int), .int .i64 y5, .int .i64 b5] rfl rfl Ra.out.2.2.1 sizeReader rfl (by simp [Value.oneCell']) ?_
    (try simp only [Act.put, List.setIfInBounds_toArray, List.set_cons_zero, List.set_cons_succ])
    refine wpList_plain rfl (fun K hK => ?_)
    go_simp
    refine hK _ _ ?_
    clear hK K
    refine wpList_plain rfl (fun K hK => ?_)
    go_simp
    refine hK _ _ ?_
    clear hK K
    go_upto_region 12 with fail
    clear Ra Rb c_4 c_7 c_8 f_7 f_8
    obtain ⟨W7, eW⟩ : ∃ X, X = (((w9.setRow gr #[.slice a p.length cap, .int .i64 (k5 : Int), .int .i64 y5, .int .i64 b5]).setCell ⟨gc, 7, none⟩ (.int .i64 p1)).setCell ⟨gc, 8, none⟩ (.int .i64 p2)) := ⟨_, rfl⟩
    rw [← eW] at D7 Q7 ⊢
    clear eW
    go_step
    refine wpList_load_row rfl 46 (.tmp 5) rfl gr _ _ _ rfl D7.out.2.2.1 Tryz.underlying46 rfl sizeReader ?_
    (try simp only [Act.put, List.setIfInBounds_toArray, List.set_cons_zero, List.set_cons_succ])
    go_wp2_with fail
    refine (E2.out _ D7.out.2.2.2.1).mono ?_
    rintro e w9 ⟨rfl, hb⟩
    have Qa : Hid (DQ N gc gr w9 (.slice ad ds.length cd) ds) := Q7.out.call hb
    have Ra : Hid (DS w gc gr #[.int .i64 a1, .int .i64 a2, .int .i64 sq, .slice ad ds.length cd, .int .i64 2, .int .i64 n1, .int .i64 n2, .int .i64 p1, .int .i64 p2, .int .i64 0, .int .i64 0, .string ⟨#[]⟩, .string ⟨#[]⟩] #[.slice a p.length cap, .int .i64 (k5 : Int), .int .i64 y5, .int .i64 b5] w9) := D7.out.call hb
    have Rb : Hid (DS w gc gr #[.int .i64 a1, .int .i64 a2, .int .i64 sq, .slice ad ds.length cd, .int .i64 2, .int .i64 n1, .int .i64 n2, .int .i64 p1, .int .i64 p2, .int .i64 0, .int .i64 0, .string ⟨#[]⟩, .string ⟨#[]⟩] #[.slice a p.length cap, .int .i64 (k6 : Int), .int .i64 y6, .int .i64 b6] (w9.setRow gr #[.slice a p.length cap, .int .i64 (k6 : Int), .int .i64 y6, .int .i64 b6])) := Ra.out.setR _
    clear hb D7
    obtain ⟨c_0, c_1, c_2, c_3, c_4, c_5, c_6, c_7, c_8, c_9, c_10, c_11, c_12⟩ := Rb.out.cells
    have f_9 := Rb.out.free 9
    have f_10 := Rb.out.free 10
    have D8 : Hid (DS w gc gr #[.int .i64 a1, .int .i64 a2, .int .i64 sq, .slice ad ds.length cd, .int .i64 2, .int .i64 n1, .int .i64 n2, .int .i64 p1, .int .i64 p2, .int .i64 f1, .int .i64 f2, .string ⟨#[]⟩, .string ⟨#[]⟩] #[.slice a p.length cap, .int .i64 (k6 : Int), .int .i64 y6, .int .i64 b6] (((w9.setRow gr #[.slice a p.length cap, .int .i64 (k6 : Int), .int .i64 y6, .int .i64 b6]).setCell ⟨gc, 9, none⟩ (.int .i64 f1)).setCell ⟨gc, 10, none⟩ (.int .i64 f2))) := by
      have h0 := ((Rb.out.set 9 (.int .i64 f1)).set 10 (.int .i64 f2))
      simp only [List.setIfInBounds_toArray, List.set_cons_zero, List.set_cons_succ] at h0
      exact h0
    have Q8 : Hid (DQ N gc gr (((w9.setRow gr #[.slice a p.length cap, .int .i64 (k6 : Int), .int .i64 y6, .int .i64 b6]).setCell ⟨gc, 9, none⟩ (.int .i64 f1)).setCell ⟨gc, 10, none⟩ (.int .i64 f2)) (.slice ad ds.length cd) ds) := (((Qa.out.setR _).set 9 (.int .i64 f1)).set 10 (.int .i64 f2))
    clear c_0 c_1 c_2 c_3 c_5 c_6 c_7 c_8 c_11 c_12 Qa Q7
    rename_i hKq
    refine hKq _ _ ?_
    clear hKq
    (try simp only [Act.put, List.setIfInBounds_toArray, List.set_cons_zero, List.set_cons_succ])
    refine wpList_plain rfl (fun K hK => ?_)
    go_simp
    refine hK _ _ ?_
    clear hK K
    refine wpList_plain rfl (fun K hK => ?_)
    go_simp
    refine hK _ _ ?_
    clear hK K
    refine wpList_plain rfl (fun K hK => ?_)
    go_simp
    refine hK _ _ ?_
    clear hK K
    refine wpList_store_row rfl 46 (.tmp 5) (.tmp 64) rfl gr _ _ #[.slice a p.length cap, .int .i64 (k6 : Int), .int .i64 y6, .int .i64 b6] rfl rfl Ra.out.2.2.1 sizeReader rfl (by simp [Value.oneCell']) ?_
    (try simp only [Act.put, List.setIfInBounds_toArray, List.set_cons_zero, List.set_cons_succ])
    refine wpList_plain rfl (fun K hK => ?_)
    go_simp
    refine hK _ _ ?_
    clear hK K
    refine wpList_plain rfl (fun K hK => ?_)
    go_simp
    refine hK _ _ ?_
    clear hK K
    go_upto_region 17 with fail
    clear Ra Rb c_4 c_9 c_10 f_9 f_10
    obtain ⟨W8, eW⟩ : ∃ X, X = (((w9.setRow gr #[.slice a p.length cap, .int .i64 (k6 : Int), .int .i64 y6, .int .i64 b6]).setCell ⟨gc, 9, none⟩ (.int .i64 f1)).setCell ⟨gc, 10, none⟩ (.int .i64 f2)) := ⟨_, rfl⟩
    rw [← eW] at D8 Q8 ⊢
    clear eW
    go_step
    refine wpList_load_row rfl 57 (.tmp 4) rfl gc _ _ _ rfl D8.out.2.1 Tryz.underlying57 rfl sizeChange ?_
    (try simp only [Act.put, List.setIfInBounds_toArray, List.set_cons_zero, List.set_cons_succ])
    go_wp2_with fail
    refine (CP.out _ (Q8.out.1.isI (by omega))).mono ?_
    rintro e w8 ⟨v8, rfl, o8, hb⟩
    have Dz : Hid (DS w gc gr #[.int .i64 a1, .int .i64 a2, .int .i64 sq, .slice ad ds.length cd, .int .i64 2, .int .i64 n1, .int .i64 n2, .int .i64 p1, .int .i64 p2, .int .i64 f1, .int .i64 f2, .string ⟨#[]⟩, .string ⟨#[]⟩] #[.slice a p.length cap, .int .i64 (k6 : Int), .int .i64 y6, .int .i64 b6] w8) := D8.out.call hb
    have Qz : Hid (DQ N gc gr w8 (.slice ad ds.length cd) ds) := Q8.out.call hb
    have cv1 := conv_txt (o8.isB hBl)
    have cv2 := conv_txt (HP.out.below Dz.out.2.2.2.1)
    clear o8 hb D8 Q8 CP E0 E1 E2
    rcases HCB.out with ⟨ee0, eB, HE⟩ | ⟨ee0, eB, HE⟩ | ⟨ee0, HE⟩
    · have HE2 : Hid (getF p = ((⟨a1, a2, sq, ds, 2, n1, n2, p1, p2, f1, f2, ⟨#[]⟩, ⟨#[]⟩⟩ : Ch), 0)) := HE
      subst ee0 eB
      clear HE HCB
      have q1 : ((txt B).toList != (txt B).toList) = false := by simp
      have q2 : ((txt B).toList == (txt B).toList) = true := by simp
      go_upto_region 20 with fail
      go_step
      refine wpList_load_row rfl 57 (.tmp 4) rfl gc _ _ _ rfl Dz.out.2.1 Tryz.underlying57 rfl sizeChange ?_
      (try simp only [Act.put, List.setIfInBounds_toArray, List.set_cons_zero, List.set_cons_succ])
      refine wpList_store_row rfl 57 (.tmp 2) (.tmp 119) rfl w.heap.size _ _ #[.int .i64 a1, .int .i64 a2, .int .i64 sq, .slice ad ds.length cd, .int .i64 2, .int .i64 n1, .int .i64 n2, .int .i64 p1, .int .i64 p2, .int .i64 f1, .int .i64 f2, .string ⟨#[]⟩, .string ⟨#[]⟩] rfl rfl Dz.out.1 sizeChange rfl (by simp [Value.oneCell']) ?_
      (try simp only [Act.put, List.setIfInBounds_toArray, List.set_cons_zero, List.set_cons_succ])
      go_wp2
      (try simp only [Exit.inBlock, Exit.then])
      refine bodyPost_ret (v := .tuple #[.agg #[.int .i64 a1, .int .i64 a2, .int .i64 sq, .slice ad ds.length cd, .int .i64 2, .int .i64 n1, .int .i64 n2, .int .i64 p1, .int .i64 p2, .int .i64 f1, .int .i64 f2, .string ⟨#[]⟩, .string ⟨#[]⟩], .int .i64 0]) ?rA2 rfl ?pA2
      case rA2 => exact results_cell_row2 rfl _ _ w.heap.size _ _ _ _ rfl (setRow_same Dz.out.1) Tryz.underlying57 rfl (by kernel_rfl) rfl
      rw [HE2.out]
      exact ⟨.slice ad ds.length cd, rfl, (Qz.out.1.keep fun j hj _ => setRow_other w8 w.heap.size j _ (by have := Qz.out.2; have := Dz.out.2.2.2.2; omega)).cut hwN, below_setRow Dz.out.2.2.2.1 (Nat.le_refl _) _⟩
    · have HE2 : Hid (getF p = (Ch.none, 2)) := HE
      subst ee0
      clear HE HCB
      have q0 : (txt B).toList ≠ (txt p).toList := fun h => eB (by simpa [ByteArray.toList_eq, txt] using h)
      have q1 : ((txt B).toList != (txt p).toList) = true := by simpa using q0
      have q2 : ((txt B).toList == (txt p).toList) = false := by simpa using q0
      clear eB
      go_upto_region 19 with fail
      go_step
      refine wpList_plain rfl (fun K hK => ?_)
      go_simp
      refine hK _ _ ?_
      clear hK K
      refine wpList_store_row rfl 57 (.tmp 2) (.tmp 118) rfl w.heap.size _ _ #[.int .i64 0, .int .i64 0, .int .i64 0, .slice none 0 0, .int .i64 0, .int .i64 0, .int .i64 0, .int .i64 0, .int .i64 0, .int .i64 0, .int .i64 0, .string ⟨#[]⟩, .string ⟨#[]⟩] rfl rfl Dz.out.1 sizeChange rfl (by simp [Value.oneCell']) ?_
      (try simp only [Act.put, List.setIfInBounds_toArray, List.set_cons_zero, List.set_cons_succ])
      go_wp2
      (try simp only [Exit.inBlock, Exit.then])
      refine bodyPost_ret (v := .tuple #[.agg #[.int .i64 0, .int .i64 0, .int .i64 0, .slice none 0 0, .int .i64 0, .int .i64 0, .int .i64 0, .int .i64 0, .int .i64 0, .int .i64 0, .int .i64 0, .string ⟨#[]⟩, .string ⟨#[]⟩], .int .i64 2]) ?rB2 rfl ?pB2
      case rB2 => exact results_cell_row2 rfl _ _ w.heap.size _ _ _ _ rfl (setRow_same Dz.out.1) Tryz.underlying57 rfl (by kernel_rfl) rfl
      rw [HE2.out]
      exact ⟨_, rfl, OwnI.nil0 _ _, below_setRow Dz.out.2.2.2.1 (Nat.le_refl _) _⟩
    · have HE2 : Hid (getF p = (Ch.none, 2)) := HE
      have q1 : (ee != 0) = true := by simp [ee0]
      clear HE HCB ee0
      go_upto_region 19 with fail
      go_step
      refine wpList_plain rfl (fun K hK => ?_)
      go_simp
      refine hK _ _ ?_
      clear hK K
      refine wpList_store_row rfl 57 (.tmp 2) (.tmp 118) rfl w.heap.size _ _ #[.int .i64 0, .int .i64 0, .int .i64 0, .slice none 0 0, .int .i64 0, .int .i64 0, .int .i64 0, .int .i64 0, .int .i64 0, .int .i64 0, .int .i64 0, .string ⟨#[]⟩, .string ⟨#[]⟩] rfl rfl Dz.out.1 sizeChange rfl (by simp [Value.oneCell']) ?_
      (try simp only [Act.put, List.setIfInBounds_toArray, List.set_cons_zero, List.set_cons_succ])
      go_wp2
      (try simp only [Exit.inBlock, Exit.then])
      refine bodyPost_ret (v := .tuple #[.agg #[.int .i64 0, .int .i64 0, .int .i64 0, .slice none 0 0, .int .i64 0, .int .i64 0, .int .i64 0, .int .i64 0, .int .i64 0, .int .i64 0, .int .i64 0, .string ⟨#[]⟩, .string ⟨#[]⟩], .int .i64 2]) ?rC2 rfl ?pC2
      case rC2 => exact results_cell_row2 rfl _ _ w.heap.size _ _ _ _ rfl (setRow_same Dz.out.1) Tryz.underlying57 rfl (by kernel_rfl) rfl
      rw [HE2.out]
      exact ⟨_, rfl, OwnI.nil0 _ _, below_setRow Dz.out.2.2.2.1 (Nat.le_refl _) _⟩
  by_cases q3 : kd = 3
  · subst q3
    clear q1 q2
    obtain ⟨⟨⟨n1, n2⟩, k4, y4⟩, z0⟩ : ∃ r, stampR p k3 y3 = r := ⟨_, rfl⟩
    have hk4 : k4 ≤ p.length := by have := stampR_at p k3 y3 HK3.out; rw [z0] at this; exact this
    obtain ⟨b4, eb4⟩ : ∃ b, badL k4 y4 = b := ⟨_, rfl⟩
    have eb3 := HEB3.out
    obtain ⟨⟨t1, k5, y5⟩, z1⟩ : ∃ r, rdT p k4 y4 (p.length : Int) = r := ⟨_, rfl⟩
    have hk5 : k5 ≤ p.length := by have := rdT_at p k4 y4 (p.length : Int) hk4; rw [z1] at this; exact this
    have ht1 : (t1.length : Int) ≤ (p.length : Int) := by have := rdT_len p k4 y4 (p.length : Int) (by omega); rw [z1] at this; exact this
    obtain ⟨b5, eb5⟩ : ∃ b, badL k5 y5 = b := ⟨_, rfl⟩
    obtain ⟨⟨t2, k6, y6⟩, z2⟩ : ∃ r, rdT p k5 y5 (p.length : Int) = r := ⟨_, rfl⟩
    have hk6 : k6 ≤ p.length := by have := rdT_at p k5 y5 (p.length : Int) hk5; rw [z2] at this; exact this
    obtain ⟨b6, eb6⟩ : ∃ b, badL k6 y6 = b := ⟨_, rfl⟩
    have E0 : Hid (∀ W, Below w.heap.size w W → Calls Tryz.prog 45 #[.agg #[.slice a p.length cap, .int .i64 (k3 : Int), .int .i64 y3, .int .i64 b3]] W fun e w' => e = .returned (.tuple #[.agg #[.slice a p.length cap, .int .i64 (k4 : Int), .int .i64 y4, .int .i64 b4], .agg #[.int .i64 n1, .int .i64 n2]]) ∧ Below W.heap.size W w') := fun W hb => by
      have := refStampN_any a cap p k3 y3 W (HP.out.below hb) HK3.out
      rw [z0] at this
      simp only [refR, eb3, eb4] at this
      exact this
    have E1 : Hid (∀ W, Below w.heap.size w W → Calls Tryz.prog 21 #[.agg #[.slice a p.length cap, .int .i64 (k4 : Int), .int .i64 y4, .int .i64 b4], .int .i64 (p.length : Int)] W fun e w' => e = .returned (.tuple #[.agg #[.slice a p.length cap, .int .i64 (k5 : Int), .int .i64 y5, .int .i64 b5], .string (txt t1)]) ∧ Below W.heap.size W w') := fun W hb => by
      have := refText_any a cap p k4 y4 (p.length : Int) W (HP.out.below hb) hk4
      rw [z1] at this
      simp only [refR, eb4, eb5] at this
      exact this
    have E2 : Hid (∀ W, Below w.heap.size w W → Calls Tryz.prog 21 #[.agg #[.slice a p.length cap, .int .i64 (k5 : Int), .int .i64 y5, .int .i64 b5], .int .i64 (p.length : Int)] W fun e w' => e = .returned (.tuple #[.agg #[.slice a p.length cap, .int .i64 (k6 : Int), .int .i64 y6, .int .i64 b6], .string (txt t2)]) ∧ Below W.heap.size W w') := fun W hb => by
      have := refText_any a cap p k5 y5 (p.length : Int) W (HP.out.below hb) hk5
      rw [z2] at this
      simp only [refR, eb5, eb6] at this
      exact this
    have HE0 : restR 3 (a1, a2) (p.length : Int) (p.length : Int) p k3 y3 = (((n1, n2), (0, 0), (0, 0), t1, t2), k6, y6) := by simp [restR, seqR, pureR, z0, z1, z2]
    have HG : Hid (∀ c, checkCh c = 0 → bytesCh c = p → (⟨a1, a2, sq, ds, 3, n1, n2, 0, 0, 0, 0, (txt t1), (txt t2)⟩ : Ch) = c) := get_only hlp (HES.out _ _ _ HE0)
    clear HE0 HES
    have HCA := got_cases HG.out
    have hPl := putCh_le (⟨a1, a2, sq, ds, 3, n1, n2, 0, 0, 0, 0, (txt t1), (txt t2)⟩ : Ch)
    obtain ⟨⟨B, ee⟩, eP⟩ : ∃ r, putCh (⟨a1, a2, sq, ds, 3, n1, n2, 0, 0, 0, 0, (txt t1), (txt t2)⟩ : Ch) = r := ⟨_, rfl⟩
    have CP : Hid (∀ W, IsI W (.slice ad ds.length cd) ds → Calls Tryz.prog 46 #[.agg #[.int .i64 a1, .int .i64 a2, .int .i64 sq, .slice ad ds.length cd, .int .i64 3, .int .i64 n1, .int .i64 n2, .int .i64 0, .int .i64 0, .int .i64 0, .int .i64 0, .string (txt t1), .string (txt t2)]] W fun e w' => ∃ v, e = .returned (.tuple #[v, .int .i64 ee]) ∧ OwnB W.heap.size w' v B ∧ Below W.heap.size W w') := fun W hW => by
      have := refPutCh_any a1 a2 sq ad ds cd 3 n1 n2 0 0 0 0 ((txt t1)) ((txt t2)) (by show t1.toArray.size ≤ _; simp; omega) W hW
      rw [eP] at this
      exact this
    rw [eP] at HCA hPl
    simp only at HCA hPl
    have HCB : Hid ((ee = 0 ∧ B = p ∧ getF p = ((⟨a1, a2, sq, ds, 3, n1, n2, 0, 0, 0, 0, (txt t1), (txt t2)⟩ : Ch), 0)) ∨ (ee = 0 ∧ B ≠ p ∧ getF p = (Ch.none, 2)) ∨ (ee ≠ 0 ∧ getF p = (Ch.none, 2))) := HCA
    have hBl : B.length ≤ 281474976710656 := Nat.le_trans hPl (by decide)
    clear eP HCA hPl HG z0 z1 z2 hk4 hk5 hk6 eb4 eb5 eb6 eb3 ht1
    obtain ⟨c_0, c_1, c_2, c_3, c_4, c_5, c_6, c_7, c_8, c_9, c_10, c_11, c_12⟩ := D5.out.cells
    go_upto_region 9 with fail
    clear c_0 c_1 c_2 c_3 c_4 c_5 c_6 c_7 c_8 c_9 c_10 c_11 c_12
    go_step
    refine wpList_load_row rfl 46 (.tmp 5) rfl gr _ _ _ rfl D5.out.2.2.1 Tryz.underlying46 rfl sizeReader ?_
    (try simp only [Act.put, List.setIfInBounds_toArray, List.set_cons_zero, List.set_cons_succ])
    go_wp2_with fail
    refine (E0.out _ D5.out.2.2.2.1).mono ?_
    rintro e w9 ⟨rfl, hb⟩
    have Qa : Hid (DQ N gc gr w9 (.slice ad ds.length cd) ds) := Q5.out.call hb
    have Ra : Hid (DS w gc gr #[.int .i64 a1, .int .i64 a2, .int .i64 sq, .slice ad ds.length cd, .int .i64 3, .int .i64 0, .int .i64 0, .int .i64 0, .int .i64 0, .int .i64 0, .int .i64 0, .string ⟨#[]⟩, .string ⟨#[]⟩] #[.slice a p.length cap, .int .i64 (k3 : Int), .int .i64 y3, .int .i64 b3] w9) := D5.out.call hb
    have Rb : Hid (DS w gc gr #[.int .i64 a1, .int .i64 a2, .int .i64 sq, .slice ad ds.length cd, .int .i64 3, .int .i64 0, .int .i64 0, .int .i64 0, .int .i64 0, .int .i64 0, .int .i64 0, .string ⟨#[]⟩, .string ⟨#[]⟩] #[.slice a p.length cap, .int .i64 (k4 : Int), .int .i64 y4, .int .i64 b4] (w9.setRow gr #[.slice a p.length cap, .int .i64 (k4 : Int), .int .i64 y4, .int .i64 b4])) := Ra.out.setR _
    clear hb D5
    obtain ⟨c_0, c_1, c_2, c_3, c_4, c_5, c_6, c_7, c_8, c_9, c_10, c_11, c_12⟩ := Rb.out.cells
    have f_5 := Rb.out.free 5
    have f_6 := Rb.out.free 6
    have D6 : Hid (DS w gc gr #[.int .i64 a1, .int .i64 a2, .int .i64 sq, .slice ad ds.length cd, .int .i64 3, .int .i64 n1, .int .i64 n2, .int .i64 0, .int .i64 0, .int .i64 0, .int .i64 0, .string ⟨#[]⟩, .string ⟨#[]⟩] #[.slice a p.length cap, .int .i64 (k4 : Int), .int .i64 y4, .int .i64 b4] (((w9.setRow gr #[.slice a p.length cap, .int .i64 (k4 : Int), .int .i64 y4, .int .i64 b4]).setCell ⟨gc, 5, none⟩ (.int .i64 n1)).setCell ⟨gc, 6, none⟩ (.int .i64 n2))) := by
      have h0 := ((Rb.out.set 5 (.int .i64 n1)).set 6 (.int .i64 n2))
      simp only [List.setIfInBounds_toArray, List.set_cons_zero, List.set_cons_succ] at h0
      exact h0
    have Q6 : Hid (DQ N gc gr (((w9.setRow gr #[.slice a p.length cap, .int .i64 (k4 : Int), .int .i64 y4, .int .i64 b4]).setCell ⟨gc, 5, none⟩ (.int .i64 n1)).setCell ⟨gc, 6, none⟩ (.int .i64 n2)) (.slice ad ds.length cd) ds) := (((Qa.out.setR _).set 5 (.int .i64 n1)).set 6 (.int .i64 n2))
    clear c_0 c_1 c_2 c_3 c_7 c_8 c_9 c_10 c_11 c_12 Qa Q5
    rename_i hKq
    refine hKq _ _ ?_
    clear hKq
    (try simp only [Act.put, List.setIfInBounds_toArray, List.set_cons_zero, List.set_cons_succ])
    refine wpList_plain rfl (fun K hK => ?_)
    go_simp
    refine hK _ _ ?_
    clear hK K
    refine wpList_plain rfl (fun K hK => ?_)
    go_simp
    refine hK _ _ ?_
    clear hK K
    refine wpList_plain rfl (fun K hK => ?_)
    go_simp
    refine hK _ _ ?_
    clear hK K
    refine wpList_store_row rfl 46 (.tmp 5) (.tmp 44) rfl gr _ _ #[.slice a p.length cap, .int .i64 (k4 : Int), .int .i64 y4, .int .i64 b4] rfl rfl Ra.out.2.2.1 sizeReader rfl (by simp [Value.oneCell']) ?_
    (try simp only [Act.put, List.setIfInBounds_toArray, List.set_cons_zero, List.set_cons_succ])
    refine wpList_plain rfl (fun K hK => ?_)
    go_simp
    refine hK _ _ ?_
    clear hK K
    refine wpList_plain rfl (fun K hK => ?_)
    go_simp
    refine hK _ _ ?_
    clear hK K
    go_upto_region 14 with fail
    clear Ra Rb c_4 c_5 c_6 f_5 f_6
    obtain ⟨W6, eW⟩ : ∃ X, X = (((w9.setRow gr #[.slice a p.length cap, .int .i64 (k4 : Int), .int .i64 y4, .int .i64 b4]).setCell ⟨gc, 5, none⟩ (.int .i64 n1)).setCell ⟨gc, 6, none⟩ (.int .i64 n2)) := ⟨_, rfl⟩
    rw [← eW] at D6 Q6 ⊢
    clear eW
    go_step
    refine wpList_load_row rfl 46 (.tmp 5) rfl gr _ _ _ rfl D6.out.2.2.1 Tryz.underlying46 rfl sizeReader ?_
    (try simp only [Act.put, List.setIfInBounds_toArray, List.set_cons_zero, List.set_cons_succ])
    go_wp2_with fail
    refine (E1.out _ D6.out.2.2.2.1).mono ?_
    rintro e w9 ⟨rfl, hb⟩
    have Qa : Hid (DQ N gc gr w9 (.slice ad ds.length cd) ds) := Q6.out.call hb
    have Ra : Hid (DS w gc gr #[.int .i64 a1, .int .i64 a2, .int .i64 sq, .slice ad ds.length cd, .int .i64 3, .int .i64 n1, .int .i64 n2, .int .i64 0, .int .i64 0, .int .i64 0, .int .i64 0, .string ⟨#[]⟩, .string ⟨#[]⟩] #[.slice a p.length cap, .int .i64 (k4 : Int), .int .i64 y4, .int .i64 b4] w9) := D6.out.call hb
    have Rb : Hid (DS w gc gr #[.int .i64 a1, .int .i64 a2, .int .i64 sq, .slice ad ds.length cd, .int .i64 3, .int .i64 n1, .int .i64 n2, .int .i64 0, .int .i64 0, .int .i64 0, .int .i64 0, .string ⟨#[]⟩, .string ⟨#[]⟩] #[.slice a p.length cap, .int .i64 (k5 : Int), .int .i64 y5, .int .i64 b5] (w9.setRow gr #[.slice a p.length cap, .int .i64 (k5 : Int), .int .i64 y5, .int .i64 b5])) := Ra.out.setR _
    clear hb D6
    obtain ⟨c_0, c_1, c_2, c_3, c_4, c_5, c_6, c_7, c_8, c_9, c_10, c_11, c_12⟩ := Rb.out.cells
    have f_11 := Rb.out.free 11
    have D7 : Hid (DS w gc gr #[.int .i64 a1, .int .i64 a2, .int .i64 sq, .slice ad ds.length cd, .int .i64 3, .int .i64 n1, .int .i64 n2, .int .i64 0, .int .i64 0, .int .i64 0, .int .i64 0, .string (txt t1), .string ⟨#[]⟩] #[.slice a p.length cap, .int .i64 (k5 : Int), .int .i64 y5, .int .i64 b5] ((w9.setRow gr #[.slice a p.length cap, .int .i64 (k5 : Int), .int .i64 y5, .int .i64 b5]).setCell ⟨gc, 11, none⟩ (.string (txt t1)))) := by
      have h0 := (Rb.out.set 11 (.string (txt t1)))
      simp only [List.setIfInBounds_toArray, List.set_cons_zero, List.set_cons_succ] at h0
      exact h0
    have Q7 : Hid (DQ N gc gr ((w9.setRow gr #[.slice a p.length cap, .int .i64 (k5 : Int), .int .i64 y5, .int .i64 b5]).setCell ⟨gc, 11, none⟩ (.string (txt t1))) (.slice ad ds.length cd) ds) := ((Qa.out.setR _).set 11 (.string (txt t1)))
    clear c_0 c_1 c_2 c_3 c_5 c_6 c_7 c_8 c_9 c_10 c_12 Qa Q6
    rename_i hKq
    refine hKq _ _ ?_
    clear hKq
    (try simp only [Act.put, List.setIfInBounds_toArray, List.set_cons_zero, List.set_cons_succ])
    refine wpList_plain rfl (fun K hK => ?_)
    go_simp
    refine hK _ _ ?_
    clear hK K
    refine wpList_plain rfl (fun K hK => ?_)
    go_simp
    refine hK _ _ ?_
    clear hK K
    refine wpList_plain rfl (fun K hK => ?_)
    go_simp
    refine hK _ _ ?_
    clear hK K
    refine wpList_store_row rfl 46 (.tmp 5) (.tmp 85) rfl gr _ _ #[.slice a p.length cap, .int .i64 (k5 : Int), .int .i64 y5, .int .i64 b5] rfl rfl Ra.out.2.2.1 sizeReader rfl (by simp [Value.oneCell']) ?_
    (try simp only [Act.put, List.setIfInBounds_toArray, List.set_cons_zero, List.set_cons_succ])
    refine wpList_plain rfl (fun K hK => ?_)
    go_simp
    refine hK _ _ ?_
    clear hK K
    refine wpList_plain rfl (fun K hK => ?_)
    go_simp
    refine hK _ _ ?_
    clear hK K
    go_upto_region 16 with fail
    clear Ra Rb c_4 c_11 f_11
    obtain ⟨W7, eW⟩ : ∃ X, X = ((w9.setRow gr #[.slice a p.length cap, .int .i64 (k5 : Int), .int .i64 y5, .int .i64 b5]).setCell ⟨gc, 11, none⟩ (.string (txt t1))) := ⟨_, rfl⟩
    rw [← eW] at D7 Q7 ⊢
    clear eW
    go_step
    refine wpList_load_row rfl 46 (.tmp 5) rfl gr _ _ _ rfl D7.out.2.2.1 Tryz.underlying46 rfl sizeReader ?_
    (try simp only [Act.put, List.setIfInBounds_toArray, List.set_cons_zero, List.set_cons_succ])
    go_wp2_with fail
    refine (E2.out _ D7.out.2.2.2.1).mono ?_
    rintro e w9 ⟨rfl, hb⟩
    have Qa : Hid (DQ N gc gr w9 (.slice ad ds.length cd) ds) := Q7.out.call hb
    have Ra : Hid (DS w gc gr #[.int .i64 a1, .int .i64 a2, .int .i64 sq, .slice ad ds.length cd, .int .i64 3, .int .i64 n1, .int .i64 n2, .int .i64 0, .int .i64 0, .int .i64 0, .int .i64 0, .string (txt t1), .string ⟨#[]⟩] #[.slice a p.length cap, .int .i64 (k5 : Int), .int .i64 y5, .int .i64 b5] w9) := D7.out.call hb
    have Rb : Hid (DS w gc gr #[.int .i64 a1, .int .i64 a2, .int .i64 sq, .slice ad ds.length cd, .int .i64 3, .int .i64 n1, .int .i64 n2, .int .i64 0, .int .i64 0, .int .i64 0, .int .i64 0, .string (txt t1), .string ⟨#[]⟩] #[.slice a p.length cap, .int .i64 (k6 : Int), .int .i64 y6, .int .i64 b6] (w9.setRow gr #[.slice a p.length cap, .int .i64 (k6 : Int), .int .i64 y6, .int .i64 b6])) := Ra.out.setR _
    clear hb D7
    obtain ⟨c_0, c_1, c_2, c_3, c_4, c_5, c_6, c_7, c_8, c_9, c_10, c_11, c_12⟩ := Rb.out.cells
    have f_12 := Rb.out.free 12
    have D8 : Hid (DS w gc gr #[.int .i64 a1, .int .i64 a2, .int .i64 sq, .slice ad ds.length cd, .int .i64 3, .int .i64 n1, .int .i64 n2, .int .i64 0, .int .i64 0, .int .i64 0, .int .i64 0, .string (txt t1), .string (txt t2)] #[.slice a p.length cap, .int .i64 (k6 : Int), .int .i64 y6, .int .i64 b6] ((w9.setRow gr #[.slice a p.length cap, .int .i64 (k6 : Int), .int .i64 y6, .int .i64 b6]).setCell ⟨gc, 12, none⟩ (.string (txt t2)))) := by
      have h0 := (Rb.out.set 12 (.string (txt t2)))
      simp only [List.setIfInBounds_toArray, List.set_cons_zero, List.set_cons_succ] at h0
      exact h0
    have Q8 : Hid (DQ N gc gr ((w9.setRow gr #[.slice a p.length cap, .int .i64 (k6 : Int), .int .i64 y6, .int .i64 b6]).setCell ⟨gc, 12, none⟩ (.string (txt t2))) (.slice ad ds.length cd) ds) := ((Qa.out.setR _).set 12 (.string (txt t2)))
    clear c_0 c_1 c_2 c_3 c_5 c_6 c_7 c_8 c_9 c_10 c_11 Qa Q7
    rename_i hKq
    refine hKq _ _ ?_
    clear hKq
    (try simp only [Act.put, List.setIfInBounds_toArray, List.set_cons_zero, List.set_cons_succ])
    refine wpList_plain rfl (fun K hK => ?_)
    go_simp
    refine hK _ _ ?_
    clear hK K
    refine wpList_plain rfl (fun K hK => ?_)
    go_simp
    refine hK _ _ ?_
    clear hK K
    refine wpList_plain rfl (fun K hK => ?_)
    go_simp
    refine hK _ _ ?_
    clear hK K
    refine wpList_store_row rfl 46 (.tmp 5) (.tmp 101) rfl gr _ _ #[.slice a p.length cap, .int .i64 (k6 : Int), .int .i64 y6, .int .i64 b6] rfl rfl Ra.out.2.2.1 sizeReader rfl (by simp [Value.oneCell']) ?_
    (try simp only [Act.put, List.setIfInBounds_toArray, List.set_cons_zero, List.set_cons_succ])
    refine wpList_plain rfl (fun K hK => ?_)
    go_simp
    refine hK _ _ ?_
    clear hK K
    refine wpList_plain rfl (fun K hK => ?_)
    go_simp
    refine hK _ _ ?_
    clear hK K
    go_upto_region 17 with fail
    clear Ra Rb c_4 c_12 f_12
    obtain ⟨W8, eW⟩ : ∃ X, X = ((w9.setRow gr #[.slice a p.length cap, .int .i64 (k6 : Int), .int .i64 y6, .int .i64 b6]).setCell ⟨gc, 12, none⟩ (.string (txt t2))) := ⟨_, rfl⟩
    rw [← eW] at D8 Q8 ⊢
    clear eW
    go_step
    refine wpList_load_row rfl 57 (.tmp 4) rfl gc _ _ _ rfl D8.out.2.1 Tryz.underlying57 rfl sizeChange ?_
    (try simp only [Act.put, List.setIfInBounds_toArray, List.set_cons_zero, List.set_cons_succ])
    go_wp2_with fail
    refine (CP.out _ (Q8.out.1.isI (by omega))).mono ?_
    rintro e w8 ⟨v8, rfl, o8, hb⟩
    have Dz : Hid (DS w gc gr #[.int .i64 a1, .int .i64 a2, .int .i64 sq, .slice ad ds.length cd, .int .i64 3, .int .i64 n1, .int .i64 n2, .int .i64 0, .int .i64 0, .int .i64 0, .int .i64 0, .string (txt t1), .string (txt t2)] #[.slice a p.length cap, .int .i64 (k6 : Int), .int .i64 y6, .int .i64 b6] w8) := D8.out.call hb
    have Qz : Hid (DQ N gc gr w8 (.slice ad ds.length cd) ds) := Q8.out.call hb
    have cv1 := conv_txt (o8.isB hBl)
    have cv2 := conv_txt (HP.out.below Dz.out.2.2.2.1)
    clear o8 hb D8 Q8 CP E0 E1 E2
    rcases HCB.out with ⟨ee0, eB, HE⟩ | ⟨ee0, eB, HE⟩ | ⟨ee0, HE⟩
    · have HE2 : Hid (getF p = ((⟨a1, a2, sq, ds, 3, n1, n2, 0, 0, 0, 0, (txt t1), (txt t2)⟩ : Ch), 0)) := HE
      subst ee0 eB
      clear HE HCB
      have q1 : ((txt B).toList != (txt B).toList) = false := by simp
      have q2 : ((txt B).toList == (txt B).toList) = true := by simp
      go_upto_region 20 with fail
      go_step
      refine wpList_load_row rfl 57 (.tmp 4) rfl gc _ _ _ rfl Dz.out.2.1 Tryz.underlying57 rfl sizeChange ?_
      (try simp only [Act.put, List.setIfInBounds_toArray, List.set_cons_zero, List.set_cons_succ])
      refine wpList_store_row rfl 57 (.tmp 2) (.tmp 119) rfl w.heap.size _ _ #[.int .i64 a1, .int .i64 a2, .int .i64 sq, .slice ad ds.length cd, .int .i64 3, .int .i64 n1, .int .i64 n2, .int .i64 0, .int .i64 0, .int .i64 0, .int .i64 0, .string (txt t1), .string (txt t2)] rfl rfl Dz.out.1 sizeChange rfl (by simp [Value.oneCell']) ?_
      (try simp only [Act.put, List.setIfInBounds_toArray, List.set_cons_zero, List.set_cons_succ])
      go_wp2
      (try simp only [Exit.inBlock, Exit.then])
      refine bodyPost_ret (v := .tuple #[.agg #[.int .i64 a1, .int .i64 a2, .int .i64 sq, .slice ad ds.length cd, .int .i64 3, .int .i64 n1, .int .i64 n2, .int .i64 0, .int .i64 0, .int .i64 0, .int .i64 0, .string (txt t1), .string (txt t2)], .int .i64 0]) ?rA3 rfl ?pA3
      case rA3 => exact results_cell_row2 rfl _ _ w.heap.size _ _ _ _ rfl (setRow_same Dz.out.1) Tryz.underlying57 rfl (by kernel_rfl) rfl
      rw [HE2.out]
      exact ⟨.slice ad ds.length cd, rfl, (Qz.out.1.keep fun j hj _ => setRow_other w8 w.heap.size j _ (by have := Qz.out.2; have := Dz.out.2.2.2.2; omega)).cut hwN, below_setRow Dz.out.2.2.2.1 (Nat.le_refl _) _⟩
    · have HE2 : Hid (getF p = (Ch.none, 2)) := HE
      subst ee0
      clear HE HCB
      have q0 : (txt B).toList ≠ (txt p).toList := fun h => eB (by simpa [ByteArray.toList_eq, txt] using h)
      have q1 : ((txt B).toList != (txt p).toList) = true := by simpa using q0
      have q2 : ((txt B).toList == (txt p).toList) = false := by simpa using q0
      clear eB
      go_upto_region 19 with fail
      go_step
      refine wpList_plain rfl (fun K hK => ?_)
      go_simp
      refine hK _ _ ?_
      clear hK K
      refine wpList_store_row rfl 57 (.tmp 2) (.tmp 118) rfl w.heap.size _ _ #[.int .i64 0, .int .i64 0, .int .i64 0, .slice none 0 0, .int .i64 0, .int .i64 0, .int .i64 0, .int .i64 0, .int .i64 0, .int .i64 0, .int .i64 0, .string ⟨#[]⟩, .string ⟨#[]⟩] rfl rfl Dz.out.1 sizeChange rfl (by simp [Value.oneCell']) ?_
      (try simp only [Act.put, List.setIfInBounds_toArray, List.set_cons_zero, List.set_cons_succ])
      go_wp2
      (try simp only [Exit.inBlock, Exit.then])
      refine bodyPost_ret (v := .tuple #[.agg #[.int .i64 0, .int .i64 0, .int .i64 0, .slice none 0 0, .int .i64 0, .int .i64 0, .int .i64 0, .int .i64 0, .int .i64 0, .int .i64 0, .int .i64 0, .string ⟨#[]⟩, .string ⟨#[]⟩], .int .i64 2]) ?rB3 rfl ?pB3
      case rB3 => exact results_cell_row2 rfl _ _ w.heap.size _ _ _ _ rfl (setRow_same Dz.out.1) Tryz.underlying57 rfl (by kernel_rfl) rfl
      rw [HE2.out]
      exact ⟨_, rfl, OwnI.nil0 _ _, below_setRow Dz.out.2.2.2.1 (Nat.le_refl _) _⟩
    · have HE2 : Hid (getF p = (Ch.none, 2)) := HE
      have q1 : (ee != 0) = true := by simp [ee0]
      clear HE HCB ee0
      go_upto_region 19 with fail
      go_step
      refine wpList_plain rfl (fun K hK => ?_)
      go_simp
      refine hK _ _ ?_
      clear hK K
      refine wpList_store_row rfl 57 (.tmp 2) (.tmp 118) rfl w.heap.size _ _ #[.int .i64 0, .int .i64 0, .int .i64 0, .slice none 0 0, .int .i64 0, .int .i64 0, .int .i64 0, .int .i64 0, .int .i64 0, .int .i64 0, .int .i64 0, .string ⟨#[]⟩, .string ⟨#[]⟩] rfl rfl Dz.out.1 sizeChange rfl (by simp [Value.oneCell']) ?_
      (try simp only [Act.put, List.setIfInBounds_toArray, List.set_cons_zero, List.set_cons_succ])
      go_wp2
      (try simp only [Exit.inBlock, Exit.then])
      refine bodyPost_ret (v := .tuple #[.agg #[.int .i64 0, .int .i64 0, .int .i64 0, .slice none 0 0, .int .i64 0, .int .i64 0, .int .i64 0, .int .i64 0, .int .i64 0, .int .i64 0, .int .i64 0, .string ⟨#[]⟩, .string ⟨#[]⟩], .int .i64 2]) ?rC3 rfl ?pC3
      case rC3 => exact results_cell_row2 rfl _ _ w.heap.size _ _ _ _ rfl (setRow_same Dz.out.1) Tryz.underlying57 rfl (by kernel_rfl) rfl
      rw [HE2.out]
      exact ⟨_, rfl, OwnI.nil0 _ _, below_setRow Dz.out.2.2.2.1 (Nat.le_refl _) _⟩
  by_cases q4 : kd = 4
  · subst q4
    clear q1 q2 q3
    obtain ⟨⟨⟨n1, n2⟩, k4, y4⟩, z0⟩ : ∃ r, stampR p k3 y3 = r := ⟨_, rfl⟩
    have hk4 : k4 ≤ p.length := by have := stampR_at p k3 y3 HK3.out; rw [z0] at this; exact this
    obtain ⟨b4, eb4⟩ : ∃ b, badL k4 y4 = b := ⟨_, rfl⟩
    have eb3 := HEB3.out
    obtain ⟨⟨t1, k5, y5⟩, z1⟩ : ∃ r, rdT p k4 y4 (p.length : Int) = r := ⟨_, rfl⟩
    have hk5 : k5 ≤ p.length := by have := rdT_at p k4 y4 (p.length : Int) hk4; rw [z1] at this; exact this
    have ht1 : (t1.length : Int) ≤ (p.length : Int) := by have := rdT_len p k4 y4 (p.length : Int) (by omega); rw [z1] at this; exact this
    obtain ⟨b5, eb5⟩ : ∃ b, badL k5 y5 = b := ⟨_, rfl⟩
    have E0 : Hid (∀ W, Below w.heap.size w W → Calls Tryz.prog 45 #[.agg #[.slice a p.length cap, .int .i64 (k3 : Int), .int .i64 y3, .int .i64 b3]] W fun e w' => e = .returned (.tuple #[.agg #[.slice a p.length cap, .int .i64 (k4 : Int), .int .i64 y4, .int .i64 b4], .agg #[.int .i64 n1, .int .i64 n2]]) ∧ Below W.heap.size W w') := fun W hb => by
      have := refStampN_any a cap p k3 y3 W (HP.out.below hb) HK3.out
      rw [z0] at this
      simp only [refR, eb3, eb4] at this
      exact this
    have E1 : Hid (∀ W, Below w.heap.size w W → Calls Tryz.prog 21 #[.agg #[.slice a p.length cap, .int .i64 (k4 : Int), .int .i64 y4, .int .i64 b4], .int .i64 (p.length : Int)] W fun e w' => e = .returned (.tuple #[.agg #[.slice a p.length cap, .int .i64 (k5 : Int), .int .i64 y5, .int .i64 b5], .string (txt t1)]) ∧ Below W.heap.size W w') := fun W hb => by
      have := refText_any a cap p k4 y4 (p.length : Int) W (HP.out.below hb) hk4
      rw [z1] at this
      simp only [refR, eb4, eb5] at this
      exact this
    have HE0 : restR 4 (a1, a2) (p.length : Int) (p.length : Int) p k3 y3 = (((n1, n2), (0, 0), (0, 0), t1, []), k5, y5) := by simp [restR, seqR, pureR, z0, z1]
    have HG : Hid (∀ c, checkCh c = 0 → bytesCh c = p → (⟨a1, a2, sq, ds, 4, n1, n2, 0, 0, 0, 0, (txt t1), ⟨#[]⟩⟩ : Ch) = c) := get_only hlp (HES.out _ _ _ HE0)
    clear HE0 HES
    have HCA := got_cases HG.out
    have hPl := putCh_le (⟨a1, a2, sq, ds, 4, n1, n2, 0, 0, 0, 0, (txt t1), ⟨#[]⟩⟩ : Ch)
    obtain ⟨⟨B, ee⟩, eP⟩ : ∃ r, putCh (⟨a1, a2, sq, ds, 4, n1, n2, 0, 0, 0, 0, (txt t1), ⟨#[]⟩⟩ : Ch) = r := ⟨_, rfl⟩
    have CP : Hid (∀ W, IsI W (.slice ad ds.length cd) ds → Calls Tryz.prog 46 #[.agg #[.int .i64 a1, .int .i64 a2, .int .i64 sq, .slice ad ds.length cd, .int .i64 4, .int .i64 n1, .int .i64 n2, .int .i64 0, .int .i64 0, .int .i64 0, .int .i64 0, .string (txt t1), .string ⟨#[]⟩]] W fun e w' => ∃ v, e = .returned (.tuple #[v, .int .i64 ee]) ∧ OwnB W.heap.size w' v B ∧ Below W.heap.size W w') := fun W hW => by
      have := refPutCh_any a1 a2 sq ad ds cd 4 n1 n2 0 0 0 0 ((txt t1)) ⟨#[]⟩ (by show t1.toArray.size ≤ _; simp; omega) W hW
      rw [eP] at this
      exact this
    rw [eP] at HCA hPl
    simp only at HCA hPl
    have HCB : Hid ((ee = 0 ∧ B = p ∧ getF p = ((⟨a1, a2, sq, ds, 4, n1, n2, 0, 0, 0, 0, (txt t1), ⟨#[]⟩⟩ : Ch), 0)) ∨ (ee = 0 ∧ B ≠ p ∧ getF p = (Ch.none, 2)) ∨ (ee ≠ 0 ∧ getF p = (Ch.none, 2))) := HCA
    have hBl : B.length ≤ 281474976710656 := Nat.le_trans hPl (by decide)
    clear eP HCA hPl HG z0 z1 hk4 hk5 eb4 eb5 eb3 ht1
    obtain ⟨c_0, c_1, c_2, c_3, c_4, c_5, c_6, c_7, c_8, c_9, c_10, c_11, c_12⟩ := D5.out.cells
    go_upto_region 9 with fail
    clear c_0 c_1 c_2 c_3 c_4 c_5 c_6 c_7 c_8 c_9 c_10 c_11 c_12
    go_step
    refine wpList_load_row rfl 46 (.tmp 5) rfl gr _ _ _ rfl D5.out.2.2.1 Tryz.underlying46 rfl sizeReader ?_
    (try simp only [Act.put, List.setIfInBounds_toArray, List.set_cons_zero, List.set_cons_succ])
    go_wp2_with fail
    refine (E0.out _ D5.out.2.2.2.1).mono ?_
    rintro e w9 ⟨rfl, hb⟩
    have Qa : Hid (DQ N gc gr w9 (.slice ad ds.length cd) ds) := Q5.out.call hb
    have Ra : Hid (DS w gc gr #[.int .i64 a1, .int .i64 a2, .int .i64 sq, .slice ad ds.length cd, .int .i64 4, .int .i64 0, .int .i64 0, .int .i64 0, .int .i64 0, .int .i64 0, .int .i64 0, .string ⟨#[]⟩, .string ⟨#[]⟩] #[.slice a p.length cap, .int .i64 (k3 : Int), .int .i64 y3, .int .i64 b3] w9) := D5.out.call hb
    have Rb : Hid (DS w gc gr #[.int .i64 a1, .int .i64 a2, .int .i64 sq, .slice ad ds.length cd, .int .i64 4, .int .i64 0, .int .i64 0, .int .i64 0, .int .i64 0, .int .i64 0, .int .i64 0, .string ⟨#[]⟩, .string ⟨#[]⟩] #[.slice a p.length cap, .int .i64 (k4 : Int), .int .i64 y4, .int .i64 b4] (w9.setRow gr #[.slice a p.length cap, .int .i64 (k4 : Int), .int .i64 y4, .int .i64 b4])) := Ra.out.setR _
    clear hb D5
    obtain ⟨c_0, c_1, c_2, c_3, c_4, c_5, c_6, c_7, c_8, c_9, c_10, c_11, c_12⟩ := Rb.out.cells
    have f_5 := Rb.out.free 5
    have f_6 := Rb.out.free 6
    have D6 : Hid (DS w gc gr #[.int .i64 a1, .int .i64 a2, .int .i64 sq, .slice ad ds.length cd, .int .i64 4, .int .i64 n1, .int .i64 n2, .int .i64 0, .int .i64 0, .int .i64 0, .int .i64 0, .string ⟨#[]⟩, .string ⟨#[]⟩] #[.slice a p.length cap, .int .i64 (k4 : Int), .int .i64 y4, .int .i64 b4] (((w9.setRow gr #[.slice a p.length cap, .int .i64 (k4 : Int), .int .i64 y4, .int .i64 b4]).setCell ⟨gc, 5, none⟩ (.int .i64 n1)).setCell ⟨gc, 6, none⟩ (.int .i64 n2))) := by
      have h0 := ((Rb.out.set 5 (.int .i64 n1)).set 6 (.int .i64 n2))
      simp only [List.setIfInBounds_toArray, List.set_cons_zero, List.set_cons_succ] at h0
      exact h0
    have Q6 : Hid (DQ N gc gr (((w9.setRow gr #[.slice a p.length cap, .int .i64 (k4 : Int), .int .i64 y4, .int .i64 b4]).setCell ⟨gc, 5, none⟩ (.int .i64 n1)).setCell ⟨gc, 6, none⟩ (.int .i64 n2)) (.slice ad ds.length cd) ds) := (((Qa.out.setR _).set 5 (.int .i64 n1)).set 6 (.int .i64 n2))
    clear c_0 c_1 c_2 c_3 c_7 c_8 c_9 c_10 c_11 c_12 Qa Q5
    rename_i hKq
    refine hKq _ _ ?_
    clear hKq
    (try simp only [Act.put, List.setIfInBounds_toArray, List.set_cons_zero, List.set_cons_succ])
    refine wpList_plain rfl (fun K hK => ?_)
    go_simp
    refine hK _ _ ?_
    clear hK K
    refine wpList_plain rfl (fun K hK => ?_)
    go_simp
    refine hK _ _ ?_
    clear hK K
    refine wpList_plain rfl (fun K hK => ?_)
    go_simp
    refine hK _ _ ?_
    clear hK K
    refine wpList_store_row rfl 46 (.tmp 5) (.tmp 44) rfl gr _ _ #[.slice a p.length cap, .int .i64 (k4 : Int), .int .i64 y4, .int .i64 b4] rfl rfl Ra.out.2.2.1 sizeReader rfl (by simp [Value.oneCell']) ?_
    (try simp only [Act.put, List.setIfInBounds_toArray, List.set_cons_zero, List.set_cons_succ])
    refine wpList_plain rfl (fun K hK => ?_)
    go_simp
    refine hK _ _ ?_
    clear hK K
    refine wpList_plain rfl (fun K hK => ?_)
    go_simp
    refine hK _ _ ?_
    clear hK K
    go_upto_region 14 with fail
    clear Ra Rb c_4 c_5 c_6 f_5 f_6
    obtain ⟨W6, eW⟩ : ∃ X, X = (((w9.setRow gr #[.slice a p.length cap, .int .i64 (k4 : Int), .int .i64 y4, .int .i64 b4]).setCell ⟨gc, 5, none⟩ (.int .i64 n1)).setCell ⟨gc, 6, none⟩ (.int .i64 n2)) := ⟨_, rfl⟩
    rw [← eW] at D6 Q6 ⊢
    clear eW
    go_step
    refine wpList_load_row rfl 46 (.tmp 5) rfl gr _ _ _ rfl D6.out.2.2.1 Tryz.underlying46 rfl sizeReader ?_
    (try simp only [Act.put, List.setIfInBounds_toArray, List.set_cons_zero, List.set_cons_succ])
    go_wp2_with fail
    refine (E1.out _ D6.out.2.2.2.1).mono ?_
    rintro e w9 ⟨rfl, hb⟩
    have Qa : Hid (DQ N gc gr w9 (.slice ad ds.length cd) ds) := Q6.out.call hb
    have Ra : Hid (DS w gc gr #[.int .i64 a1, .int .i64 a2, .int .i64 sq, .slice ad ds.length cd, .int .i64 4, .int .i64 n1, .int .i64 n2, .int .i64 0, .int .i64 0, .int .i64 0, .int .i64 0, .string ⟨#[]⟩, .string ⟨#[]⟩] #[.slice a p.length cap, .int .i64 (k4 : Int), .int .i64 y4, .int .i64 b4] w9) := D6.out.call hb
    have Rb : Hid (DS w gc gr #[.int .i64 a1, .int .i64 a2, .int .i64 sq, .slice ad ds.length cd, .int .i64 4, .int .i64 n1, .int .i64 n2, .int .i64 0, .int .i64 0, .int .i64 0, .int .i64 0, .string ⟨#[]⟩, .string ⟨#[]⟩] #[.slice a p.length cap, .int .i64 (k5 : Int), .int .i64 y5, .int .i64 b5] (w9.setRow gr #[.slice a p.length cap, .int .i64 (k5 : Int), .int .i64 y5, .int .i64 b5])) := Ra.out.setR _
    clear hb D6
    obtain ⟨c_0, c_1, c_2, c_3, c_4, c_5, c_6, c_7, c_8, c_9, c_10, c_11, c_12⟩ := Rb.out.cells
    have f_11 := Rb.out.free 11
    have D7 : Hid (DS w gc gr #[.int .i64 a1, .int .i64 a2, .int .i64 sq, .slice ad ds.length cd, .int .i64 4, .int .i64 n1, .int .i64 n2, .int .i64 0, .int .i64 0, .int .i64 0, .int .i64 0, .string (txt t1), .string ⟨#[]⟩] #[.slice a p.length cap, .int .i64 (k5 : Int), .int .i64 y5, .int .i64 b5] ((w9.setRow gr #[.slice a p.length cap, .int .i64 (k5 : Int), .int .i64 y5, .int .i64 b5]).setCell ⟨gc, 11, none⟩ (.string (txt t1)))) := by
      have h0 := (Rb.out.set 11 (.string (txt t1)))
      simp only [List.setIfInBounds_toArray, List.set_cons_zero, List.set_cons_succ] at h0
      exact h0
    have Q7 : Hid (DQ N gc gr ((w9.setRow gr #[.slice a p.length cap, .int .i64 (k5 : Int), .int .i64 y5, .int .i64 b5]).setCell ⟨gc, 11, none⟩ (.string (txt t1))) (.slice ad ds.length cd) ds) := ((Qa.out.setR _).set 11 (.string (txt t1)))
    clear c_0 c_1 c_2 c_3 c_5 c_6 c_7 c_8 c_9 c_10 c_12 Qa Q6
    rename_i hKq
    refine hKq _ _ ?_
    clear hKq
    (try simp only [Act.put, List.setIfInBounds_toArray, List.set_cons_zero, List.set_cons_succ])
    refine wpList_plain rfl (fun K hK => ?_)
    go_simp
    refine hK _ _ ?_
    clear hK K
    refine wpList_plain rfl (fun K hK => ?_)
    go_simp
    refine hK _ _ ?_
    clear hK K
    refine wpList_plain rfl (fun K hK => ?_)
    go_simp
    refine hK _ _ ?_
    clear hK K
    refine wpList_store_row rfl 46 (.tmp 5) (.tmp 85) rfl gr _ _ #[.slice a p.length cap, .int .i64 (k5 : Int), .int .i64 y5, .int .i64 b5] rfl rfl Ra.out.2.2.1 sizeReader rfl (by simp [Value.oneCell']) ?_
    (try simp only [Act.put, List.setIfInBounds_toArray, List.set_cons_zero, List.set_cons_succ])
    refine wpList_plain rfl (fun K hK => ?_)
    go_simp
    refine hK _ _ ?_
    clear hK K
    refine wpList_plain rfl (fun K hK => ?_)
    go_simp
    refine hK _ _ ?_
    clear hK K
    go_upto_region 17 with fail
    clear Ra Rb c_4 c_11 f_11
    obtain ⟨W7, eW⟩ : ∃ X, X = ((w9.setRow gr #[.slice a p.length cap, .int .i64 (k5 : Int), .int .i64 y5, .int .i64 b5]).setCell ⟨gc, 11, none⟩ (.string (txt t1))) := ⟨_, rfl⟩
    rw [← eW] at D7 Q7 ⊢
    clear eW
    go_step
    refine wpList_load_row rfl 57 (.tmp 4) rfl gc _ _ _ rfl D7.out.2.1 Tryz.underlying57 rfl sizeChange ?_
    (try simp only [Act.put, List.setIfInBounds_toArray, List.set_cons_zero, List.set_cons_succ])
    go_wp2_with fail
    refine (CP.out _ (Q7.out.1.isI (by omega))).mono ?_
    rintro e w8 ⟨v8, rfl, o8, hb⟩
    have Dz : Hid (DS w gc gr #[.int .i64 a1, .int .i64 a2, .int .i64 sq, .slice ad ds.length cd, .int .i64 4, .int .i64 n1, .int .i64 n2, .int .i64 0, .int .i64 0, .int .i64 0, .int .i64 0, .string (txt t1), .string ⟨#[]⟩] #[.slice a p.length cap, .int .i64 (k5 : Int), .int .i64 y5, .int .i64 b5] w8) := D7.out.call hb
    have Qz : Hid (DQ N gc gr w8 (.slice ad ds.length cd) ds) := Q7.out.call hb
    have cv1 := conv_txt (o8.isB hBl)
    have cv2 := conv_txt (HP.out.below Dz.out.2.2.2.1)
    clear o8 hb D7 Q7 CP E0 E1
    rcases HCB.out with ⟨ee0, eB, HE⟩ | ⟨ee0, eB, HE⟩ | ⟨ee0, HE⟩
    · have HE2 : Hid (getF p = ((⟨a1, a2, sq, ds, 4, n1, n2, 0, 0, 0, 0, (txt t1), ⟨#[]⟩⟩ : Ch), 0)) := HE
      subst ee0 eB
      clear HE HCB
      have q1 : ((txt B).toList != (txt B).toList) = false := by simp
      have q2 : ((txt B).toList == (txt B).toList) = true := by simp
      go_upto_region 20 with fail
      go_step
      refine wpList_load_row rfl 57 (.tmp 4) rfl gc _ _ _ rfl Dz.out.2.1 Tryz.underlying57 rfl sizeChange ?_
      (try simp only [Act.put, List.setIfInBounds_toArray, List.set_cons_zero, List.set_cons_succ])
      refine wpList_store_row rfl 57 (.tmp 2) (.tmp 119) rfl w.heap.size _ _ #[.int .i64 a1, .int .i64 a2, .int .i64 sq, .slice ad ds.length cd, .int .i64 4, .int .i64 n1, .int .i64 n2, .int .i64 0, .int .i64 0, .int .i64 0, .int .i64 0, .string (txt t1), .string ⟨#[]⟩] rfl rfl Dz.out.1 sizeChange rfl (by simp [Value.oneCell']) ?_
      (try simp only [Act.put, List.setIfInBounds_toArray, List.set_cons_zero, List.set_cons_succ])
      go_wp2
      (try simp only [Exit.inBlock, Exit.then])
      refine bodyPost_ret (v := .tuple #[.agg #[.int .i64 a1, .int .i64 a2, .int .i64 sq, .slice ad ds.length cd, .int .i64 4, .int .i64 n1, .int .i64 n2, .int .i64 0, .int .i64 0, .int .i64 0, .int .i64 0, .string (txt t1), .string ⟨#[]⟩], .int .i64 0]) ?rA4 rfl ?pA4
      case rA4 => exact results_cell_row2 rfl _ _ w.heap.size _ _ _ _ rfl (setRow_same Dz.out.1) Tryz.underlying57 rfl (by kernel_rfl) rfl
      rw [HE2.out]
      exact ⟨.slice ad ds.length cd, rfl, (Qz.out.1.keep fun j hj _ => setRow_other w8 w.heap.size j _ (by have := Qz.out.2; have := Dz.out.2.2.2.2; omega)).cut hwN, below_setRow Dz.out.2.2.2.1 (Nat.le_refl _) _⟩
    · have HE2 : Hid (getF p = (Ch.none, 2)) := HE
      subst ee0
      clear HE HCB
      have q0 : (txt B).toList ≠ (txt p).toList := fun h => eB (by simpa [ByteArray.toList_eq, txt] using h)
      have q1 : ((txt B).toList != (txt p).toList) = true := by simpa using q0
      have q2 : ((txt B).toList == (txt p).toList) = false := by simpa using q0
      clear eB
      go_upto_region 19 with fail
      go_step
      refine wpList_plain rfl (fun K hK => ?_)
      go_simp
      refine hK _ _ ?_
      clear hK K
      refine wpList_store_row rfl 57 (.tmp 2) (.tmp 118) rfl w.heap.size _ _ #[.int .i64 0, .int .i64 0, .int .i64 0, .slice none 0 0, .int .i64 0, .int .i64 0, .int .i64 0, .int .i64 0, .int .i64 0, .int .i64 0, .int .i64 0, .string ⟨#[]⟩, .string ⟨#[]⟩] rfl rfl Dz.out.1 sizeChange rfl (by simp [Value.oneCell']) ?_
      (try simp only [Act.put, List.setIfInBounds_toArray, List.set_cons_zero, List.set_cons_succ])
      go_wp2
      (try simp only [Exit.inBlock, Exit.then])
      refine bodyPost_ret (v := .tuple #[.agg #[.int .i64 0, .int .i64 0, .int .i64 0, .slice none 0 0, .int .i64 0, .int .i64 0, .int .i64 0, .int .i64 0, .int .i64 0, .int .i64 0, .int .i64 0, .string ⟨#[]⟩, .string ⟨#[]⟩], .int .i64 2]) ?rB4 rfl ?pB4
      case rB4 => exact results_cell_row2 rfl _ _ w.heap.size _ _ _ _ rfl (setRow_same Dz.out.1) Tryz.underlying57 rfl (by kernel_rfl) rfl
      rw [HE2.out]
      exact ⟨_, rfl, OwnI.nil0 _ _, below_setRow Dz.out.2.2.2.1 (Nat.le_refl _) _⟩
    · have HE2 : Hid (getF p = (Ch.none, 2)) := HE
      have q1 : (ee != 0) = true := by simp [ee0]
      clear HE HCB ee0
      go_upto_region 19 with fail
      go_step
      refine wpList_plain rfl (fun K hK => ?_)
      go_simp
      refine hK _ _ ?_
      clear hK K
      refine wpList_store_row rfl 57 (.tmp 2) (.tmp 118) rfl w.heap.size _ _ #[.int .i64 0, .int .i64 0, .int .i64 0, .slice none 0 0, .int .i64 0, .int .i64 0, .int .i64 0, .int .i64 0, .int .i64 0, .int .i64 0, .int .i64 0, .string ⟨#[]⟩, .string ⟨#[]⟩] rfl rfl Dz.out.1 sizeChange rfl (by simp [Value.oneCell']) ?_
      (try simp only [Act.put, List.setIfInBounds_toArray, List.set_cons_zero, List.set_cons_succ])
      go_wp2
      (try simp only [Exit.inBlock, Exit.then])
      refine bodyPost_ret (v := .tuple #[.agg #[.int .i64 0, .int .i64 0, .int .i64 0, .slice none 0 0, .int .i64 0, .int .i64 0, .int .i64 0, .int .i64 0, .int .i64 0, .int .i64 0, .int .i64 0, .string ⟨#[]⟩, .string ⟨#[]⟩], .int .i64 2]) ?rC4 rfl ?pC4
      case rC4 => exact results_cell_row2 rfl _ _ w.heap.size _ _ _ _ rfl (setRow_same Dz.out.1) Tryz.underlying57 rfl (by kernel_rfl) rfl
      rw [HE2.out]
      exact ⟨_, rfl, OwnI.nil0 _ _, below_setRow Dz.out.2.2.2.1 (Nat.le_refl _) _⟩
  by_cases q5 : kd = 5
  · subst q5
    clear q1 q2 q3 q4
    obtain ⟨⟨⟨n1, n2⟩, k4, y4⟩, z0⟩ : ∃ r, stampR p k3 y3 = r := ⟨_, rfl⟩
    have hk4 : k4 ≤ p.length := by have := stampR_at p k3 y3 HK3.out; rw [z0] at this; exact this
    obtain ⟨b4, eb4⟩ : ∃ b, badL k4 y4 = b := ⟨_, rfl⟩
    have eb3 := HEB3.out
    obtain ⟨⟨t2, k5, y5⟩, z1⟩ : ∃ r, rdT p k4 y4 (p.length : Int) = r := ⟨_, rfl⟩
    have hk5 : k5 ≤ p.length := by have := rdT_at p k4 y4 (p.length : Int) hk4; rw [z1] at this; exact this
    obtain ⟨b5, eb5⟩ : ∃ b, badL k5 y5 = b := ⟨_, rfl⟩
    have E0 : Hid (∀ W, Below w.heap.size w W → Calls Tryz.prog 45 #[.agg #[.slice a p.length cap, .int .i64 (k3 : Int), .int .i64 y3, .int .i64 b3]] W fun e w' => e = .returned (.tuple #[.agg #[.slice a p.length cap, .int .i64 (k4 : Int), .int .i64 y4, .int .i64 b4], .agg #[.int .i64 n1, .int .i64 n2]]) ∧ Below W.heap.size W w') := fun W hb => by
      have := refStampN_any a cap p k3 y3 W (HP.out.below hb) HK3.out
      rw [z0] at this
      simp only [refR, eb3, eb4] at this
      exact this
    have E1 : Hid (∀ W, Below w.heap.size w W → Calls Tryz.prog 21 #[.agg #[.slice a p.length cap, .int .i64 (k4 : Int), .int .i64 y4, .int .i64 b4], .int .i64 (p.length : Int)] W fun e w' => e = .returned (.tuple #[.agg #[.slice a p.length cap, .int .i64 (k5 : Int), .int .i64 y5, .int .i64 b5], .string (txt t2)]) ∧ Below W.heap.size W w') := fun W hb => by
      have := refText_any a cap p k4 y4 (p.length : Int) W (HP.out.below hb) hk4
      rw [z1] at this
      simp only [refR, eb4, eb5] at this
      exact this
    have HE0 : restR 5 (a1, a2) (p.length : Int) (p.length : Int) p k3 y3 = (((n1, n2), (0, 0), (0, 0), [], t2), k5, y5) := by simp [restR, seqR, pureR, z0, z1]
    have HG : Hid (∀ c, checkCh c = 0 → bytesCh c = p → (⟨a1, a2, sq, ds, 5, n1, n2, 0, 0, 0, 0, ⟨#[]⟩, (txt t2)⟩ : Ch) = c) := get_only hlp (HES.out _ _ _ HE0)
    clear HE0 HES
    have HCA := got_cases HG.out
    have hPl := putCh_le (⟨a1, a2, sq, ds, 5, n1, n2, 0, 0, 0, 0, ⟨#[]⟩, (txt t2)⟩ : Ch)
    obtain ⟨⟨B, ee⟩, eP⟩ : ∃ r, putCh (⟨a1, a2, sq, ds, 5, n1, n2, 0, 0, 0, 0, ⟨#[]⟩, (txt t2)⟩ : Ch) = r := ⟨_, rfl⟩
    have CP : Hid (∀ W, IsI W (.slice ad ds.length cd) ds → Calls Tryz.prog 46 #[.agg #[.int .i64 a1, .int .i64 a2, .int .i64 sq, .slice ad ds.length cd, .int .i64 5, .int .i64 n1, .int .i64 n2, .int .i64 0, .int .i64 0, .int .i64 0, .int .i64 0, .string ⟨#[]⟩, .string (txt t2)]] W fun e w' => ∃ v, e = .returned (.tuple #[v, .int .i64 ee]) ∧ OwnB W.heap.size w' v B ∧ Below W.heap.size W w') := fun W hW => by
      have := refPutCh_any a1 a2 sq ad ds cd 5 n1 n2 0 0 0 0 ⟨#[]⟩ ((txt t2)) (by show 0 ≤ _; omega) W hW
      rw [eP] at this
      exact this
    rw [eP] at HCA hPl
    simp only at HCA hPl
    have HCB : Hid ((ee = 0 ∧ B = p ∧ getF p = ((⟨a1, a2, sq, ds, 5, n1, n2, 0, 0, 0, 0, ⟨#[]⟩, (txt t2)⟩ : Ch), 0)) ∨ (ee = 0 ∧ B ≠ p ∧ getF p = (Ch.none, 2)) ∨ (ee ≠ 0 ∧ getF p = (Ch.none, 2))) := HCA
    have hBl : B.length ≤ 281474976710656 := Nat.le_trans hPl (by decide)
    clear eP HCA hPl HG z0 z1 hk4 hk5 eb4 eb5 eb3
    obtain ⟨c_0, c_1, c_2, c_3, c_4, c_5, c_6, c_7, c_8, c_9, c_10, c_11, c_12⟩ := D5.out.cells
    go_upto_region 9 with fail
    clear c_0 c_1 c_2 c_3 c_4 c_5 c_6 c_7 c_8 c_9 c_10 c_11 c_12
    go_step
    refine wpList_load_row rfl 46 (.tmp 5) rfl gr _ _ _ rfl D5.out.2.2.1 Tryz.underlying46 rfl sizeReader ?_
    (try simp only [Act.put, List.setIfInBounds_toArray, List.set_cons_zero, List.set_cons_succ])
    go_wp2_with fail
    refine (E0.out _ D5.out.2.2.2.1).mono ?_
    rintro e w9 ⟨rfl, hb⟩
    have Qa : Hid (DQ N gc gr w9 (.slice ad ds.length cd) ds) := Q5.out.call hb
    have Ra : Hid (DS w gc gr #[.int .i64 a1, .int .i64 a2, .int .i64 sq, .slice ad ds.length cd, .int .i64 5, .int .i64 0, .int .i64 0, .int .i64 0, .int .i64 0, .int .i64 0, .int .i64 0, .string ⟨#[]⟩, .string ⟨#[]⟩] #[.slice a p.length cap, .int .i64 (k3 : Int), .int .i64 y3, .int .i64 b3] w9) := D5.out.call hb
    have Rb : Hid (DS w gc gr #[.int .i64 a1, .int .i64 a2, .int .i64 sq, .slice ad ds.length cd, .int .i64 5, .int .i64 0, .int .i64 0, .int .i64 0, .int .i64 0, .int .i64 0, .int .i64 0, .string ⟨#[]⟩, .string ⟨#[]⟩] #[.slice a p.length cap, .int .i64 (k4 : Int), .int .i64 y4, .int .i64 b4] (w9.setRow gr #[.slice a p.length cap, .int .i64 (k4 : Int), .int .i64 y4, .int .i64 b4])) := Ra.out.setR _
    clear hb D5
    obtain ⟨c_0, c_1, c_2, c_3, c_4, c_5, c_6, c_7, c_8, c_9, c_10, c_11, c_12⟩ := Rb.out.cells
    have f_5 := Rb.out.free 5
    have f_6 := Rb.out.free 6
    have D6 : Hid (DS w gc gr #[.int .i64 a1, .int .i64 a2, .int .i64 sq, .slice ad ds.length cd, .int .i64 5, .int .i64 n1, .int .i64 n2, .int .i64 0, .int .i64 0, .int .i64 0, .int .i64 0, .string ⟨#[]⟩, .string ⟨#[]⟩] #[.slice a p.length cap, .int .i64 (k4 : Int), .int .i64 y4, .int .i64 b4] (((w9.setRow gr #[.slice a p.length cap, .int .i64 (k4 : Int), .int .i64 y4, .int .i64 b4]).setCell ⟨gc, 5, none⟩ (.int .i64 n1)).setCell ⟨gc, 6, none⟩ (.int .i64 n2))) := by
      have h0 := ((Rb.out.set 5 (.int .i64 n1)).set 6 (.int .i64 n2))
      simp only [List.setIfInBounds_toArray, List.set_cons_zero, List.set_cons_succ] at h0
      exact h0
    have Q6 : Hid (DQ N gc gr (((w9.setRow gr #[.slice a p.length cap, .int .i64 (k4 : Int), .int .i64 y4, .int .i64 b4]).setCell ⟨gc, 5, none⟩ (.int .i64 n1)).setCell ⟨gc, 6, none⟩ (.int .i64 n2)) (.slice ad ds.length cd) ds) := (((Qa.out.setR _).set 5 (.int .i64 n1)).set 6 (.int .i64 n2))
    clear c_0 c_1 c_2 c_3 c_7 c_8 c_9 c_10 c_11 c_12 Qa Q5
    rename_i hKq
    refine hKq _ _ ?_
    clear hKq
    (try simp only [Act.put, List.setIfInBounds_toArray, List.set_cons_zero, List.set_cons_succ])
    refine wpList_plain rfl (fun K hK => ?_)
    go_simp
    refine hK _ _ ?_
    clear hK K
    refine wpList_plain rfl (fun K hK => ?_)
    go_simp
    refine hK _ _ ?_
    clear hK K
    refine wpList_plain rfl (fun K hK => ?_)
    go_simp
    refine hK _ _ ?_
    clear hK K
    refine wpList_store_row rfl 46 (.tmp 5) (.tmp 44) rfl gr _ _ #[.slice a p.length cap, .int .i64 (k4 : Int), .int .i64 y4, .int .i64 b4] rfl rfl Ra.out.2.2.1 sizeReader rfl (by simp [Value.oneCell']) ?_
    (try simp only [Act.put, List.setIfInBounds_toArray, List.set_cons_zero, List.set_cons_succ])
    refine wpList_plain rfl (fun K hK => ?_)
    go_simp
    refine hK _ _ ?_
    clear hK K
    refine wpList_plain rfl (fun K hK => ?_)
    go_simp
    refine hK _ _ ?_
    clear hK K
    go_upto_region 16 with fail
    clear Ra Rb c_4 c_5 c_6 f_5 f_6
    obtain ⟨W6, eW⟩ : ∃ X, X = (((w9.setRow gr #[.slice a p.length cap, .int .i64 (k4 : Int), .int .i64 y4, .int .i64 b4]).setCell ⟨gc, 5, none⟩ (.int .i64 n1)).setCell ⟨gc, 6, none⟩ (.int .i64 n2)) := ⟨_, rfl⟩
    rw [← eW] at D6 Q6 ⊢
    clear eW
    go_step
    refine wpList_load_row rfl 46 (.tmp 5) rfl gr _ _ _ rfl D6.out.2.2.1 Tryz.underlying46 rfl sizeReader ?_
    (try simp only [Act.put, List.setIfInBounds_toArray, List.set_cons_zero, List.set_cons_succ])
    go_wp2_with fail
    refine (E1.out _ D6.out.2.2.2.1).mono ?_
    rintro e w9 ⟨rfl, hb⟩
    have Qa : Hid (DQ N gc gr w9 (.slice ad ds.length cd) ds) := Q6.out.call hb
    have Ra : Hid (DS w gc gr #[.int .i64 a1, .int .i64 a2, .int .i64 sq, .slice ad ds.length cd, .int .i64 5, .int .i64 n1, .int .i64 n2, .int .i64 0, .int .i64 0, .int .i64 0, .int .i64 0, .string ⟨#[]⟩, .string ⟨#[]⟩] #[.slice a p.length cap, .int .i64 (k4 : Int), .int .i64 y4, .int .i64 b4] w9) := D6.out.call hb
    have Rb : Hid (DS w gc gr #[.int .i64 a1, .int .i64 a2, .int .i64 sq, .slice ad ds.length cd, .int .i64 5, .int .i64 n1, .int .i64 n2, .int .i64 0, .int .i64 0, .int .i64 0, .int .i64 0, .string ⟨#[]⟩, .string ⟨#[]⟩] #[.slice a p.length cap, .int .i64 (k5 : Int), .int .i64 y5, .int .i64 b5] (w9.setRow gr #[.slice a p.length cap, .int .i64 (k5 : Int), .int .i64 y5, .int .i64 b5])) := Ra.out.setR _
    clear hb D6
    obtain ⟨c_0, c_1, c_2, c_3, c_4, c_5, c_6, c_7, c_8, c_9, c_10, c_11, c_12⟩ := Rb.out.cells
    have f_12 := Rb.out.free 12
    have D7 : Hid (DS w gc gr #[.int .i64 a1, .int .i64 a2, .int .i64 sq, .slice ad ds.length cd, .int .i64 5, .int .i64 n1, .int .i64 n2, .int .i64 0, .int .i64 0, .int .i64 0, .int .i64 0, .string ⟨#[]⟩, .string (txt t2)] #[.slice a p.length cap, .int .i64 (k5 : Int), .int .i64 y5, .int .i64 b5] ((w9.setRow gr #[.slice a p.length cap, .int .i64 (k5 : Int), .int .i64 y5, .int .i64 b5]).setCell ⟨gc, 12, none⟩ (.string (txt t2)))) := by
      have h0 := (Rb.out.set 12 (.string (txt t2)))
      simp only [List.setIfInBounds_toArray, List.set_cons_zero, List.set_cons_succ] at h0
      exact h0
    have Q7 : Hid (DQ N gc gr ((w9.setRow gr #[.slice a p.length cap, .int .i64 (k5 : Int), .int .i64 y5, .int .i64 b5]).setCell ⟨gc, 12, none⟩ (.string (txt t2))) (.slice ad ds.length cd) ds) := ((Qa.out.setR _).set 12 (.string (txt t2)))
    clear c_0 c_1 c_2 c_3 c_5 c_6 c_7 c_8 c_9 c_10 c_11 Qa Q6
    rename_i hKq
    refine hKq _ _ ?_
    clear hKq
    (try simp only [Act.put, List.setIfInBounds_toArray, List.set_cons_zero, List.set_cons_succ])
    refine wpList_plain rfl (fun K hK => ?_)
    go_simp
    refine hK _ _ ?_
    clear hK K
    refine wpList_plain rfl (fun K hK => ?_)
    go_simp
    refine hK _ _ ?_
    clear hK K
    refine wpList_plain rfl (fun K hK => ?_)
    go_simp
    refine hK _ _ ?_
    clear hK K
    refine wpList_store_row rfl 46 (.tmp 5) (.tmp 101) rfl gr _ _ #[.slice a p.length cap, .int .i64 (k5 : Int), .int .i64 y5, .int .i64 b5] rfl rfl Ra.out.2.2.1 sizeReader rfl (by simp [Value.oneCell']) ?_
    (try simp only [Act.put, List.setIfInBounds_toArray, List.set_cons_zero, List.set_cons_succ])
    refine wpList_plain rfl (fun K hK => ?_)
    go_simp
    refine hK _ _ ?_
    clear hK K
    refine wpList_plain rfl (fun K hK => ?_)
    go_simp
    refine hK _ _ ?_
    clear hK K
    go_upto_region 17 with fail
    clear Ra Rb c_4 c_12 f_12
    obtain ⟨W7, eW⟩ : ∃ X, X = ((w9.setRow gr #[.slice a p.length cap, .int .i64 (k5 : Int), .int .i64 y5, .int .i64 b5]).setCell ⟨gc, 12, none⟩ (.string (txt t2))) := ⟨_, rfl⟩
    rw [← eW] at D7 Q7 ⊢
    clear eW
    go_step
    refine wpList_load_row rfl 57 (.tmp 4) rfl gc _ _ _ rfl D7.out.2.1 Tryz.underlying57 rfl sizeChange ?_
    (try simp only [Act.put, List.setIfInBounds_toArray, List.set_cons_zero, List.set_cons_succ])
    go_wp2_with fail
    refine (CP.out _ (Q7.out.1.isI (by omega))).mono ?_
    rintro e w8 ⟨v8, rfl, o8, hb⟩
    have Dz : Hid (DS w gc gr #[.int .i64 a1, .int .i64 a2, .int .i64 sq, .slice ad ds.length cd, .int .i64 5, .int .i64 n1, .int .i64 n2, .int .i64 0, .int .i64 0, .int .i64 0, .int .i64 0, .string ⟨#[]⟩, .string (txt t2)] #[.slice a p.length cap, .int .i64 (k5 : Int), .int .i64 y5, .int .i64 b5] w8) := D7.out.call hb
    have Qz : Hid (DQ N gc gr w8 (.slice ad ds.length cd) ds) := Q7.out.call hb
    have cv1 := conv_txt (o8.isB hBl)
    have cv2 := conv_txt (HP.out.below Dz.out.2.2.2.1)
    clear o8 hb D7 Q7 CP E0 E1
    rcases HCB.out with ⟨ee0, eB, HE⟩ | ⟨ee0, eB, HE⟩ | ⟨ee0, HE⟩
    · have HE2 : Hid (getF p = ((⟨a1, a2, sq, ds, 5, n1, n2, 0, 0, 0, 0, ⟨#[]⟩, (txt t2)⟩ : Ch), 0)) := HE
      subst ee0 eB
      clear HE HCB
      have q1 : ((txt B).toList != (txt B).toList) = false := by simp
      have q2 : ((txt B).toList == (txt B).toList) = true := by simp
      go_upto_region 20 with fail
      go_step
      refine wpList_load_row rfl 57 (.tmp 4) rfl gc _ _ _ rfl Dz.out.2.1 Tryz.underlying57 rfl sizeChange ?_
      (try simp only [Act.put, List.setIfInBounds_toArray, List.set_cons_zero, List.set_cons_succ])
      refine wpList_store_row rfl 57 (.tmp 2) (.tmp 119) rfl w.heap.size _ _ #[.int .i64 a1, .int .i64 a2, .int .i64 sq, .slice ad ds.length cd, .int .i64 5, .int .i64 n1, .int .i64 n2, .int .i64 0, .int .i64 0, .int .i64 0, .int .i64 0, .string ⟨#[]⟩, .string (txt t2)] rfl rfl Dz.out.1 sizeChange rfl (by simp [Value.oneCell']) ?_
      (try simp only [Act.put, List.setIfInBounds_toArray, List.set_cons_zero, List.set_cons_succ])
      go_wp2
      (try simp only [Exit.inBlock, Exit.then])
      refine bodyPost_ret (v := .tuple #[.agg #[.int .i64 a1, .int .i64 a2, .int .i64 sq, .slice ad ds.length cd, .int .i64 5, .int .i64 n1, .int .i64 n2, .int .i64 0, .int .i64 0, .int .i64 0, .int .i64 0, .string ⟨#[]⟩, .string (txt t2)], .int .i64 0]) ?rA5 rfl ?pA5
      case rA5 => exact results_cell_row2 rfl _ _ w.heap.size _ _ _ _ rfl (setRow_same Dz.out.1) Tryz.underlying57 rfl (by kernel_rfl) rfl
      rw [HE2.out]
      exact ⟨.slice ad ds.length cd, rfl, (Qz.out.1.keep fun j hj _ => setRow_other w8 w.heap.size j _ (by have := Qz.out.2; have := Dz.out.2.2.2.2; omega)).cut hwN, below_setRow Dz.out.2.2.2.1 (Nat.le_refl _) _⟩
    · have HE2 : Hid (getF p = (Ch.none, 2)) := HE
      subst ee0
      clear HE HCB
      have q0 : (txt B).toList ≠ (txt p).toList := fun h => eB (by simpa [ByteArray.toList_eq, txt] using h)
      have q1 : ((txt B).toList != (txt p).toList) = true := by simpa using q0
      have q2 : ((txt B).toList == (txt p).toList) = false := by simpa using q0
      clear eB
      go_upto_region 19 with fail
      go_step
      refine wpList_plain rfl (fun K hK => ?_)
      go_simp
      refine hK _ _ ?_
      clear hK K
      refine wpList_store_row rfl 57 (.tmp 2) (.tmp 118) rfl w.heap.size _ _ #[.int .i64 0, .int .i64 0, .int .i64 0, .slice none 0 0, .int .i64 0, .int .i64 0, .int .i64 0, .int .i64 0, .int .i64 0, .int .i64 0, .int .i64 0, .string ⟨#[]⟩, .string ⟨#[]⟩] rfl rfl Dz.out.1 sizeChange rfl (by simp [Value.oneCell']) ?_
      (try simp only [Act.put, List.setIfInBounds_toArray, List.set_cons_zero, List.set_cons_succ])
      go_wp2
      (try simp only [Exit.inBlock, Exit.then])
      refine bodyPost_ret (v := .tuple #[.agg #[.int .i64 0, .int .i64 0, .int .i64 0, .slice none 0 0, .int .i64 0, .int .i64 0, .int .i64 0, .int .i64 0, .int .i64 0, .int .i64 0, .int .i64 0, .string ⟨#[]⟩, .string ⟨#[]⟩], .int .i64 2]) ?rB5 rfl ?pB5
      case rB5 => exact results_cell_row2 rfl _ _ w.heap.size _ _ _ _ rfl (setRow_same Dz.out.1) Tryz.underlying57 rfl (by kernel_rfl) rfl
      rw [HE2.out]
      exact ⟨_, rfl, OwnI.nil0 _ _, below_setRow Dz.out.2.2.2.1 (Nat.le_refl _) _⟩
    · have HE2 : Hid (getF p = (Ch.none, 2)) := HE
      have q1 : (ee != 0) = true := by simp [ee0]
      clear HE HCB ee0
      go_upto_region 19 with fail
      go_step
      refine wpList_plain rfl (fun K hK => ?_)
      go_simp
      refine hK _ _ ?_
      clear hK K
      refine wpList_store_row rfl 57 (.tmp 2) (.tmp 118) rfl w.heap.size _ _ #[.int .i64 0, .int .i64 0, .int .i64 0, .slice none 0 0, .int .i64 0, .int .i64 0, .int .i64 0, .int .i64 0, .int .i64 0, .int .i64 0, .int .i64 0, .string ⟨#[]⟩, .string ⟨#[]⟩] rfl rfl Dz.out.1 sizeChange rfl (by simp [Value.oneCell']) ?_
      (try simp only [Act.put, List.setIfInBounds_toArray, List.set_cons_zero, List.set_cons_succ])
      go_wp2
      (try simp only [Exit.inBlock, Exit.then])
      refine bodyPost_ret (v := .tuple #[.agg #[.int .i64 0, .int .i64 0, .int .i64 0, .slice none 0 0, .int .i64 0, .int .i64 0, .int .i64 0, .int .i64 0, .int .i64 0, .int .i64 0, .int .i64 0, .string ⟨#[]⟩, .string ⟨#[]⟩], .int .i64 2]) ?rC5 rfl ?pC5
      case rC5 => exact results_cell_row2 rfl _ _ w.heap.size _ _ _ _ rfl (setRow_same Dz.out.1) Tryz.underlying57 rfl (by kernel_rfl) rfl
      rw [HE2.out]
      exact ⟨_, rfl, OwnI.nil0 _ _, below_setRow Dz.out.2.2.2.1 (Nat.le_refl _) _⟩
  obtain ⟨⟨⟨n1, n2⟩, k4, y4⟩, z0⟩ : ∃ r, stampR p k3 y3 = r := ⟨_, rfl⟩
  have hk4 : k4 ≤ p.length := by have := stampR_at p k3 y3 HK3.out; rw [z0] at this; exact this
  obtain ⟨b4, eb4⟩ : ∃ b, badL k4 y4 = b := ⟨_, rfl⟩
  have eb3 := HEB3.out
  have E0 : Hid (∀ W, Below w.heap.size w W → Calls Tryz.prog 45 #[.agg #[.slice a p.length cap, .int .i64 (k3 : Int), .int .i64 y3, .int .i64 b3]] W fun e w' => e = .returned (.tuple #[.agg #[.slice a p.length cap, .int .i64 (k4 : Int), .int .i64 y4, .int .i64 b4], .agg #[.int .i64 n1, .int .i64 n2]]) ∧ Below W.heap.size W w') := fun W hb => by
    have := refStampN_any a cap p k3 y3 W (HP.out.below hb) HK3.out
    rw [z0] at this
    simp only [refR, eb3, eb4] at this
    exact this
  have HE0 : restR kd (a1, a2) (p.length : Int) (p.length : Int) p k3 y3 = (((0, 0), (0, 0), (0, 0), [], []), k3, y3) := by unfold restR; rw [if_neg q1, if_neg q2, if_neg q3, if_neg q4, if_neg q5]; rfl
  have HG : Hid (∀ c, checkCh c = 0 → bytesCh c = p → (⟨a1, a2, sq, ds, kd, n1, n2, 0, 0, 0, 0, ⟨#[]⟩, ⟨#[]⟩⟩ : Ch) = c) := fun c hc hb => by
    have h0 := get_only hlp (HES.out _ _ _ HE0) c hc hb
    have h1 : kd = c.kind := by rw [← h0]; rfl
    have h2 := (fine c hc).kind
    omega
  clear HE0 HES
  have b_1 : (kd == 1) = false := by simp [q1]
  have b_2 : (kd == 2) = false := by simp [q2]
  have b_3 : (kd == 3) = false := by simp [q3]
  have b_4 : (kd == 4) = false := by simp [q4]
  have b_5 : (kd == 5) = false := by simp [q5]
  clear q1 q2 q3 q4 q5
  have HCA := got_cases HG.out
  have hPl := putCh_le (⟨a1, a2, sq, ds, kd, n1, n2, 0, 0, 0, 0, ⟨#[]⟩, ⟨#[]⟩⟩ : Ch)
  obtain ⟨⟨B, ee⟩, eP⟩ : ∃ r, putCh (⟨a1, a2, sq, ds, kd, n1, n2, 0, 0, 0, 0, ⟨#[]⟩, ⟨#[]⟩⟩ : Ch) = r := ⟨_, rfl⟩
  have CP : Hid (∀ W, IsI W (.slice ad ds.length cd) ds → Calls Tryz.prog 46 #[.agg #[.int .i64 a1, .int .i64 a2, .int .i64 sq, .slice ad ds.length cd, .int .i64 kd, .int .i64 n1, .int .i64 n2, .int .i64 0, .int .i64 0, .int .i64 0, .int .i64 0, .string ⟨#[]⟩, .string ⟨#[]⟩]] W fun e w' => ∃ v, e = .returned (.tuple #[v, .int .i64 ee]) ∧ OwnB W.heap.size w' v B ∧ Below W.heap.size W w') := fun W hW => by
    have := refPutCh_any a1 a2 sq ad ds cd kd n1 n2 0 0 0 0 ⟨#[]⟩ ⟨#[]⟩ (by show 0 ≤ _; omega) W hW
    rw [eP] at this
    exact this
  rw [eP] at HCA hPl
  simp only at HCA hPl
  have HCB : Hid ((ee = 0 ∧ B = p ∧ getF p = ((⟨a1, a2, sq, ds, kd, n1, n2, 0, 0, 0, 0, ⟨#[]⟩, ⟨#[]⟩⟩ : Ch), 0)) ∨ (ee = 0 ∧ B ≠ p ∧ getF p = (Ch.none, 2)) ∨ (ee ≠ 0 ∧ getF p = (Ch.none, 2))) := HCA
  have hBl : B.length ≤ 281474976710656 := Nat.le_trans hPl (by decide)
  clear eP HCA hPl HG z0 hk4 eb4 eb3
  obtain ⟨c_0, c_1, c_2, c_3, c_4, c_5, c_6, c_7, c_8, c_9, c_10, c_11, c_12⟩ := D5.out.cells
  go_upto_region 9 with fail
  clear c_0 c_1 c_2 c_3 c_4 c_5 c_6 c_7 c_8 c_9 c_10 c_11 c_12
  go_step
  refine wpList_load_row rfl 46 (.tmp 5) rfl gr _ _ _ rfl D5.out.2.2.1 Tryz.underlying46 rfl sizeReader ?_
  (try simp only [Act.put, List.setIfInBounds_toArray, List.set_cons_zero, List.set_cons_succ])
  go_wp2_with fail
  refine (E0.out _ D5.out.2.2.2.1).mono ?_
  rintro e w9 ⟨rfl, hb⟩
  have Qa : Hid (DQ N gc gr w9 (.slice ad ds.length cd) ds) := Q5.out.call hb
  have Ra : Hid (DS w gc gr #[.int .i64 a1, .int .i64 a2, .int .i64 sq, .slice ad ds.length cd, .int .i64 kd, .int .i64 0, .int .i64 0, .int .i64 0, .int .i64 0, .int .i64 0, .int .i64 0, .string ⟨#[]⟩, .string ⟨#[]⟩] #[.slice a p.length cap, .int .i64 (k3 : Int), .int .i64 y3, .int .i64 b3] w9) := D5.out.call hb
  have Rb : Hid (DS w gc gr #[.int .i64 a1, .int .i64 a2, .int .i64 sq, .slice ad ds.length cd, .int .i64 kd, .int .i64 0, .int .i64 0, .int .i64 0, .int .i64 0, .int .i64 0, .int .i64 0, .string ⟨#[]⟩, .string ⟨#[]⟩] #[.slice a p.length cap, .int .i64 (k4 : Int), .int .i64 y4, .int .i64 b4] (w9.setRow gr #[.slice a p.length cap, .int .i64 (k4 : Int), .int .i64 y4, .int .i64 b4])) := Ra.out.setR _
  clear hb D5
  obtain ⟨c_0, c_1, c_2, c_3, c_4, c_5, c_6, c_7, c_8, c_9, c_10, c_11, c_12⟩ := Rb.out.cells
  have f_5 := Rb.out.free 5
  have f_6 := Rb.out.free 6
  have D6 : Hid (DS w gc gr #[.int .i64 a1, .int .i64 a2, .int .i64 sq, .slice ad ds.length cd, .int .i64 kd, .int .i64 n1, .int .i64 n2, .int .i64 0, .int .i64 0, .int .i64 0, .int .i64 0, .string ⟨#[]⟩, .string ⟨#[]⟩] #[.slice a p.length cap, .int .i64 (k4 : Int), .int .i64 y4, .int .i64 b4] (((w9.setRow gr #[.slice a p.length cap, .int .i64 (k4 : Int), .int .i64 y4, .int .i64 b4]).setCell ⟨gc, 5, none⟩ (.int .i64 n1)).setCell ⟨gc, 6, none⟩ (.int .i64 n2))) := by
    have h0 := ((Rb.out.set 5 (.int .i64 n1)).set 6 (.int .i64 n2))
    simp only [List.setIfInBounds_toArray, List.set_cons_zero, List.set_cons_succ] at h0
    exact h0
  have Q6 : Hid (DQ N gc gr (((w9.setRow gr #[.slice a p.length cap, .int .i64 (k4 : Int), .int .i64 y4, .int .i64 b4]).setCell ⟨gc, 5, none⟩ (.int .i64 n1)).setCell ⟨gc, 6, none⟩ (.int .i64 n2)) (.slice ad ds.length cd) ds) := (((Qa.out.setR _).set 5 (.int .i64 n1)).set 6 (.int .i64 n2))
  clear c_0 c_1 c_2 c_3 c_7 c_8 c_9 c_10 c_11 c_12 Qa Q5
  rename_i hKq
  refine hKq _ _ ?_
  clear hKq
  (try simp only [Act.put, List.setIfInBounds_toArray, List.set_cons_zero, List.set_cons_succ])
  refine wpList_plain rfl (fun K hK => ?_)
  go_simp
  refine hK _ _ ?_
  clear hK K
  refine wpList_plain rfl (fun K hK => ?_)
  go_simp
  refine hK _ _ ?_
  clear hK K
  refine wpList_plain rfl (fun K hK => ?_)
  go_simp
  refine hK _ _ ?_
  clear hK K
  refine wpList_store_row rfl 46 (.tmp 5) (.tmp 44) rfl gr _ _ #[.slice a p.length cap, .int .i64 (k4 : Int), .int .i64 y4, .int .i64 b4] rfl rfl Ra.out.2.2.1 sizeReader rfl (by simp [Value.oneCell']) ?_
  (try simp only [Act.put, List.setIfInBounds_toArray, List.set_cons_zero, List.set_cons_succ])
  refine wpList_plain rfl (fun K hK => ?_)
  go_simp
  refine hK _ _ ?_
  clear hK K
  refine wpList_plain rfl (fun K hK => ?_)
  go_simp
  refine hK _ _ ?_
  clear hK K
  go_upto_region 17 with fail
  clear Ra Rb c_4 c_5 c_6 f_5 f_6
  obtain ⟨W6, eW⟩ : ∃ X, X = (((w9.setRow gr #[.slice a p.length cap, .int .i64 (k4 : Int), .int .i64 y4, .int .i64 b4]).setCell ⟨gc, 5, none⟩ (.int .i64 n1)).setCell ⟨gc, 6, none⟩ (.int .i64 n2)) := ⟨_, rfl⟩
  rw [← eW] at D6 Q6 ⊢
  clear eW
  go_step
  refine wpList_load_row rfl 57 (.tmp 4) rfl gc _ _ _ rfl D6.out.2.1 Tryz.underlying57 rfl sizeChange ?_
  (try simp only [Act.put, List.setIfInBounds_toArray, List.set_cons_zero, List.set_cons_succ])
  go_wp2_with fail
  refine (CP.out _ (Q6.out.1.isI (by omega))).mono ?_
  rintro e w8 ⟨v8, rfl, o8, hb⟩
  have Dz : Hid (DS w gc gr #[.int .i64 a1, .int .i64 a2, .int .i64 sq, .slice ad ds.length cd, .int .i64 kd, .int .i64 n1, .int .i64 n2, .int .i64 0, .int .i64 0, .int .i64 0, .int .i64 0, .string ⟨#[]⟩, .string ⟨#[]⟩] #[.slice a p.length cap, .int .i64 (k4 : Int), .int .i64 y4, .int .i64 b4] w8) := D6.out.call hb
  have Qz : Hid (DQ N gc gr w8 (.slice ad ds.length cd) ds) := Q6.out.call hb
  have cv1 := conv_txt (o8.isB hBl)
  have cv2 := conv_txt (HP.out.below Dz.out.2.2.2.1)
  clear o8 hb D6 Q6 CP E0
  rcases HCB.out with ⟨ee0, eB, HE⟩ | ⟨ee0, eB, HE⟩ | ⟨ee0, HE⟩
  · have HE2 : Hid (getF p = ((⟨a1, a2, sq, ds, kd, n1, n2, 0, 0, 0, 0, ⟨#[]⟩, ⟨#[]⟩⟩ : Ch), 0)) := HE
    subst ee0 eB
    clear HE HCB
    have q1 : ((txt B).toList != (txt B).toList) = false := by simp
    have q2 : ((txt B).toList == (txt B).toList) = true := by simp
    go_upto_region 20 with fail
    go_step
    refine wpList_load_row rfl 57 (.tmp 4) rfl gc _ _ _ rfl Dz.out.2.1 Tryz.underlying57 rfl sizeChange ?_
    (try simp only [Act.put, List.setIfInBounds_toArray, List.set_cons_zero, List.set_cons_succ])
    refine wpList_store_row rfl 57 (.tmp 2) (.tmp 119) rfl w.heap.size _ _ #[.int .i64 a1, .int .i64 a2, .int .i64 sq, .slice ad ds.length cd, .int .i64 kd, .int .i64 n1, .int .i64 n2, .int .i64 0, .int .i64 0, .int .i64 0, .int .i64 0, .string ⟨#[]⟩, .string ⟨#[]⟩] rfl rfl Dz.out.1 sizeChange rfl (by simp [Value.oneCell']) ?_
    (try simp only [Act.put, List.setIfInBounds_toArray, List.set_cons_zero, List.set_cons_succ])
    go_wp2
    (try simp only [Exit.inBlock, Exit.then])
    refine bodyPost_ret (v := .tuple #[.agg #[.int .i64 a1, .int .i64 a2, .int .i64 sq, .slice ad ds.length cd, .int .i64 kd, .int .i64 n1, .int .i64 n2, .int .i64 0, .int .i64 0, .int .i64 0, .int .i64 0, .string ⟨#[]⟩, .string ⟨#[]⟩], .int .i64 0]) ?rA0 rfl ?pA0
    case rA0 => exact results_cell_row2 rfl _ _ w.heap.size _ _ _ _ rfl (setRow_same Dz.out.1) Tryz.underlying57 rfl (by kernel_rfl) rfl
    rw [HE2.out]
    exact ⟨.slice ad ds.length cd, rfl, (Qz.out.1.keep fun j hj _ => setRow_other w8 w.heap.size j _ (by have := Qz.out.2; have := Dz.out.2.2.2.2; omega)).cut hwN, below_setRow Dz.out.2.2.2.1 (Nat.le_refl _) _⟩
  · have HE2 : Hid (getF p = (Ch.none, 2)) := HE
    subst ee0
    clear HE HCB
    have q0 : (txt B).toList ≠ (txt p).toList := fun h => eB (by simpa [ByteArray.toList_eq, txt] using h)
    have q1 : ((txt B).toList != (txt p).toList) = true := by simpa using q0
    have q2 : ((txt B).toList == (txt p).toList) = false := by simpa using q0
    clear eB
    go_upto_region 19 with fail
    go_step
    refine wpList_plain rfl (fun K hK => ?_)
    go_simp
    refine hK _ _ ?_
    clear hK K
    refine wpList_store_row rfl 57 (.tmp 2) (.tmp 118) rfl w.heap.size _ _ #[.int .i64 0, .int .i64 0, .int .i64 0, .slice none 0 0, .int .i64 0, .int .i64 0, .int .i64 0, .int .i64 0, .int .i64 0, .int .i64 0, .int .i64 0, .string ⟨#[]⟩, .string ⟨#[]⟩] rfl rfl Dz.out.1 sizeChange rfl (by simp [Value.oneCell']) ?_
    (try simp only [Act.put, List.setIfInBounds_toArray, List.set_cons_zero, List.set_cons_succ])
    go_wp2
    (try simp only [Exit.inBlock, Exit.then])
    refine bodyPost_ret (v := .tuple #[.agg #[.int .i64 0, .int .i64 0, .int .i64 0, .slice none 0 0, .int .i64 0, .int .i64 0, .int .i64 0, .int .i64 0, .int .i64 0, .int .i64 0, .int .i64 0, .string ⟨#[]⟩, .string ⟨#[]⟩], .int .i64 2]) ?rB0 rfl ?pB0
    case rB0 => exact results_cell_row2 rfl _ _ w.heap.size _ _ _ _ rfl (setRow_same Dz.out.1) Tryz.underlying57 rfl (by kernel_rfl) rfl
    rw [HE2.out]
    exact ⟨_, rfl, OwnI.nil0 _ _, below_setRow Dz.out.2.2.2.1 (Nat.le_refl _) _⟩
  · have HE2 : Hid (getF p = (Ch.none, 2)) := HE
    have q1 : (ee != 0) = true := by simp [ee0]
    clear HE HCB ee0
    go_upto_region 19 with fail
    go_step
    refine wpList_plain rfl (fun K hK => ?_)
    go_simp
    refine hK _ _ ?_
    clear hK K
    refine wpList_store_row rfl 57 (.tmp 2) (.tmp 118) rfl w.heap.size _ _ #[.int .i64 0, .int .i64 0, .int .i64 0, .slice none 0 0, .int .i64 0, .int .i64 0, .int .i64 0, .int .i64 0, .int .i64 0, .int .i64 0, .int .i64 0, .string ⟨#[]⟩, .string ⟨#[]⟩] rfl rfl Dz.out.1 sizeChange rfl (by simp [Value.oneCell']) ?_
    (try simp only [Act.put, List.setIfInBounds_toArray, List.set_cons_zero, List.set_cons_succ])
    go_wp2
    (try simp only [Exit.inBlock, Exit.then])
    refine bodyPost_ret (v := .tuple #[.agg #[.int .i64 0, .int .i64 0, .int .i64 0, .slice none 0 0, .int .i64 0, .int .i64 0, .int .i64 0, .int .i64 0, .int .i64 0, .int .i64 0, .int .i64 0, .string ⟨#[]⟩, .string ⟨#[]⟩], .int .i64 2]) ?rC0 rfl ?pC0
    case rC0 => exact results_cell_row2 rfl _ _ w.heap.size _ _ _ _ rfl (setRow_same Dz.out.1) Tryz.underlying57 rfl (by kernel_rfl) rfl
    rw [HE2.out]
    exact ⟨_, rfl, OwnI.nil0 _ _, below_setRow Dz.out.2.2.2.1 (Nat.le_refl _) _⟩

end Go.Proofs.YtlioiblpcpaejaaGreat
