/- A call played on both sides. -/
import Derived.Test.YtlcnfoljkcfplaaDsN
import Derived.Test.YtlcnfoljkcfplaaBgP
namespace Go.Proofs.Ytlcnfoljkcfplaa
open Go.RowKit Go.Shelf
set_option linter.unusedVariables false
set_option linter.unusedSimpArgs false

theorem FreshB.bg {G : Nat → Prop} {b : Nat} {w : World} {v : Value} {p : List UInt8} (h : FreshB b w v p) (hl : p.length ≤ 281474976710656) (hG : ∀ k, b ≤ k → G k) : IsBG G w v p := by
  obtain ⟨a, c, e, h1, h2, h3⟩ := h.isB hl
  rcases h with ⟨e2, rfl⟩ | ⟨g, cap, e2, hg, _⟩
  · exact ⟨a, c, e, h1, h2, .inl rfl⟩
  · refine ⟨a, c, e, h1, h2, h3.imp id ?_⟩
    rintro ⟨b2, o2, rfl, hb⟩
    rw [e2] at e
    cases e
    exact ⟨_, _, rfl, hG _ hg, hb⟩
theorem row_touch {F : Nat → Prop} {X X' : World} {b : Nat} {o : Obj} (h : X.heap[b]? = some o) (ht : Touch F X X') (hF : ¬ F b) : X'.heap[b]? = some o := (ht.block b (row_lt h) hF).trans h
/-- The net, and the document's list; the box of what is answered. -/
structure PlE (F G F' G2 : Nat → Prop) (w : World) (nb n : Nat) (B' : Nat → List Pc) (v2 : Value) (L2 : List Sn) (X : World) : Prop where
  net : NetOk F' X nb n B'
  fF : ∀ k, F' k → F k ∨ w.heap.size + 2 < k
  fl : ∀ k, F k → k < w.heap.size
  to : Touch F w X
  doc : SFirm G2 X v2 L2
  gG : ∀ k, G2 k → G k ∨ w.heap.size + 2 < k
  gl : ∀ k, G k → k < w.heap.size
  ap : ∀ k, F' k → ¬ G2 k
  res : X.heap[(w.heap.size + 2)]? = some (.cells #[.int .i64 0, .slice none 0 0] 30)
section
variable {F G F' G2 G3 : Nat → Prop} {w X X' : World} {nb n : Nat} {B' B3 : Nat → List Pc} {v2 v3 : Value} {L2 L3 : List Sn}
theorem PlE.fno (h : PlE F G F' G2 w nb n B' v2 L2 X) {b : Nat} (h1 : w.heap.size ≤ b) (h2 : b ≤ w.heap.size + 2) : ¬ F' b := fun q => by
  rcases h.fF b q with q | q
  · have := h.fl b q; omega
  · omega
theorem PlE.below (h : PlE F G F' G2 w nb n B' v2 L2 X) (hb : Below X.heap.size X X') : PlE F G F' G2 w nb n B' v2 L2 X' := ⟨h.net.below hb, h.fF, h.fl, h.to.trans (Touch.of_below (F := F) hb) (fun j q => .inl q), h.doc.below hb, h.gG, h.gl, h.ap, (hb.block _ (row_lt h.res)).trans h.res⟩
theorem PlE.docs (h : PlE F G F' G2 w nb n B' v2 L2 X) (hS : SFirm G3 X' v3 L3) (hG : ∀ k, G3 k → G2 k ∨ X.heap.size ≤ k) (hb : Below X.heap.size X X') : PlE F G F' G3 w nb n B' v3 L3 X' := by
  have hr := row_lt h.res
  refine ⟨h.net.below hb, h.fF, h.fl, h.to.trans (Touch.of_below (F := F) hb) (fun j q => .inl q), hS, fun k q => (hG k q).elim (h.gG k) (fun q => .inr (by omega)), h.gl, fun k q q2 => (hG k q2).elim (h.ap k q) (fun q3 => by have := h.net.lt k q; omega), (hb.block _ hr).trans h.res⟩
theorem PlE.nets (h : PlE F G F' G2 w nb n B' v2 L2 X) (hp : NetP F' nb n X X' B3) : ∃ F3, PlE F G F3 G2 w nb n B3 v2 L2 X' ∧ Touch F' X X' ∧ ∀ k, F3 k → F' k ∨ X.heap.size ≤ k := by
  obtain ⟨F3, h1, h2, h3, h4⟩ := hp
  have hr := row_lt h.res
  refine ⟨F3, ⟨h1, fun k q => (h3 k q).elim (h.fF k) (fun q => .inr (by omega)), h.fl, h.to.trans h4 (fun j q => (h.fF j q).imp id (fun q => by omega)), h.doc.keep h4.size (fun k q => h4.block k (h.doc.1 k q) (fun q2 => h.ap k q2 q)), h.gG, h.gl, fun k q q2 => (h3 k q).elim (fun q3 => h.ap k q3 q2) (fun q3 => by have := h.doc.1 k q2; omega), row_touch h.res h4 (h.fno (by omega) (by omega))⟩, h4, h3⟩
theorem PlE.write (h : PlE F G F' G2 w nb n B' v2 L2 X) {gb k : Nat} {u : Value} (h1 : ¬ F' gb) (h2 : ¬ G2 gb) (h3 : w.heap.size + 2 < gb) : PlE F G F' G2 w nb n B' v2 L2 (X.setCell ⟨gb, k, none⟩ u) := by
  have hk : ∀ q, q ≠ gb → (X.setCell ⟨gb, k, none⟩ u).heap[q]? = X.heap[q]? := fun q hq => RowKit.Below.heap_setCell _ _ _ _ hq
  have hz : X.heap.size ≤ (X.setCell ⟨gb, k, none⟩ u).heap.size := by simp [World.setCell]
  refine ⟨h.net.keep ⟨hz, fun q hq => hk q (fun e => h1 (e ▸ hq))⟩, h.fF, h.fl, ?_, h.doc.keep hz (fun q hq => hk q (fun e => h2 (e ▸ hq))), h.gG, h.gl, h.ap, row_set_other h.res (by omega)⟩
  exact h.to.trans (Touch.of_grown (F := fun j => j = gb) (grownBy_setCell X gb k u) (fun q e _ => (Option.some.inj e).symm)) (fun j e => .inr (by have e2 : j = gb := e; omega))
theorem PlE.out (h : PlE F G F' G2 w nb n B' v2 L2 X) : ((X.setCell ⟨w.heap.size + 2, 0, none⟩ (.int .i64 (n : Int))).setCell ⟨w.heap.size + 2, 1, none⟩ (v2)).heap[w.heap.size + 2]? = some (.cells #[.int .i64 (n : Int), v2] 30) ∧ NetOk F' ((X.setCell ⟨w.heap.size + 2, 0, none⟩ (.int .i64 (n : Int))).setCell ⟨w.heap.size + 2, 1, none⟩ (v2)) nb n B' ∧ Touch F w ((X.setCell ⟨w.heap.size + 2, 0, none⟩ (.int .i64 (n : Int))).setCell ⟨w.heap.size + 2, 1, none⟩ (v2)) ∧ SFirm G2 ((X.setCell ⟨w.heap.size + 2, 0, none⟩ (.int .i64 (n : Int))).setCell ⟨w.heap.size + 2, 1, none⟩ (v2)) v2 L2 := by
  have hk : ∀ q, q ≠ w.heap.size + 2 → ((X.setCell ⟨w.heap.size + 2, 0, none⟩ (.int .i64 (n : Int))).setCell ⟨w.heap.size + 2, 1, none⟩ (v2)).heap[q]? = X.heap[q]? := fun q hq => (RowKit.Below.heap_setCell _ _ _ _ hq).trans (RowKit.Below.heap_setCell _ _ _ _ hq)
  have hz : ((X.setCell ⟨w.heap.size + 2, 0, none⟩ (.int .i64 (n : Int))).setCell ⟨w.heap.size + 2, 1, none⟩ (v2)).heap.size = X.heap.size := by simp [World.setCell]
  have h1 : ¬ F' (w.heap.size + 2) := h.fno (by omega) (by omega)
  have h2 : ¬ G2 (w.heap.size + 2) := fun q => by
    rcases h.gG _ q with q | q
    · have := h.gl _ q; omega
    · omega
  refine ⟨row_set2 h.res, h.net.keep ⟨by rw [hz]; exact Nat.le_refl _, fun q hq => hk q (fun e => h1 (e ▸ hq))⟩, ?_, h.doc.set2 h2⟩
  have hg := grownBy.trans2 (grownBy_setCell X (w.heap.size + 2) 0 (.int .i64 (n : Int))) (grownBy_setCell (X.setCell ⟨w.heap.size + 2, 0, none⟩ (.int .i64 (n : Int))) (w.heap.size + 2) 1 v2)
  exact h.to.trans (Touch.of_grown (F := fun j => j = w.heap.size + 2) hg (fun q e _ => (Option.some.inj e).symm)) (fun j e => .inr (by have e2 : j = w.heap.size + 2 := e; omega))
end
/-- What a call that is played leaves. -/
def PlayP (F G : Nat → Prop) (nb n : Nat) (L : List Sn) (fr to : Int) (w : World) (e : Ending) (w' : World) : Prop := ∃ v' B' F' L' G', e = .returned (.tuple #[.agg #[.int .i64 (n : Int), v'], .bool true]) ∧ NetOk F' w' nb n B' ∧ (∀ k, F' k → F k ∨ w.heap.size ≤ k) ∧ Touch F w w' ∧ SFirm G' w' v' L' ∧ (∀ k, G' k → G k ∨ w.heap.size ≤ k) ∧ (∀ k, F' k → ¬ G' k) ∧ Rel n B' L' ∧ L'.length ≤ L.length + 1 ∧ Else fr to L L'
/-- Bytes at the front of a block, whatever they are, that may be written over. -/
def BF (w : World) (a : Option Addr) (m : Nat) : Prop := m = 0 ∨ ∃ g, a = some ⟨g, 0, none⟩ ∧ ∀ j, j < m → (∃ c : UInt8, w.cell? ⟨g, j, none⟩ = some (.int .u8 (c.toNat : Int))) ∧ w.frozen? ⟨g, j, none⟩ = false
theorem BF.set {w : World} {g m : Nat} (h : BF w (some ⟨g, 0, none⟩) m) (b : Unit) (k : Nat) (c : UInt8) : BF (w.setCell ⟨g, k, none⟩ (.int .u8 (c.toNat : Int))) (some ⟨g, 0, none⟩) m := by
  rcases h with h | ⟨g', e, h⟩
  · exact .inl h
  · refine .inr ⟨g', e, fun j hj => ?_⟩
    cases e
    obtain ⟨⟨c0, h1⟩, h2⟩ := h j hj
    refine ⟨?_, (World.frozen?_setCell _ _ _ _).trans h2⟩
    by_cases e2 : j = k
    · subst e2
      exact ⟨c, World.cell?_setCell_same' _ _ _ (by rw [h1]; rfl)⟩
    · exact ⟨c0, (World.cell?_setCell_other _ _ _ _ (by intro e3; injection e3 with _ e4; exact e2 e4.symm)).trans h1⟩
theorem OwnB.bf {N : Nat} {w : World} {a : Option Addr} {c : Nat} {p : List UInt8} (h : OwnB N w (.slice a p.length c) p) : BF w a p.length := by
  rcases h.2 with ⟨e, h0⟩ | ⟨g, cap, cur, e, _⟩
  · exact .inl h0
  · injection e with e1 e2 e3
    subst e1
    subst e3
    exact .inr ⟨g, rfl, fun j hj => by obtain ⟨x1, f1⟩ := OwnB.cell h rfl hj; exact ⟨⟨_, x1⟩, f1⟩⟩
theorem FreshB.bf {b : Nat} {w : World} {a : Option Addr} {c : Nat} {p : List UInt8} (h : FreshB b w (.slice a p.length c) p) : BF w a p.length := by
  rcases h with ⟨_, e⟩ | ⟨g, cap, e, hg, hl, hc, hB, hf⟩
  · left; rw [e]; rfl
  · injection e with e1 e2 e3
    subst e1
    exact .inr ⟨g, rfl, fun j hj => ⟨⟨p[j], by have := hB j hj; rwa [Nat.zero_add] at this⟩, hf j hj⟩⟩
theorem FreshB.blk {b : Nat} {w : World} {a : Option Addr} {c g : Nat} {p : List UInt8} (h : FreshB b w (.slice a p.length c) p) (e : a = some ⟨g, 0, none⟩) : b ≤ g := by
  rcases h with ⟨e2, _⟩ | ⟨g2, cap, e2, hg, _⟩
  · injection e2 with e3; rw [e] at e3; cases e3
  · injection e2 with e3; rw [e] at e3; cases e3; exact hg
theorem Rel.qbytes {n : Nat} {B : Nat → List Pc} {L : List Sn} {f t i : Int} {G G9 : Nat → Prop} {w : World} {qv : Value} (h : Rel n B L) (hk : PeekP G n L f t i w qv) (hG : ∀ k, G k → G9 k) : IsBG G9 w qv (pcAt n B f t i).1 := by
  by_cases hp : peekE n L f t i = 0
  · obtain ⟨j, hj, e⟩ := place_of hp
    rw [h.pc.2 j hj hp e]
    exact (hk.2 j hj hp e).mono hG
  · rw [h.pc.1 hp, hk.1 hp]
    exact ⟨Option.none, 0, rfl, Nat.le_refl _, by simp, .inl rfl⟩

set_option maxRecDepth 100000 in
set_option maxHeartbeats 16000000 in
theorem play_any (F G : Nat → Prop) (nb n : Nat) (B : Nat → List Pc) (v : Value) (L : List Sn) (kd fr to i at_ mask : Int) (pv : Value) (p : List UInt8) (w : World) (hN : NetOk F w nb n B) (h : SFirm G w v L) (hap : ∀ k, F k → ¬ G k) (hR : Rel n B L) (hl : L.length ≤ 4000) (hpb : IsBG (fun k => k < w.heap.size ∧ ¬ F k) w pv p) (hp : p.length ≤ 140737488351232) (hmw : -9223372036854775808 ≤ mask ∧ mask < 9223372036854775808) :
    Calls Try.prog 9 #[.pointer (some ⟨nb, 0, none⟩), .agg #[.int .i64 (n : Int), v], .agg #[.int .i64 kd, .int .i64 fr, .int .i64 to, .int .i64 i, .int .i64 at_, .int .i64 mask, pv]] w fun e w' => PlayP F G nb n L fr to w e w' := by
  obtain ⟨ap, cp, ep, _⟩ := id hpb
  subst ep
  obtain ⟨a1, c1, e1⟩ := h.isS.form
  subst e1
  have HRel : Hid (Rel n B L) := hR
  have HLim : Hid (∀ s ∈ L, s.p.length ≤ 65545) := hR.lim hN.lim
  have HBl : Hid (∀ k, PcOk (B k)) := hN.lim
  obtain ⟨W0, eW⟩ : ∃ X, X = ((w.alloc (.cells #[.int .i64 (n : Int), .slice a1 L.length c1] 30)).alloc (.cells #[.int .i64 kd, .int .i64 fr, .int .i64 to, .int .i64 i, .int .i64 at_, .int .i64 mask, .slice ap p.length cp] 33)).alloc (.cells #[.int .i64 0, .slice none 0 0] 30) := ⟨_, rfl⟩
  have e1 : (w.alloc (.cells #[.int .i64 (n : Int), .slice a1 L.length c1] 30)).heap.size = w.heap.size + 1 := by simp
  have e2 : ((w.alloc (.cells #[.int .i64 (n : Int), .slice a1 L.length c1] 30)).alloc (.cells #[.int .i64 kd, .int .i64 fr, .int .i64 to, .int .i64 i, .int .i64 at_, .int .i64 mask, .slice ap p.length cp] 33)).heap.size = w.heap.size + 2 := by simp
  have hb0 : Below w.heap.size w W0 := by rw [eW]; exact (((Below.refl _ _).alloc (Nat.le_refl _) _).alloc (by simp) _).alloc (by simp; omega) _
  have hs0 : W0.heap.size = w.heap.size + 3 := by rw [eW]; simp
  have HX0 : Hid (W0.heap[w.heap.size]? = some (.cells #[.int .i64 (n : Int), .slice a1 L.length c1] 30)) := by rw [eW]; exact (Below.heap_alloc _ _ _ (by simp; omega)).trans ((Below.heap_alloc _ _ _ (by simp)).trans (heap_alloc_new w _))
  have HRa0 : Hid (RowA7 (w.heap.size + 1) kd fr to i at_ mask (.slice ap p.length cp) W0) := by
    rw [eW]
    have h0 := heap_alloc_new (w.alloc (.cells #[.int .i64 (n : Int), .slice a1 L.length c1] 30)) (.cells #[.int .i64 kd, .int .i64 fr, .int .i64 to, .int .i64 i, .int .i64 at_, .int .i64 mask, .slice ap p.length cp] 33)
    rw [e1] at h0
    exact ⟨(Below.heap_alloc _ _ _ (by simp)).trans h0⟩
  have hz0 : W0.heap[(w.heap.size + 2)]? = some (.cells #[.int .i64 0, .slice none 0 0] 30) := by
    rw [eW]
    have h0 := heap_alloc_new ((w.alloc (.cells #[.int .i64 (n : Int), .slice a1 L.length c1] 30)).alloc (.cells #[.int .i64 kd, .int .i64 fr, .int .i64 to, .int .i64 i, .int .i64 at_, .int .i64 mask, .slice ap p.length cp] 33)) (.cells #[.int .i64 0, .slice none 0 0] 30)
    rw [e2] at h0
    exact h0
  have HP0 : Hid (PlE F G F G w nb n B (.slice a1 L.length c1) L W0) := ⟨hN.below hb0, fun k q => .inl q, hN.lt, Touch.of_below hb0, h.below hb0, fun k q => .inl q, h.1, hap, hz0⟩
  have HI0 : Hid (IsBG (fun k => k < w.heap.size ∧ ¬ F k) W0 (.slice ap p.length cp) p) := hpb.keep (fun k q => hb0.block k q.1)
  have HapG : Hid (∀ k, F k → ¬ G k) := hap
  clear h hb0 e1 e2 hpb hz0 hN hR hap
  by_cases hk2 : kd = 2
  · subst hk2
    have ca := HRa0.out.cells
    obtain ⟨y_0, y_1, _, _⟩ := row2_cells HX0.out
    obtain ⟨a_0, a_1, a_2, a_3, a_4, a_5, a_6⟩ := ca
    rw [eW] at y_0 y_1 a_0 a_1 a_2 a_3 a_4 a_5 a_6
    go_enter Try.func9, Try.ntmps9
    go_wp2_with fail
    rw [← eW]
    clear y_0 y_1 a_0 a_1 a_2 a_3 a_4 a_5 a_6
    refine (refDeliver_any G n _ L fr to i _ HP0.out.doc hl).mono ?_
    rintro e w2 ⟨v2, qv, G2, rfl, hS2, hpk, hG2, hb2⟩
    obtain ⟨aq, mq, cq, eq⟩ : ∃ a m k, qv = .slice a m k := (by obtain ⟨a, c, e, _⟩ := HRel.out.qbytes (G9 := fun _ => True) hpk (fun _ _ => trivial); exact ⟨a, _, c, e⟩)
    subst eq
    clear hpk
    obtain ⟨hc0, hr0⟩ := HRel.out.dvl (f := fr) (t := to) (i := i)
    obtain ⟨ce, ece⟩ : ∃ c, c = peekE n L fr to i := ⟨_, rfl⟩
    have HCe : Hid (ce = peekE n L fr to i) := ece
    obtain ⟨L2, eL2⟩ : ∃ X, X = dvL n L fr to i := ⟨_, rfl⟩
    rw [← ece] at hc0 ⊢
    rw [← eL2] at hr0 hS2
    have HRl : Hid (withE n B fr to i = ce ∧ Rel n (loseN n B fr to i) L2 ∧ L2.length ≤ L.length + 1 ∧ Else fr to L L2) := ⟨hc0, hr0⟩
    clear hc0 hr0 ece eL2
    obtain ⟨av2, cv2, ev2⟩ := hS2.isS.form
    subst ev2
    obtain ⟨w3, eW3⟩ : ∃ X, X = w2.alloc (.cells #[.int .i64 (n : Int), .slice av2 L2.length cv2] 30) := ⟨_, rfl⟩
    have hb3 : Below w2.heap.size w2 w3 := by rw [eW3]; exact (Below.refl _ _).alloc (Nat.le_refl _) _
    obtain ⟨zb, ezb⟩ : ∃ zb, zb = w2.heap.size := ⟨_, rfl⟩
    have HZb : Hid (w3.heap[zb]? = some (.cells #[.int .i64 (n : Int), .slice av2 L2.length cv2] 30)) := (by rw [eW3, ezb]; exact heap_alloc_new w2 _)
    have HPE : Hid (PlE F G F G2 w nb n B (.slice av2 L2.length cv2) L2 w3) := (HP0.out.docs hS2 hG2 hb2).below hb3
    have hb03 : Below W0.heap.size W0 w3 := hb2.trans (hb3.mono hb2.size)
    have HRa : Hid (RowA7 (w.heap.size + 1) 2 fr to i at_ mask (.slice ap p.length cp) w3) := HRa0.out.below hb03
    have HzF : Hid (¬ F zb ∧ w.heap.size + 2 < zb) := (by have h1 := hb2.size; have h2 := hs0; rw [ezb]; exact ⟨fun q => by have := HP0.out.fl _ q; omega, by omega⟩)
    obtain ⟨a_0, a_1, a_2, a_3, a_4, a_5, a_6⟩ := HRa.out.cells
    rw [eW3] at a_0 a_1 a_2 a_3 a_4 a_5 a_6
    clear hb2 hb3 hb03 eW hS2 hG2
    go_upto_region 17 with fail
    rw [← eW3]
    clear eW3 a_0 a_1 a_2 a_3 a_4 a_5 a_6
    (try rw [← ezb])
    clear ezb
    refine wp_region_held_drew (S := fun W' => W'.heap[zb]? = some (.cells #[.int .i64 (n : Int), .slice av2 L2.length cv2] 30) ∧ RowA7 (w.heap.size + 1) 2 fr to i at_ mask (.slice ap p.length cp) W') (by kernel_rfl) ⟨HZb.out, HRa.out.below (Below.refl _ _).drew⟩ (fun hHeld => ?_)
    obtain ⟨Up5u0, eW⟩ : ∃ X, X = w3.drew := ⟨_, rfl⟩
    have hb : Below w3.heap.size w3 Up5u0 := by rw [eW]; exact (Below.refl _ _).drew
    replace HPE : Hid (PlE F G F G2 w nb n B (.slice av2 L2.length cv2) L2 Up5u0) := HPE.out.below hb
    rw [← eW] at hHeld ⊢
    clear eW hb
    refine tkW 0 (some 125) (v := ?_) ?_ hHeld ?_
    rotate_left
    · (intro w hSw; (try dsimp only at hSw); obtain ⟨hz, ha⟩ := hSw; obtain ⟨z_0, z_1, _, _⟩ := row2_cells hz; obtain ⟨a_0, a_1, a_2, a_3, a_4, a_5, a_6⟩ := ha.cells; go_simp; try with_reducible rfl)
    refine tkW 1 (some 126) (v := ?_) ?_ hHeld ?_
    rotate_left
    · (intro w _; go_simp; try with_reducible rfl)
    refine tkW 2 (some 127) (v := ?_) ?_ hHeld ?_
    rotate_left
    · (intro w _; go_simp; try with_reducible rfl)
    refine tkW 3 (some 128) (v := ?_) ?_ hHeld ?_
    rotate_left
    · (intro w hSw; (try dsimp only at hSw); obtain ⟨hz, ha⟩ := hSw; obtain ⟨z_0, z_1, _, _⟩ := row2_cells hz; obtain ⟨a_0, a_1, a_2, a_3, a_4, a_5, a_6⟩ := ha.cells; go_simp; try with_reducible rfl)
    refine tkW 4 (some 129) (v := ?_) ?_ hHeld ?_
    rotate_left
    · (intro w _; go_simp; try with_reducible rfl)
    refine tkW 5 (some 130) (v := ?_) ?_ hHeld ?_
    rotate_left
    · (intro w hSw; (try dsimp only at hSw); obtain ⟨hz, ha⟩ := hSw; obtain ⟨z_0, z_1, _, _⟩ := row2_cells hz; obtain ⟨a_0, a_1, a_2, a_3, a_4, a_5, a_6⟩ := ha.cells; go_simp; try with_reducible rfl)
    refine tkW 6 (some 131) (v := ?_) ?_ hHeld ?_
    rotate_left
    · (intro w _; go_simp; try with_reducible rfl)
    refine tkW 7 (some 132) (v := ?_) ?_ hHeld ?_
    rotate_left
    · (intro w hSw; (try dsimp only at hSw); obtain ⟨hz, ha⟩ := hSw; obtain ⟨z_0, z_1, _, _⟩ := row2_cells hz; obtain ⟨a_0, a_1, a_2, a_3, a_4, a_5, a_6⟩ := ha.cells; go_simp; try with_reducible rfl)
    refine tkW 9 (some 134) (v := ?_) ?_ hHeld ?_
    rotate_left
    · (intro w _; go_simp; try with_reducible rfl)
    refine wpAnyH_ready (rs := [8]) (by kernel_rfl) (by simp) ?_
    refine AllReadyH.cons (o := ⟨some 133, _, _, _, _, _⟩) rfl (fun K hK => ?_) AllReadyH.nil
    go_simp
    refine (lose_any F nb n B fr to i _ HPE.out.net).mono ?_
    rintro e Up5u1 ⟨rfl, hnp⟩
    rw [HRl.out.1]
    (try go_wp2_with fail)
    obtain ⟨F3, hpe, hto, _⟩ := HPE.out.nets hnp.p
    have hS3 : Up5u1.heap[zb]? = some (.cells #[.int .i64 (n : Int), .slice av2 L2.length cv2] 30) ∧ RowA7 (w.heap.size + 1) 2 fr to i at_ mask (.slice ap p.length cp) Up5u1 := ⟨row_touch hHeld.1 hto HzF.out.1, ⟨row_touch hHeld.2.out hto (HPE.out.fno (by omega) (by omega))⟩⟩
    replace HPE : Hid (PlE F G F3 G2 w nb n (loseN n B fr to i) (.slice av2 L2.length cv2) L2 Up5u1) := hpe
    clear hnp hpe hto
    refine hK.out _ _ (hS3) (fun hHeld2 => ?_)
    clear hK K hHeld
    have hHeld := hHeld2
    clear hHeld2
    (try simp only [Act.put, List.setIfInBounds_toArray, List.set_cons_zero, List.set_cons_succ])
    clear hS3
    refine tkW 10 (some 135) (v := .bool true) ?_ hHeld ?_
    · (intro w hSw; (try dsimp only at hSw); obtain ⟨hz, ha⟩ := hSw; obtain ⟨z_0, z_1, _, _⟩ := row2_cells hz; obtain ⟨a_0, a_1, a_2, a_3, a_4, a_5, a_6⟩ := ha.cells; go_simp; try simp)
    refine wpAnyH_ready (rs := [11]) (by kernel_rfl) (by simp) ?_
    refine AllReadyH.cons (o := ⟨none, _, _, _, _, _⟩) rfl (fun K hK => ?_) AllReadyH.nil
    obtain ⟨r_0, r_1, r_2, r_3⟩ := row2_cells HPE.out.res
    have HEnd := hide9 HPE.out.out
    go_simp
    refine hK.out _ _ (⟨row_set_other (row_set_other hHeld.1 (by have := HzF.out.2; omega)) (by have := HzF.out.2; omega), (hHeld.2.set (by omega)).set (by omega)⟩) (fun hHeld2 => ?_)
    clear hK K hHeld
    have hHeld := hHeld2
    clear hHeld2
    (try simp only [Act.put, List.setIfInBounds_toArray, List.set_cons_zero, List.set_cons_succ])
    clear r_0 r_1 r_2 r_3
    refine tkW 12 (some 7) (v := ?_) ?_ hHeld ?_
    rotate_left
    · (intro w _; go_simp; try with_reducible rfl)
    refine wpAnyH_done (by kernel_rfl) ?_ _
    clear hHeld
    go_wp2
    (try simp only [Exit.inBlock, Exit.then])
    refine bodyPost_ret (results_cell_row2 rfl _ _ (w.heap.size + 2) _ _ _ _ rfl HEnd.out.1 Try.underlying30 rfl (by kernel_rfl) rfl) rfl ?_
    exact ⟨_, _, _, _, _, rfl, HEnd.out.2.1, fun k q => (HPE.out.fF k q).imp id (fun q => by omega), HEnd.out.2.2.1, HEnd.out.2.2.2, fun k q => (HPE.out.gG k q).imp id (fun q => by omega), HPE.out.ap, HRl.out.2.1, HRl.out.2.2.1, HRl.out.2.2.2⟩
  by_cases hk3 : kd = 3
  · subst hk3
    have ca := HRa0.out.cells
    obtain ⟨y_0, y_1, _, _⟩ := row2_cells HX0.out
    obtain ⟨a_0, a_1, a_2, a_3, a_4, a_5, a_6⟩ := ca
    rw [eW] at y_0 y_1 a_0 a_1 a_2 a_3 a_4 a_5 a_6
    go_enter Try.func9, Try.ntmps9
    go_wp2_with fail
    rw [← eW]
    clear y_0 y_1 a_0 a_1 a_2 a_3 a_4 a_5 a_6
    refine (refDouble_any G n _ L fr to i _ HP0.out.doc hl).mono ?_
    rintro e w2 ⟨v2, L2, ce, G2, rfl, hD, hS2, hG2, hb2⟩
    have HRl : Hid (dblE n B fr to i = ce ∧ Rel n (dblN n B fr to i) L2 ∧ L2.length ≤ L.length + 1 ∧ Else fr to L L2) := HRel.out.dbp HLim.out hD
    clear hD
    obtain ⟨av2, cv2, ev2⟩ := hS2.isS.form
    subst ev2
    obtain ⟨w3, eW3⟩ : ∃ X, X = w2.alloc (.cells #[.int .i64 (n : Int), .slice av2 L2.length cv2] 30) := ⟨_, rfl⟩
    have hb3 : Below w2.heap.size w2 w3 := by rw [eW3]; exact (Below.refl _ _).alloc (Nat.le_refl _) _
    obtain ⟨zb, ezb⟩ : ∃ zb, zb = w2.heap.size := ⟨_, rfl⟩
    have HZb : Hid (w3.heap[zb]? = some (.cells #[.int .i64 (n : Int), .slice av2 L2.length cv2] 30)) := (by rw [eW3, ezb]; exact heap_alloc_new w2 _)
    have HPE : Hid (PlE F G F G2 w nb n B (.slice av2 L2.length cv2) L2 w3) := (HP0.out.docs hS2 hG2 hb2).below hb3
    have hb03 : Below W0.heap.size W0 w3 := hb2.trans (hb3.mono hb2.size)
    have HRa : Hid (RowA7 (w.heap.size + 1) 3 fr to i at_ mask (.slice ap p.length cp) w3) := HRa0.out.below hb03
    have HzF : Hid (¬ F zb ∧ w.heap.size + 2 < zb) := (by have h1 := hb2.size; have h2 := hs0; rw [ezb]; exact ⟨fun q => by have := HP0.out.fl _ q; omega, by omega⟩)
    obtain ⟨a_0, a_1, a_2, a_3, a_4, a_5, a_6⟩ := HRa.out.cells
    rw [eW3] at a_0 a_1 a_2 a_3 a_4 a_5 a_6
    clear hb2 hb3 hb03 eW hS2 hG2
    go_upto_region 20 with fail
    rw [← eW3]
    clear eW3 a_0 a_1 a_2 a_3 a_4 a_5 a_6
    (try rw [← ezb])
    clear ezb
    refine wp_region_held_drew (S := fun W' => W'.heap[zb]? = some (.cells #[.int .i64 (n : Int), .slice av2 L2.length cv2] 30) ∧ RowA7 (w.heap.size + 1) 3 fr to i at_ mask (.slice ap p.length cp) W') (by kernel_rfl) ⟨HZb.out, HRa.out.below (Below.refl _ _).drew⟩ (fun hHeld => ?_)
    obtain ⟨Up6u0, eW⟩ : ∃ X, X = w3.drew := ⟨_, rfl⟩
    have hb : Below w3.heap.size w3 Up6u0 := by rw [eW]; exact (Below.refl _ _).drew
    replace HPE : Hid (PlE F G F G2 w nb n B (.slice av2 L2.length cv2) L2 Up6u0) := HPE.out.below hb
    rw [← eW] at hHeld ⊢
    clear eW hb
    refine tkW 0 (some 149) (v := ?_) ?_ hHeld ?_
    rotate_left
    · (intro w hSw; (try dsimp only at hSw); obtain ⟨hz, ha⟩ := hSw; obtain ⟨z_0, z_1, _, _⟩ := row2_cells hz; obtain ⟨a_0, a_1, a_2, a_3, a_4, a_5, a_6⟩ := ha.cells; go_simp; try with_reducible rfl)
    refine tkW 1 (some 150) (v := ?_) ?_ hHeld ?_
    rotate_left
    · (intro w _; go_simp; try with_reducible rfl)
    refine tkW 2 (some 151) (v := ?_) ?_ hHeld ?_
    rotate_left
    · (intro w _; go_simp; try with_reducible rfl)
    refine tkW 3 (some 152) (v := ?_) ?_ hHeld ?_
    rotate_left
    · (intro w hSw; (try dsimp only at hSw); obtain ⟨hz, ha⟩ := hSw; obtain ⟨z_0, z_1, _, _⟩ := row2_cells hz; obtain ⟨a_0, a_1, a_2, a_3, a_4, a_5, a_6⟩ := ha.cells; go_simp; try with_reducible rfl)
    refine tkW 4 (some 153) (v := ?_) ?_ hHeld ?_
    rotate_left
    · (intro w _; go_simp; try with_reducible rfl)
    refine tkW 5 (some 154) (v := ?_) ?_ hHeld ?_
    rotate_left
    · (intro w hSw; (try dsimp only at hSw); obtain ⟨hz, ha⟩ := hSw; obtain ⟨z_0, z_1, _, _⟩ := row2_cells hz; obtain ⟨a_0, a_1, a_2, a_3, a_4, a_5, a_6⟩ := ha.cells; go_simp; try with_reducible rfl)
    refine tkW 6 (some 155) (v := ?_) ?_ hHeld ?_
    rotate_left
    · (intro w _; go_simp; try with_reducible rfl)
    refine tkW 7 (some 156) (v := ?_) ?_ hHeld ?_
    rotate_left
    · (intro w hSw; (try dsimp only at hSw); obtain ⟨hz, ha⟩ := hSw; obtain ⟨z_0, z_1, _, _⟩ := row2_cells hz; obtain ⟨a_0, a_1, a_2, a_3, a_4, a_5, a_6⟩ := ha.cells; go_simp; try with_reducible rfl)
    refine tkW 9 (some 158) (v := ?_) ?_ hHeld ?_
    rotate_left
    · (intro w _; go_simp; try with_reducible rfl)
    refine wpAnyH_ready (rs := [8]) (by kernel_rfl) (by simp) ?_
    refine AllReadyH.cons (o := ⟨some 157, _, _, _, _, _⟩) rfl (fun K hK => ?_) AllReadyH.nil
    go_simp
    refine (double_any F nb n B fr to i _ HPE.out.net).mono ?_
    rintro e Up6u1 ⟨rfl, hnp⟩
    rw [HRl.out.1]
    (try go_wp2_with fail)
    obtain ⟨F3, hpe, hto, _⟩ := HPE.out.nets hnp
    have hS3 : Up6u1.heap[zb]? = some (.cells #[.int .i64 (n : Int), .slice av2 L2.length cv2] 30) ∧ RowA7 (w.heap.size + 1) 3 fr to i at_ mask (.slice ap p.length cp) Up6u1 := ⟨row_touch hHeld.1 hto HzF.out.1, ⟨row_touch hHeld.2.out hto (HPE.out.fno (by omega) (by omega))⟩⟩
    replace HPE : Hid (PlE F G F3 G2 w nb n (dblN n B fr to i) (.slice av2 L2.length cv2) L2 Up6u1) := hpe
    clear hnp hpe hto
    refine hK.out _ _ (hS3) (fun hHeld2 => ?_)
    clear hK K hHeld
    have hHeld := hHeld2
    clear hHeld2
    (try simp only [Act.put, List.setIfInBounds_toArray, List.set_cons_zero, List.set_cons_succ])
    clear hS3
    refine tkW 10 (some 159) (v := .bool true) ?_ hHeld ?_
    · (intro w hSw; (try dsimp only at hSw); obtain ⟨hz, ha⟩ := hSw; obtain ⟨z_0, z_1, _, _⟩ := row2_cells hz; obtain ⟨a_0, a_1, a_2, a_3, a_4, a_5, a_6⟩ := ha.cells; go_simp; try simp)
    refine wpAnyH_ready (rs := [11]) (by kernel_rfl) (by simp) ?_
    refine AllReadyH.cons (o := ⟨none, _, _, _, _, _⟩) rfl (fun K hK => ?_) AllReadyH.nil
    obtain ⟨r_0, r_1, r_2, r_3⟩ := row2_cells HPE.out.res
    have HEnd := hide9 HPE.out.out
    go_simp
    refine hK.out _ _ (⟨row_set_other (row_set_other hHeld.1 (by have := HzF.out.2; omega)) (by have := HzF.out.2; omega), (hHeld.2.set (by omega)).set (by omega)⟩) (fun hHeld2 => ?_)
    clear hK K hHeld
    have hHeld := hHeld2
    clear hHeld2
    (try simp only [Act.put, List.setIfInBounds_toArray, List.set_cons_zero, List.set_cons_succ])
    clear r_0 r_1 r_2 r_3
    refine tkW 12 (some 7) (v := ?_) ?_ hHeld ?_
    rotate_left
    · (intro w _; go_simp; try with_reducible rfl)
    refine wpAnyH_done (by kernel_rfl) ?_ _
    clear hHeld
    go_wp2
    (try simp only [Exit.inBlock, Exit.then])
    refine bodyPost_ret (results_cell_row2 rfl _ _ (w.heap.size + 2) _ _ _ _ rfl HEnd.out.1 Try.underlying30 rfl (by kernel_rfl) rfl) rfl ?_
    exact ⟨_, _, _, _, _, rfl, HEnd.out.2.1, fun k q => (HPE.out.fF k q).imp id (fun q => by omega), HEnd.out.2.2.1, HEnd.out.2.2.2, fun k q => (HPE.out.gG k q).imp id (fun q => by omega), HPE.out.ap, HRl.out.2.1, HRl.out.2.2.1, HRl.out.2.2.2⟩
  by_cases hk4 : kd = 4
  · subst hk4
    have ca := HRa0.out.cells
    obtain ⟨y_0, y_1, _, _⟩ := row2_cells HX0.out
    obtain ⟨a_0, a_1, a_2, a_3, a_4, a_5, a_6⟩ := ca
    rw [eW] at y_0 y_1 a_0 a_1 a_2 a_3 a_4 a_5 a_6
    go_enter Try.func9, Try.ntmps9
    go_wp2_with fail
    rw [← eW]
    clear y_0 y_1 a_0 a_1 a_2 a_3 a_4 a_5 a_6
    refine (refNSpoil_any G n _ L fr to i at_ mask _ HP0.out.doc hl HLim.out hmw).mono ?_
    rintro e w2 ⟨v2, L2, ce, G2, rfl, hD, hS2, hG2, hb2⟩
    have HRl : Hid (spE n B fr to i at_ mask = ce ∧ Rel n (spN n B fr to i at_ mask) L2 ∧ L2.length ≤ L.length + 1 ∧ Else fr to L L2) := HRel.out.spp hD
    clear hD
    obtain ⟨av2, cv2, ev2⟩ := hS2.isS.form
    subst ev2
    obtain ⟨w3, eW3⟩ : ∃ X, X = w2.alloc (.cells #[.int .i64 (n : Int), .slice av2 L2.length cv2] 30) := ⟨_, rfl⟩
    have hb3 : Below w2.heap.size w2 w3 := by rw [eW3]; exact (Below.refl _ _).alloc (Nat.le_refl _) _
    obtain ⟨zb, ezb⟩ : ∃ zb, zb = w2.heap.size := ⟨_, rfl⟩
    have HZb : Hid (w3.heap[zb]? = some (.cells #[.int .i64 (n : Int), .slice av2 L2.length cv2] 30)) := (by rw [eW3, ezb]; exact heap_alloc_new w2 _)
    have HPE : Hid (PlE F G F G2 w nb n B (.slice av2 L2.length cv2) L2 w3) := (HP0.out.docs hS2 hG2 hb2).below hb3
    have hb03 : Below W0.heap.size W0 w3 := hb2.trans (hb3.mono hb2.size)
    have HRa : Hid (RowA7 (w.heap.size + 1) 4 fr to i at_ mask (.slice ap p.length cp) w3) := HRa0.out.below hb03
    have HzF : Hid (¬ F zb ∧ w.heap.size + 2 < zb) := (by have h1 := hb2.size; have h2 := hs0; rw [ezb]; exact ⟨fun q => by have := HP0.out.fl _ q; omega, by omega⟩)
    obtain ⟨a_0, a_1, a_2, a_3, a_4, a_5, a_6⟩ := HRa.out.cells
    rw [eW3] at a_0 a_1 a_2 a_3 a_4 a_5 a_6
    clear hb2 hb3 hb03 eW hS2 hG2
    go_upto_region 23 with fail
    rw [← eW3]
    clear eW3 a_0 a_1 a_2 a_3 a_4 a_5 a_6
    (try rw [← ezb])
    clear ezb
    refine wp_region_held_drew (S := fun W' => W'.heap[zb]? = some (.cells #[.int .i64 (n : Int), .slice av2 L2.length cv2] 30) ∧ RowA7 (w.heap.size + 1) 4 fr to i at_ mask (.slice ap p.length cp) W') (by kernel_rfl) ⟨HZb.out, HRa.out.below (Below.refl _ _).drew⟩ (fun hHeld => ?_)
    obtain ⟨Up7u0, eW⟩ : ∃ X, X = w3.drew := ⟨_, rfl⟩
    have hb : Below w3.heap.size w3 Up7u0 := by rw [eW]; exact (Below.refl _ _).drew
    replace HPE : Hid (PlE F G F G2 w nb n B (.slice av2 L2.length cv2) L2 Up7u0) := HPE.out.below hb
    rw [← eW] at hHeld ⊢
    clear eW hb
    refine tkW 0 (some 177) (v := ?_) ?_ hHeld ?_
    rotate_left
    · (intro w hSw; (try dsimp only at hSw); obtain ⟨hz, ha⟩ := hSw; obtain ⟨z_0, z_1, _, _⟩ := row2_cells hz; obtain ⟨a_0, a_1, a_2, a_3, a_4, a_5, a_6⟩ := ha.cells; go_simp; try with_reducible rfl)
    refine tkW 1 (some 178) (v := ?_) ?_ hHeld ?_
    rotate_left
    · (intro w _; go_simp; try with_reducible rfl)
    refine tkW 2 (some 179) (v := ?_) ?_ hHeld ?_
    rotate_left
    · (intro w _; go_simp; try with_reducible rfl)
    refine tkW 3 (some 180) (v := ?_) ?_ hHeld ?_
    rotate_left
    · (intro w hSw; (try dsimp only at hSw); obtain ⟨hz, ha⟩ := hSw; obtain ⟨z_0, z_1, _, _⟩ := row2_cells hz; obtain ⟨a_0, a_1, a_2, a_3, a_4, a_5, a_6⟩ := ha.cells; go_simp; try with_reducible rfl)
    refine tkW 4 (some 181) (v := ?_) ?_ hHeld ?_
    rotate_left
    · (intro w _; go_simp; try with_reducible rfl)
    refine tkW 5 (some 182) (v := ?_) ?_ hHeld ?_
    rotate_left
    · (intro w hSw; (try dsimp only at hSw); obtain ⟨hz, ha⟩ := hSw; obtain ⟨z_0, z_1, _, _⟩ := row2_cells hz; obtain ⟨a_0, a_1, a_2, a_3, a_4, a_5, a_6⟩ := ha.cells; go_simp; try with_reducible rfl)
    refine tkW 6 (some 183) (v := ?_) ?_ hHeld ?_
    rotate_left
    · (intro w _; go_simp; try with_reducible rfl)
    refine tkW 7 (some 184) (v := ?_) ?_ hHeld ?_
    rotate_left
    · (intro w hSw; (try dsimp only at hSw); obtain ⟨hz, ha⟩ := hSw; obtain ⟨z_0, z_1, _, _⟩ := row2_cells hz; obtain ⟨a_0, a_1, a_2, a_3, a_4, a_5, a_6⟩ := ha.cells; go_simp; try with_reducible rfl)
    refine tkW 8 (some 185) (v := ?_) ?_ hHeld ?_
    rotate_left
    · (intro w _; go_simp; try with_reducible rfl)
    refine tkW 9 (some 186) (v := ?_) ?_ hHeld ?_
    rotate_left
    · (intro w hSw; (try dsimp only at hSw); obtain ⟨hz, ha⟩ := hSw; obtain ⟨z_0, z_1, _, _⟩ := row2_cells hz; obtain ⟨a_0, a_1, a_2, a_3, a_4, a_5, a_6⟩ := ha.cells; go_simp; try with_reducible rfl)
    refine tkW 10 (some 187) (v := ?_) ?_ hHeld ?_
    rotate_left
    · (intro w _; go_simp; try with_reducible rfl)
    refine tkW 11 (some 188) (v := ?_) ?_ hHeld ?_
    rotate_left
    · (intro w hSw; (try dsimp only at hSw); obtain ⟨hz, ha⟩ := hSw; obtain ⟨z_0, z_1, _, _⟩ := row2_cells hz; obtain ⟨a_0, a_1, a_2, a_3, a_4, a_5, a_6⟩ := ha.cells; go_simp; try with_reducible rfl)
    refine tkW 13 (some 190) (v := ?_) ?_ hHeld ?_
    rotate_left
    · (intro w _; go_simp; try with_reducible rfl)
    refine wpAnyH_ready (rs := [12]) (by kernel_rfl) (by simp) ?_
    refine AllReadyH.cons (o := ⟨some 189, _, _, _, _, _⟩) rfl (fun K hK => ?_) AllReadyH.nil
    go_simp
    refine (nspoil_any F nb n B fr to i at_ mask _ HPE.out.net).mono ?_
    rintro e Up7u1 ⟨rfl, hnp⟩
    rw [HRl.out.1]
    (try go_wp2_with fail)
    obtain ⟨F3, hpe, hto, _⟩ := HPE.out.nets hnp.p
    have hS3 : Up7u1.heap[zb]? = some (.cells #[.int .i64 (n : Int), .slice av2 L2.length cv2] 30) ∧ RowA7 (w.heap.size + 1) 4 fr to i at_ mask (.slice ap p.length cp) Up7u1 := ⟨row_touch hHeld.1 hto HzF.out.1, ⟨row_touch hHeld.2.out hto (HPE.out.fno (by omega) (by omega))⟩⟩
    replace HPE : Hid (PlE F G F3 G2 w nb n (spN n B fr to i at_ mask) (.slice av2 L2.length cv2) L2 Up7u1) := hpe
    clear hnp hpe hto
    refine hK.out _ _ (hS3) (fun hHeld2 => ?_)
    clear hK K hHeld
    have hHeld := hHeld2
    clear hHeld2
    (try simp only [Act.put, List.setIfInBounds_toArray, List.set_cons_zero, List.set_cons_succ])
    clear hS3
    refine tkW 14 (some 191) (v := .bool true) ?_ hHeld ?_
    · (intro w hSw; (try dsimp only at hSw); obtain ⟨hz, ha⟩ := hSw; obtain ⟨z_0, z_1, _, _⟩ := row2_cells hz; obtain ⟨a_0, a_1, a_2, a_3, a_4, a_5, a_6⟩ := ha.cells; go_simp; try simp)
    refine wpAnyH_ready (rs := [15]) (by kernel_rfl) (by simp) ?_
    refine AllReadyH.cons (o := ⟨none, _, _, _, _, _⟩) rfl (fun K hK => ?_) AllReadyH.nil
    obtain ⟨r_0, r_1, r_2, r_3⟩ := row2_cells HPE.out.res
    have HEnd := hide9 HPE.out.out
    go_simp
    refine hK.out _ _ (⟨row_set_other (row_set_other hHeld.1 (by have := HzF.out.2; omega)) (by have := HzF.out.2; omega), (hHeld.2.set (by omega)).set (by omega)⟩) (fun hHeld2 => ?_)
    clear hK K hHeld
    have hHeld := hHeld2
    clear hHeld2
    (try simp only [Act.put, List.setIfInBounds_toArray, List.set_cons_zero, List.set_cons_succ])
    clear r_0 r_1 r_2 r_3
    refine tkW 16 (some 7) (v := ?_) ?_ hHeld ?_
    rotate_left
    · (intro w _; go_simp; try with_reducible rfl)
    refine wpAnyH_done (by kernel_rfl) ?_ _
    clear hHeld
    go_wp2
    (try simp only [Exit.inBlock, Exit.then])
    refine bodyPost_ret (results_cell_row2 rfl _ _ (w.heap.size + 2) _ _ _ _ rfl HEnd.out.1 Try.underlying30 rfl (by kernel_rfl) rfl) rfl ?_
    exact ⟨_, _, _, _, _, rfl, HEnd.out.2.1, fun k q => (HPE.out.fF k q).imp id (fun q => by omega), HEnd.out.2.2.1, HEnd.out.2.2.2, fun k q => (HPE.out.gG k q).imp id (fun q => by omega), HPE.out.ap, HRl.out.2.1, HRl.out.2.2.1, HRl.out.2.2.2⟩
  by_cases hk1 : kd = 1
  · subst hk1
    have ca := HRa0.out.cells
    obtain ⟨y_0, y_1, _, _⟩ := row2_cells HX0.out
    obtain ⟨a_0, a_1, a_2, a_3, a_4, a_5, a_6⟩ := ca
    rw [eW] at y_0 y_1 a_0 a_1 a_2 a_3 a_4 a_5 a_6
    go_enter Try.func9, Try.ntmps9
    go_wp2_with fail
    rw [← eW]
    clear y_0 y_1 a_0 a_1 a_2 a_3 a_4 a_5 a_6
    refine (refDeliver_any G n _ L fr to i _ HP0.out.doc hl).mono ?_
    rintro e w2 ⟨v2, qv, G2, rfl, hS2, hpk, hG2, hb2⟩
    obtain ⟨P0, eP0⟩ : ∃ P, P = (pcAt n B fr to i).1 := ⟨_, rfl⟩
    have hq2 : IsBG G w2 qv P0 := (by rw [eP0]; exact HRel.out.qbytes hpk (fun k q => q))
    have HPe : Hid (P0 = (pcAt n B fr to i).1) := eP0
    obtain ⟨aq, cq, eq, _⟩ := id hq2
    subst eq
    have HQ2 : Hid (IsBG G w2 (.slice aq P0.length cq) P0) := hq2
    clear hpk eP0 hq2
    obtain ⟨hc0, hr0⟩ := HRel.out.dvl (f := fr) (t := to) (i := i)
    obtain ⟨ce, ece⟩ : ∃ c, c = peekE n L fr to i := ⟨_, rfl⟩
    have HCe : Hid (ce = peekE n L fr to i) := ece
    obtain ⟨L2, eL2⟩ : ∃ X, X = dvL n L fr to i := ⟨_, rfl⟩
    rw [← ece] at hc0 ⊢
    rw [← eL2] at hr0 hS2
    have HRl : Hid (withE n B fr to i = ce ∧ Rel n (loseN n B fr to i) L2 ∧ L2.length ≤ L.length + 1 ∧ Else fr to L L2) := ⟨hc0, hr0⟩
    clear hc0 hr0 ece eL2
    obtain ⟨av2, cv2, ev2⟩ := hS2.isS.form
    subst ev2
    obtain ⟨w3, eW3⟩ : ∃ X, X = w2.alloc (.cells #[.int .i64 (n : Int), .slice av2 L2.length cv2] 30) := ⟨_, rfl⟩
    have hb3 : Below w2.heap.size w2 w3 := by rw [eW3]; exact (Below.refl _ _).alloc (Nat.le_refl _) _
    obtain ⟨zb, ezb⟩ : ∃ zb, zb = w2.heap.size := ⟨_, rfl⟩
    have HZb : Hid (w3.heap[zb]? = some (.cells #[.int .i64 (n : Int), .slice av2 L2.length cv2] 30)) := (by rw [eW3, ezb]; exact heap_alloc_new w2 _)
    have HPE : Hid (PlE F G F G2 w nb n B (.slice av2 L2.length cv2) L2 w3) := (HP0.out.docs hS2 hG2 hb2).below hb3
    have hb03 : Below W0.heap.size W0 w3 := hb2.trans (hb3.mono hb2.size)
    have HRa : Hid (RowA7 (w.heap.size + 1) 1 fr to i at_ mask (.slice ap p.length cp) w3) := HRa0.out.below hb03
    have HzF : Hid (¬ F zb ∧ w.heap.size + 2 < zb) := (by have h1 := hb2.size; have h2 := hs0; rw [ezb]; exact ⟨fun q => by have := HP0.out.fl _ q; omega, by omega⟩)
    have HQ3 : Hid (IsBG G w3 (.slice aq P0.length cq) P0) := HQ2.out.keep (fun k q => hb3.block k (by have h1 := HP0.out.gl k q; have h2 := hb2.size; omega))
    obtain ⟨a_0, a_1, a_2, a_3, a_4, a_5, a_6⟩ := HRa.out.cells
    rw [eW3] at a_0 a_1 a_2 a_3 a_4 a_5 a_6
    clear hb2 hb3 hb03 eW hS2 hG2
    go_wp2_with fail
    rw [← eW3]
    clear a_0 a_1 a_2 a_3 a_4 a_5 a_6
    refine (deliver_any F nb n B fr to i _ HPE.out.net).mono ?_
    rintro e w4 ⟨pv3, rfl, hfr, hns⟩
    rw [HRl.out.1]
    obtain ⟨F3, hpe, hto, _⟩ := HPE.out.nets hns.p
    have HZ4 := hide9 (row_touch HZb.out hto HzF.out.1)
    have HR4 : Hid (RowA7 (w.heap.size + 1) 1 fr to i at_ mask (.slice ap p.length cp) w4) := ⟨row_touch HRa.out.out hto (HPE.out.fno (by omega) (by omega))⟩
    have HQ4 : Hid (IsBG (fun k => k ≠ w.heap.size + 2) w4 (.slice aq P0.length cq) P0) := (HQ3.out.keep (fun k q => hto.block k (by have h1 := HPE.out.gl k q; have h2 := HPE.out.to.size; omega) (fun q2 => HapG.out k q2 q))).mono (fun k q => by have := HPE.out.gl k q; show k ≠ _; omega)
    rw [← HPe.out] at hfr
    have hPl : P0.length ≤ 281474976710656 := (by obtain ⟨_, _, _, _, h9, _⟩ := HQ4.out; exact h9)
    have hb9 : IsBG (fun k => k ≠ w.heap.size + 2) w4 pv3 P0 := hfr.bg hPl (fun k q => by have h1 := row_lt HPE.out.res; show k ≠ _; omega)
    obtain ⟨a3, c3, e3, _⟩ := id hb9
    subst e3
    have HB4 : Hid (IsBG (fun k => k ≠ w.heap.size + 2) w4 (.slice a3 P0.length c3) P0) := hb9
    replace HPE : Hid (PlE F G F3 G2 w nb n (loseN n B fr to i) (.slice av2 L2.length cv2) L2 w4) := hpe
    clear hns hpe hto hfr hb9 HQ3 HZb HRa eW3
    have HZb : Hid (w4.heap[zb]? = some (.cells #[.int .i64 (n : Int), .slice av2 L2.length cv2] 30)) := HZ4
    clear HZ4
    (try rw [← ezb])
    go_upto_region 14 with fail
    (try rw [← ezb])
    clear ezb
    refine wp_region_held_drew (S := fun W' => W'.heap[zb]? = some (.cells #[.int .i64 (n : Int), .slice av2 L2.length cv2] 30) ∧ RowA7 (w.heap.size + 1) 1 fr to i at_ mask (.slice ap p.length cp) W' ∧ IsBG (fun k => k ≠ w.heap.size + 2) W' (.slice a3 P0.length c3) P0 ∧ IsBG (fun k => k ≠ w.heap.size + 2) W' (.slice aq P0.length cq) P0) (by kernel_rfl) ⟨HZb.out, HR4.out.below (Below.refl _ _).drew, HB4.out, HQ4.out⟩ (fun hHeld => ?_)
    obtain ⟨Uq8u0, eW⟩ : ∃ X, X = w4.drew := ⟨_, rfl⟩
    have hb : Below w4.heap.size w4 Uq8u0 := by rw [eW]; exact (Below.refl _ _).drew
    replace HPE : Hid (PlE F G F3 G2 w nb n (loseN n B fr to i) (.slice av2 L2.length cv2) L2 Uq8u0) := HPE.out.below hb
    rw [← eW] at hHeld ⊢
    clear eW hb
    refine tkW 0 (some 100) (v := ?_) ?_ hHeld ?_
    rotate_left
    · (intro w hSw; (try dsimp only at hSw); obtain ⟨hz, ha, hx1, hx2⟩ := hSw; obtain ⟨z_0, z_1, _, _⟩ := row2_cells hz; obtain ⟨a_0, a_1, a_2, a_3, a_4, a_5, a_6⟩ := ha.cells; have kc1 := conv_txt hx1.isB; have kc2 := conv_txt hx2.isB; go_simp; try with_reducible rfl)
    refine tkW 1 (some 101) (v := ?_) ?_ hHeld ?_
    rotate_left
    · (intro w _; go_simp; try with_reducible rfl)
    refine tkW 2 (some 102) (v := ?_) ?_ hHeld ?_
    rotate_left
    · (intro w _; go_simp; try with_reducible rfl)
    refine tkW 3 (some 103) (v := .bool true) ?_ hHeld ?_
    · (intro w hSw; (try dsimp only at hSw); obtain ⟨hz, ha, hx1, hx2⟩ := hSw; obtain ⟨z_0, z_1, _, _⟩ := row2_cells hz; obtain ⟨a_0, a_1, a_2, a_3, a_4, a_5, a_6⟩ := ha.cells; have kc1 := conv_txt hx1.isB; have kc2 := conv_txt hx2.isB; go_simp; try simp)
    refine tkW 4 (some 104) (v := ?_) ?_ hHeld ?_
    rotate_left
    · (intro w _; go_simp; try with_reducible rfl)
    refine tkW 5 (some 105) (v := ?_) ?_ hHeld ?_
    rotate_left
    · (intro w _; go_simp; try with_reducible rfl)
    refine tkW 6 (some 106) (v := ?_) ?_ hHeld ?_
    rotate_left
    · (intro w hSw; (try dsimp only at hSw); obtain ⟨hz, ha, hx1, hx2⟩ := hSw; obtain ⟨z_0, z_1, _, _⟩ := row2_cells hz; obtain ⟨a_0, a_1, a_2, a_3, a_4, a_5, a_6⟩ := ha.cells; have kc1 := conv_txt hx1.isB; have kc2 := conv_txt hx2.isB; go_simp; try with_reducible rfl)
    refine tkW 7 (some 107) (v := ?_) ?_ hHeld ?_
    rotate_left
    · (intro w _; go_simp; try with_reducible rfl)
    refine tkW 8 (some 108) (v := ?_) ?_ hHeld ?_
    rotate_left
    · (intro w hSw; (try dsimp only at hSw); obtain ⟨hz, ha, hx1, hx2⟩ := hSw; obtain ⟨z_0, z_1, _, _⟩ := row2_cells hz; obtain ⟨a_0, a_1, a_2, a_3, a_4, a_5, a_6⟩ := ha.cells; have kc1 := conv_txt hx1.isB; have kc2 := conv_txt hx2.isB; go_simp; try with_reducible rfl)
    refine tkW 9 (some 109) (v := .bool true) ?_ hHeld ?_
    · (intro w hSw; (try dsimp only at hSw); obtain ⟨hz, ha, hx1, hx2⟩ := hSw; obtain ⟨z_0, z_1, _, _⟩ := row2_cells hz; obtain ⟨a_0, a_1, a_2, a_3, a_4, a_5, a_6⟩ := ha.cells; have kc1 := conv_txt hx1.isB; have kc2 := conv_txt hx2.isB; go_simp; try simp)
    refine tkW 10 (some 110) (v := ?_) ?_ hHeld ?_
    rotate_left
    · (intro w _; go_simp; try with_reducible rfl)
    refine wpAnyH_ready (rs := [11]) (by kernel_rfl) (by simp) ?_
    refine AllReadyH.cons (o := ⟨none, _, _, _, _, _⟩) rfl (fun K hK => ?_) AllReadyH.nil
    obtain ⟨r_0, r_1, r_2, r_3⟩ := row2_cells HPE.out.res
    have HEnd := hide9 HPE.out.out
    go_simp
    refine hK.out _ _ (⟨row_set_other (row_set_other hHeld.1 (by have := HzF.out.2; omega)) (by have := HzF.out.2; omega), (hHeld.2.1.set (by omega)).set (by omega), hHeld.2.2.1.keep (fun k q => (RowKit.Below.heap_setCell _ _ _ _ q).trans (RowKit.Below.heap_setCell _ _ _ _ q)), hHeld.2.2.2.keep (fun k q => (RowKit.Below.heap_setCell _ _ _ _ q).trans (RowKit.Below.heap_setCell _ _ _ _ q))⟩) (fun hHeld2 => ?_)
    clear hK K hHeld
    have hHeld := hHeld2
    clear hHeld2
    (try simp only [Act.put, List.setIfInBounds_toArray, List.set_cons_zero, List.set_cons_succ])
    clear r_0 r_1 r_2 r_3
    refine tkW 12 (some 7) (v := ?_) ?_ hHeld ?_
    rotate_left
    · (intro w _; go_simp; try with_reducible rfl)
    refine wpAnyH_done (by kernel_rfl) ?_ _
    clear hHeld
    go_wp2
    (try simp only [Exit.inBlock, Exit.then])
    refine bodyPost_ret (results_cell_row2 rfl _ _ (w.heap.size + 2) _ _ _ _ rfl HEnd.out.1 Try.underlying30 rfl (by kernel_rfl) rfl) rfl ?_
    exact ⟨_, _, _, _, _, rfl, HEnd.out.2.1, fun k q => (HPE.out.fF k q).imp id (fun q => by omega), HEnd.out.2.2.1, HEnd.out.2.2.2, fun k q => (HPE.out.gG k q).imp id (fun q => by omega), HPE.out.ap, HRl.out.2.1, HRl.out.2.2.1, HRl.out.2.2.2⟩
  by_cases hk0 : kd = 0
  · subst hk0
    have ca := HRa0.out.cells
    obtain ⟨y_0, y_1, _, _⟩ := row2_cells HX0.out
    obtain ⟨a_0, a_1, a_2, a_3, a_4, a_5, a_6⟩ := ca
    rw [eW] at y_0 y_1 a_0 a_1 a_2 a_3 a_4 a_5 a_6
    have HEW : Hid (W0 = ((w.alloc (.cells #[.int .i64 (n : Int), .slice a1 L.length c1] 30)).alloc (.cells #[.int .i64 0, .int .i64 fr, .int .i64 to, .int .i64 i, .int .i64 at_, .int .i64 mask, .slice ap p.length cp] 33)).alloc (.cells #[.int .i64 0, .slice none 0 0] 30)) := eW
    have HI1 := hide9 HI0.out.isB
    rw [eW] at HI1
    go_enter Try.func9, Try.ntmps9
    go_wp2_with (at_builtin; refine wpList_copyE rfl _ _ rfl _ p (by first | rfl | simp [Act.eval]) rfl HI1.out (by omega) ?_; intro v1 w1 ho1 hb1; rw [← HEW.out] at ho1 hb1; obtain ⟨ab, cb, ee1⟩ := ho1.form; subst ee1; have HO1 : Hid (OwnB W0.heap.size w1 (.slice ab p.length cb) p) := ho1; have HB1 : Hid (Below W0.heap.size W0 w1) := hb1; obtain ⟨x_0, x_1, _, _⟩ := row2_cells ((hb1.block _ (row_lt HX0.out)).trans HX0.out); obtain ⟨b_0, b_1, b_2, b_3, b_4, b_5, b_6⟩ := (HRa0.out.below hb1).cells; clear ho1 hb1)
    have HP1 : Hid (PlE F G F G w nb n B (.slice a1 L.length c1) L w1) := HP0.out.below HB1.out
    refine (refSend_any G n _ L fr to _ p _ HP1.out.doc hl (HI0.out.isB.below HB1.out)).mono ?_
    rintro e w2 ⟨v2, G2, rfl, hS2, _, hG2, hb2⟩
    obtain ⟨hc0, hr0⟩ := HRel.out.snd (f := fr) (t := to) p
    obtain ⟨ce, ece⟩ : ∃ c, c = dsE n L fr to p := ⟨_, rfl⟩
    obtain ⟨L2, eL2⟩ : ∃ X, X = dsL n L fr to p := ⟨_, rfl⟩
    rw [← ece] at hc0 ⊢
    rw [← eL2] at hr0 hS2
    have HRl : Hid (sendE n B fr to p = ce ∧ Rel n (sendN n B fr to p) L2 ∧ L2.length ≤ L.length + 1 ∧ Else fr to L L2) := ⟨hc0, hr0⟩
    clear hc0 hr0 ece eL2
    obtain ⟨av2, cv2, ev2⟩ := hS2.isS.form
    subst ev2
    obtain ⟨w3, eW3⟩ : ∃ X, X = w2.alloc (.cells #[.int .i64 (n : Int), .slice av2 L2.length cv2] 30) := ⟨_, rfl⟩
    have hb3 : Below w2.heap.size w2 w3 := by rw [eW3]; exact (Below.refl _ _).alloc (Nat.le_refl _) _
    obtain ⟨zb, ezb⟩ : ∃ zb, zb = w2.heap.size := ⟨_, rfl⟩
    have HZb : Hid (w3.heap[zb]? = some (.cells #[.int .i64 (n : Int), .slice av2 L2.length cv2] 30)) := (by rw [eW3, ezb]; exact heap_alloc_new w2 _)
    have HPE : Hid (PlE F G F G2 w nb n B (.slice av2 L2.length cv2) L2 w3) := (HP1.out.docs hS2 hG2 hb2).below hb3
    have hb13 : Below w1.heap.size w1 w3 := hb2.trans (hb3.mono hb2.size)
    have HRa : Hid (RowA7 (w.heap.size + 1) 0 fr to i at_ mask (.slice ap p.length cp) w3) := (HRa0.out.below HB1.out).below hb13
    have HO3 : Hid (OwnB W0.heap.size w3 (.slice ab p.length cb) p) := HO1.out.below hb13
    have HzF : Hid (¬ F zb ∧ w.heap.size + 2 < zb) := (by have h1 := hb2.size; have h2 := hs0; have h3 := HB1.out.size; rw [ezb]; exact ⟨fun q => by have := HP0.out.fl _ q; omega, by omega⟩)
    have HGk : Hid (∀ k, (Value.slice ab p.length cb).ownBlock = some k → ¬ F k ∧ ¬ G2 k ∧ w.heap.size + 2 < k ∧ zb ≠ k ∧ k < w3.heap.size) := fun k e => (by have h1 := World.ownsRow.lt HO1.out k e; have h2 := hb2.size; have h3 := hb13.size; exact ⟨fun q => by (have := HP0.out.fl k q; omega), fun q => by (rcases hG2 k q with q | q; have := HP0.out.gl k q; omega; omega), by omega, by omega, by omega⟩)
    obtain ⟨d_0, d_1, d_2, d_3, d_4, d_5, d_6⟩ := HRa.out.cells
    rw [eW3] at d_0 d_1 d_2 d_3 d_4 d_5 d_6
    clear hb2 hb3 hb13 eW hS2 hG2 x_0 x_1 b_0 b_1 b_2 b_3 b_4 b_5 b_6 y_0 y_1 a_0 a_1 a_2 a_3 a_4 a_5 a_6 HI1 HEW
    go_wp2_with fail
    rw [← eW3]
    clear d_0 d_1 d_2 d_3 d_4 d_5 d_6
    refine (send_any F nb n B fr to _ p _ HPE.out.net (HO3.out.isB (by omega))).mono ?_
    rintro e w4 ⟨rfl, hnp⟩
    rw [HRl.out.1]
    obtain ⟨F3, hpe, hto, hF3⟩ := HPE.out.nets hnp
    have HZx := hide9 (row_touch HZb.out hto HzF.out.1)
    have HO4 : Hid (OwnB W0.heap.size w4 (.slice ab p.length cb) p) := ownsRow_keep HO3.out (fun k e => hto.block k (HGk.out k e).2.2.2.2 (HGk.out k e).1)
    have HBF : Hid (BF w4 ab p.length) := HO4.out.bf
    have HGb : Hid (∀ g, ab = some ⟨g, 0, none⟩ → ¬ F3 g ∧ ¬ G2 g ∧ w.heap.size + 2 < g ∧ zb ≠ g) := fun g e => (by have h1 := HGk.out g (by rw [e]; rfl); exact ⟨fun q => by (rcases hF3 g q with q | q; exact h1.1 q; omega), h1.2.1, h1.2.2.1, h1.2.2.2.1⟩)
    replace HPE : Hid (PlE F G F3 G2 w nb n (sendN n B fr to p) (.slice av2 L2.length cv2) L2 w4) := hpe
    clear hnp hpe hto hF3 HO3 HO4 HO1 HZb HRa HGk eW3
    (try rw [← ezb])
    go_wp2
    (try rw [← ezb])
    clear ezb
    go_loopw [12] (fun iv wr => ∃ k : Nat, k ≤ p.length ∧ iv = .int .i64 (k : Int) ∧ Hid (BF wr ab p.length) ∧ Hid (PlE F G F3 G2 w nb n (sendN n B fr to p) (.slice av2 L2.length cv2) L2 wr) ∧ Hid (wr.heap[zb]? = some (.cells #[.int .i64 (n : Int), .slice av2 L2.length cv2] 30))) (fun iv _ => p.length - (intOf iv).toNat)
    case atStart => exact ⟨0, Nat.zero_le _, rfl, HBF, HPE, HZx⟩
    case round =>
      clear HBF HPE HZx
      obtain ⟨k, hk, rfl, HBF, HPE, HZx⟩ := hrel
      by_cases hlt : k < p.length
      · obtain ⟨g, eg, hcs⟩ := HBF.out.resolve_left (by intro e; omega)
        subst eg
        obtain ⟨⟨c9, hc9⟩, hf9⟩ := hcs k hlt
        have k1 : (k : Int) < (p.length : Int) := by omega
        have k0 : (0 : Int) ≤ (k : Int) := by omega
        have hc := UInt8.toNat_lt c9
        have HFE : Hid ((255 : Int) - (c9.toNat : Int) = ((UInt8.ofNat (255 - c9.toNat)).toNat : Int)) := flip_eq _
        have HGn := HGb.out g rfl
        have HBn : Hid (BF (wr.setCell ⟨g, k, none⟩ (.int .u8 ((UInt8.ofNat (255 - c9.toNat)).toNat : Int))) (some ⟨g, 0, none⟩) p.length) := HBF.out.set () k _
        have HPn := hide9 (HPE.out.write (k := k) (u := .int .u8 ((UInt8.ofNat (255 - c9.toNat)).toNat : Int)) HGn.1 HGn.2.1 HGn.2.2.1)
        have HZn : Hid ((wr.setCell ⟨g, k, none⟩ (.int .u8 ((UInt8.ofNat (255 - c9.toNat)).toNat : Int))).heap[zb]? = some (.cells #[.int .i64 (n : Int), .slice av2 L2.length cv2] 30)) := row_set_other HZx.out HGn.2.2.2
        have HGh := hide9 HGn
        clear HGn hcs
        generalize c9.toNat = c8 at *
        go_wp2
        rw [HFE.out]
        go_roundw
        case rel => exact ⟨k + 1, by omega, by go_num, HBn, HPn, HZn⟩
        case measure => simp [intOf]; omega
      · have hlt2 : ¬ (k : Int) < (p.length : Int) := by omega
        have hlt3 : decide ((k : Int) < (p.length : Int)) = false := decide_eq_false hlt2
        obtain ⟨z_0, z_1, _, _⟩ := row2_cells HZx.out
        obtain ⟨r_0, r_1, r_2, r_3⟩ := row2_cells HPE.out.res
        have HEnd := hide9 HPE.out.out
        go_wp2
        (try simp only [Exit.inBlock, Exit.then])
        refine bodyPost_ret (results_cell_row2 rfl _ _ (w.heap.size + 2) _ _ _ _ rfl HEnd.out.1 Try.underlying30 rfl (by kernel_rfl) rfl) rfl ?_
        exact ⟨_, _, _, _, _, rfl, HEnd.out.2.1, fun k q => (HPE.out.fF k q).imp id (fun q => by omega), HEnd.out.2.2.1, HEnd.out.2.2.2, fun k q => (HPE.out.gG k q).imp id (fun q => by omega), HPE.out.ap, HRl.out.2.1, HRl.out.2.2.1, HRl.out.2.2.2⟩
  have ca := HRa0.out.cells
  obtain ⟨y_0, y_1, _, _⟩ := row2_cells HX0.out
  obtain ⟨a_0, a_1, a_2, a_3, a_4, a_5, a_6⟩ := ca
  rw [eW] at y_0 y_1 a_0 a_1 a_2 a_3 a_4 a_5 a_6
  have d0 : (kd == 0) = false := by simpa using hk0
  have d1 : (kd == 1) = false := by simpa using hk1
  have d2 : (kd == 2) = false := by simpa using hk2
  have d3 : (kd == 3) = false := by simpa using hk3
  have d4 : (kd == 4) = false := by simpa using hk4
  go_enter Try.func9, Try.ntmps9
  go_wp2_with fail
  rw [← eW]
  clear y_0 y_1 a_0 a_1 a_2 a_3 a_4 a_5 a_6 eW
  refine (refPeek_any G n _ L fr to i _ HP0.out.doc).mono ?_
  rintro e w2 ⟨qv, rfl, hpk, hb2⟩
  obtain ⟨P0, eP0⟩ : ∃ P, P = (pcAt n B fr to i).1 := ⟨_, rfl⟩
  have hq2 : IsBG G w2 qv P0 := (by rw [eP0]; exact HRel.out.qbytes hpk (fun k q => q))
  have HPe : Hid (P0 = (pcAt n B fr to i).1) := eP0
  obtain ⟨aq, cq, eq, _⟩ := id hq2
  subst eq
  have HQ2 : Hid (IsBG G w2 (.slice aq P0.length cq) P0) := hq2
  clear hpk eP0 hq2
  have hc0 := (HRel.out.dvl (f := fr) (t := to) (i := i)).1
  obtain ⟨ce, ece⟩ : ∃ c, c = peekE n L fr to i := ⟨_, rfl⟩
  rw [← ece] at hc0 ⊢
  have HCd : Hid (withE n B fr to i = ce) := hc0
  clear hc0 ece
  have HP2 : Hid (PlE F G F G w nb n B (.slice a1 L.length c1) L w2) := HP0.out.below hb2
  have HY2 : Hid (w2.heap[w.heap.size]? = some (.cells #[.int .i64 (n : Int), .slice a1 L.length c1] 30)) := (hb2.block _ (row_lt HX0.out)).trans HX0.out
  obtain ⟨a_0, a_1, a_2, a_3, a_4, a_5, a_6⟩ := (HRa0.out.below hb2).cells
  clear hb2
  go_wp2_with fail
  clear a_0 a_1 a_2 a_3 a_4 a_5 a_6
  refine (peek_any F nb n B fr to i _ HP2.out.net).mono ?_
  rintro e w3 ⟨pv3, rfl, hfr, hb3⟩
  rw [HCd.out]
  rw [← HPe.out] at hfr
  have HQ3 : Hid (IsBG G w3 (.slice aq P0.length cq) P0) := HQ2.out.keep (fun k q => hb3.block k (by have h1 := HP2.out.gl k q; have h2 := HP2.out.to.size; omega))
  have hPl : P0.length ≤ 281474976710656 := (by obtain ⟨_, _, _, _, h9, _⟩ := HQ3.out; exact h9)
  obtain ⟨a3, c3, e3⟩ := hfr.form
  subst e3
  have kc1 := conv_txt (hfr.isB hPl)
  have kc2 := conv_txt HQ3.out.isB
  have HBF : Hid (BF w3 a3 P0.length) := hfr.bf
  have HGb : Hid (∀ g, a3 = some ⟨g, 0, none⟩ → ¬ F g ∧ ¬ G g ∧ w.heap.size + 2 < g ∧ w.heap.size ≠ g) := fun g e => (by have h1 := hfr.blk e; have h2 := row_lt HP2.out.res; exact ⟨fun q => by (have := HP2.out.net.lt g q; omega), fun q => by (have := HP2.out.doc.1 g q; omega), by omega, by omega⟩)
  have HPE : Hid (PlE F G F G w nb n B (.slice a1 L.length c1) L w3) := HP2.out.below hb3
  have HZx : Hid (w3.heap[w.heap.size]? = some (.cells #[.int .i64 (n : Int), .slice a1 L.length c1] 30)) := (hb3.block _ (row_lt HY2.out)).trans HY2.out
  clear hfr hb3 HP2 HY2 HQ3 HQ2
  go_wp2
  clear kc1 kc2
  go_loopw [30] (fun iv wr => ∃ k : Nat, k ≤ P0.length ∧ iv = .int .i64 (k : Int) ∧ Hid (BF wr a3 P0.length) ∧ Hid (PlE F G F G w nb n B (.slice a1 L.length c1) L wr) ∧ Hid (wr.heap[w.heap.size]? = some (.cells #[.int .i64 (n : Int), .slice a1 L.length c1] 30))) (fun iv _ => P0.length - (intOf iv).toNat)
  case atStart => exact ⟨0, Nat.zero_le _, rfl, HBF, HPE, HZx⟩
  case round =>
    clear HBF HPE HZx
    obtain ⟨k, hk, rfl, HBF, HPE, HZx⟩ := hrel
    by_cases hlt : k < P0.length
    · obtain ⟨g, eg, hcs⟩ := HBF.out.resolve_left (by intro e; omega)
      subst eg
      obtain ⟨⟨c9, hc9⟩, hf9⟩ := hcs k hlt
      have k1 : (k : Int) < (P0.length : Int) := by omega
      have k0 : (0 : Int) ≤ (k : Int) := by omega
      have hc := UInt8.toNat_lt c9
      have HFE : Hid ((255 : Int) - (c9.toNat : Int) = ((UInt8.ofNat (255 - c9.toNat)).toNat : Int)) := flip_eq _
      have HGn := HGb.out g rfl
      have HBn : Hid (BF (wr.setCell ⟨g, k, none⟩ (.int .u8 ((UInt8.ofNat (255 - c9.toNat)).toNat : Int))) (some ⟨g, 0, none⟩) P0.length) := HBF.out.set () k _
      have HPn := hide9 (HPE.out.write (k := k) (u := .int .u8 ((UInt8.ofNat (255 - c9.toNat)).toNat : Int)) HGn.1 HGn.2.1 HGn.2.2.1)
      have HZn : Hid ((wr.setCell ⟨g, k, none⟩ (.int .u8 ((UInt8.ofNat (255 - c9.toNat)).toNat : Int))).heap[w.heap.size]? = some (.cells #[.int .i64 (n : Int), .slice a1 L.length c1] 30)) := row_set_other HZx.out HGn.2.2.2
      have HGh := hide9 HGn
      clear HGn hcs
      generalize c9.toNat = c8 at *
      go_wp2
      rw [HFE.out]
      go_roundw
      case rel => exact ⟨k + 1, by omega, by go_num, HBn, HPn, HZn⟩
      case measure => simp [intOf]; omega
    · have hlt2 : ¬ (k : Int) < (P0.length : Int) := by omega
      have hlt3 : decide ((k : Int) < (P0.length : Int)) = false := decide_eq_false hlt2
      obtain ⟨z_0, z_1, _, _⟩ := row2_cells HZx.out
      obtain ⟨r_0, r_1, r_2, r_3⟩ := row2_cells HPE.out.res
      have HEnd := hide9 HPE.out.out
      have HRl : Hid (True ∧ Rel n B L ∧ L.length ≤ L.length + 1 ∧ Else fr to L L) := ⟨trivial, HRel.out, by omega, Else.refl _ _ _⟩
      go_wp2
      (try simp only [Exit.inBlock, Exit.then])
      refine bodyPost_ret (results_cell_row2 rfl _ _ (w.heap.size + 2) _ _ _ _ rfl HEnd.out.1 Try.underlying30 rfl (by kernel_rfl) rfl) rfl ?_
      exact ⟨_, _, _, _, _, rfl, HEnd.out.2.1, fun k q => (HPE.out.fF k q).imp id (fun q => by omega), HEnd.out.2.2.1, HEnd.out.2.2.2, fun k q => (HPE.out.gG k q).imp id (fun q => by omega), HPE.out.ap, HRl.out.2.1, HRl.out.2.2.1, HRl.out.2.2.2⟩

end Go.Proofs.Ytlcnfoljkcfplaa
