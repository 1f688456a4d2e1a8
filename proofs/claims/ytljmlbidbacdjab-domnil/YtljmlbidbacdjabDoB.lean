/- The dom of two nodes. -/
import Derived.Test.YtljmlbidbacdjabDoA
namespace Go.Proofs.Ytljmlbidbacdjab
open Go.RowKit Go.Shelf
set_option linter.unusedVariables false
set_option linter.unusedSimpArgs false

attribute [local go_sem] Oper.semAt_some

/-- Some blocks stay, and what the world has besides. -/
structure KpO (S : Nat → Prop) (w w' : World) : Prop where
  sz : w.heap.size ≤ w'.heap.size
  bl : ∀ k, S k → w'.heap[k]? = w.heap[k]?
  os : w'.os = w.os ∧ w'.tape = w.tape ∧ w'.output = w.output
theorem os_tr {a b c : World} (h : b.os = a.os ∧ b.tape = a.tape ∧ b.output = a.output) (g : c.os = b.os ∧ c.tape = b.tape ∧ c.output = b.output) : c.os = a.os ∧ c.tape = a.tape ∧ c.output = a.output := ⟨g.1.trans h.1, g.2.1.trans h.2.1, g.2.2.trans h.2.2⟩
theorem KpO.trans {S : Nat → Prop} {a b c : World} (h : KpO S a b) (g : KpO S b c) : KpO S a c := ⟨Nat.le_trans h.sz g.sz, fun k q => (g.bl k q).trans (h.bl k q), os_tr h.os g.os⟩
theorem os_be {B : Nat} {a b : World} (h : Below B a b) : b.os = a.os ∧ b.tape = a.tape ∧ b.output = a.output := ⟨h.os, h.tape, h.output⟩
theorem KpO.of_below {S : Nat → Prop} {a b : World} (h : Below a.heap.size a b) (hS : ∀ k, S k → k < a.heap.size) : KpO S a b := ⟨h.size, fun k q => h.block k (hS k q), os_be h⟩
theorem os_gr {a b : World} {r : Option Nat} (h : a.grownBy b r) : b.os = a.os ∧ b.tape = a.tape ∧ b.output = a.output := ⟨h.os, h.tape, h.output⟩
theorem Below.trans_keep {B mb : Nat} {X W W' : World} (h : Below B X W) (hk : KpO (fun k => k < W.heap.size ∧ k ≠ mb) W W') (hm : B ≤ mb) (hB : B ≤ W.heap.size) : Below B X W' := ⟨hk.os.1.trans h.os, hk.os.2.1.trans h.tape, hk.os.2.2.trans h.output, Nat.le_trans h.size hk.sz, fun k q => (hk.bl k ⟨Nat.lt_of_lt_of_le q hB, by omega⟩).trans (h.block k q)⟩
/-- The index: a key and its node's block. -/
abbrev Ix := St × Nat
def ixK (x : Ix) : St := x.1
def ixV (x : Ix) : Value := .pointer (some ⟨x.2, 0, none⟩)
theorem uIx : Try.prog.underlying 52 = some (.map 24 26) := by kernel_rfl
theorem zIx (w : World) : (zeroValue 26).run Try.prog w = .ok (.pointer none) w := by kernel_rfl
theorem hide8 {p : Prop} (h : p) : Hid p := h
theorem sizeVo : (Try.prog.info? 42).map (·.size) = some 6 := by kernel_rfl
/-- A mark at which the walk stops. -/
def StpD (p : Prop) : Prop := p
theorem StpD.to {p : Prop} (h : StpD p) : p := h
theorem StpD.of {p : Prop} (h : p) : StpD p := h

set_option maxRecDepth 100000 in
set_option maxHeartbeats 4000000 in
theorem join_first (nb pb : Nat) (k k2 : St) (tg tx tg2 tx2 : ByteArray) (av av2 : Value) (up2 pr2 nx2 : Option Addr) (w : World) (hn : w.heap[nb]? = some (.cells #[.int .i64 k.1, .int .i64 k.2, .string tg, .string tx, av, .pointer none, .pointer none, .pointer none, .pointer none, .pointer none] 65)) (hp : w.heap[pb]? = some (.cells #[.int .i64 k2.1, .int .i64 k2.2, .string tg2, .string tx2, av2, .pointer up2, .pointer none, .pointer none, .pointer pr2, .pointer nx2] 65)) (hne : nb ≠ pb) :
    Calls Try.prog 73 #[.pointer (some ⟨nb, 0, none⟩), .pointer (some ⟨pb, 0, none⟩), .pointer none] w fun e w' => e = .returned (.tuple #[]) ∧ w'.heap[nb]? = some (.cells #[.int .i64 k.1, .int .i64 k.2, .string tg, .string tx, av, .pointer (some ⟨pb, 0, none⟩), .pointer none, .pointer none, .pointer none, .pointer none] 65) ∧ w'.heap[pb]? = some (.cells #[.int .i64 k2.1, .int .i64 k2.2, .string tg2, .string tx2, av2, .pointer up2, .pointer (some ⟨nb, 0, none⟩), .pointer (some ⟨nb, 0, none⟩), .pointer pr2, .pointer nx2] 65) ∧ (∀ k, k ≠ nb → k ≠ pb → w'.heap[k]? = w.heap[k]?) ∧ w'.heap.size = w.heap.size ∧ (w'.os = w.os ∧ w'.tape = w.tape ∧ w'.output = w.output) := by
  obtain ⟨n0, n1, n2, n3, n4, n5, n6, n7, n8, n9⟩ := row10 hn
  obtain ⟨p0, p1, p2, p3, p4, p5, p6, p7, p8, p9⟩ := row10 hp
  have fnb5 : w.frozen? ⟨nb, 5, none⟩ = false := frozen_of_row w nb 5 _ _ hn
  have fnb8 : w.frozen? ⟨nb, 8, none⟩ = false := frozen_of_row w nb 8 _ _ hn
  have fnb9 : w.frozen? ⟨nb, 9, none⟩ = false := frozen_of_row w nb 9 _ _ hn
  have fpb6 : w.frozen? ⟨pb, 6, none⟩ = false := frozen_of_row w pb 6 _ _ hp
  have fpb7 : w.frozen? ⟨pb, 7, none⟩ = false := frozen_of_row w pb 7 _ _ hp
  have hne2 : pb ≠ nb := fun e => hne e.symm
  have Hn := hide8 hn
  have Hp := hide8 hp
  clear hn hp
  go_enter Try.func73, Try.ntmps73
  go_wp2
  clear n0 n1 n2 n3 n4 n5 n6 n7 n8 n9 p0 p1 p2 p3 p4 p5 p6 p7 p8 p9 fnb5 fnb8 fnb9 fpb6 fpb7
  refine bodyPost_end (results_none rfl _ _ _) rfl ?_
  have a1 := heap_setCell_same w nb 5 _ _ (.pointer (some ⟨pb, 0, none⟩)) Hn.out
  have a2 := heap_setCell_same _ nb 8 _ _ (.pointer none) a1
  have a3 := heap_setCell_same _ nb 9 _ _ (.pointer none) a2
  have b0 := (RowKit.Below.heap_setCell (((w.setCell ⟨nb, 5, none⟩ (.pointer (some ⟨pb, 0, none⟩))).setCell ⟨nb, 8, none⟩ (.pointer none))) ⟨nb, 9, none⟩ (.pointer none) pb hne2).trans ((RowKit.Below.heap_setCell ((w.setCell ⟨nb, 5, none⟩ (.pointer (some ⟨pb, 0, none⟩)))) ⟨nb, 8, none⟩ (.pointer none) pb hne2).trans ((RowKit.Below.heap_setCell w ⟨nb, 5, none⟩ (.pointer (some ⟨pb, 0, none⟩)) pb hne2).trans Hp.out))
  have b1 := heap_setCell_same _ pb 6 _ _ (.pointer (some ⟨nb, 0, none⟩)) b0
  have b2 := heap_setCell_same _ pb 7 _ _ (.pointer (some ⟨nb, 0, none⟩)) b1
  refine ⟨rfl, ?_, ?_, fun k q1 q2 => ?_, by simp [World.setCell], ⟨rfl, rfl, rfl⟩⟩
  · rw [RowKit.Below.heap_setCell _ _ _ _ hne, RowKit.Below.heap_setCell _ _ _ _ hne]; simpa using a3
  · simpa using b2
  · rw [RowKit.Below.heap_setCell _ _ _ _ q2, RowKit.Below.heap_setCell _ _ _ _ q2, RowKit.Below.heap_setCell _ _ _ _ q1, RowKit.Below.heap_setCell _ _ _ _ q1, RowKit.Below.heap_setCell _ _ _ _ q1]

set_option maxRecDepth 100000 in
set_option maxHeartbeats 4000000 in
theorem add_leaf (G : Nat → Prop) (t : VT) (v : Value) (db mb : Nat) (tp : Option Addr) (D : List Ix) (w : World) (h : VIs G w v t) (hks : t.ks = []) (hD : w.heap[db]? = some (.cells #[.pointer tp, .map (some mb)] 67)) (hM : MapIs ixK ixV w mb (D)) (hnew : getP ixK D t.k = none) :
    Calls Try.prog 50 #[.pointer (some ⟨db, 0, none⟩), v] w fun e w' => ∃ nb va vc, e = .returned (.pointer (some ⟨nb, 0, none⟩)) ∧ w'.heap[nb]? = some (.cells #[.int .i64 t.k.1, .int .i64 t.k.2, .string t.tg, .string t.tx, (.slice va t.at_.length vc), .pointer none, .pointer none, .pointer none, .pointer none, .pointer none] 65) ∧ w.heap.size ≤ nb ∧ MapIs ixK ixV w' mb (D ++ [(t.k, nb)]) ∧ KpO (fun k => k < w.heap.size ∧ k ≠ mb) w w' := by
  obtain ⟨ta, tb, tc, td, e1, fd⟩ := h.form
  subst e1
  obtain ⟨W0, eW⟩ : ∃ X, X = w.alloc (.cells #[.int .i64 t.k.1, .int .i64 t.k.2, .string t.tg, .string t.tx, .slice ta t.at_.length tb, .slice tc t.ks.length td] 42) := ⟨_, rfl⟩
  have hb0 : Below w.heap.size w W0 := (by rw [eW]; exact (Below.refl _ _).alloc (Nat.le_refl _) _)
  have HR : Hid (W0.heap[w.heap.size]? = some (.cells #[.int .i64 t.k.1, .int .i64 t.k.2, .string t.tg, .string t.tx, .slice ta t.at_.length tb, .slice tc t.ks.length td] 42)) := (by show _ = _; rw [eW]; exact heap_alloc_new _ _)
  have HA : Hid (VIs G W0 (.agg #[.int .i64 t.k.1, .int .i64 t.k.2, .string t.tg, .string t.tx, .slice ta t.at_.length tb, .slice tc t.ks.length td]) t) := h.below hb0
  have HL := hide8 hb0
  have HE := hide8 eW
  have HM : Hid (MapIs ixK ixV W0 mb (D)) := hM.keep (hb0.block _ hM.lt)
  have HD : Hid (W0.heap[db]? = some (.cells #[.pointer tp, .map (some mb)] 67)) := (hb0.block _ (row_lt hD)).trans hD
  have Hml : Hid (mb < w.heap.size) := hM.lt
  have Hdl : Hid (db < w.heap.size) := row_lt hD
  have Hnew := hide8 hnew
  have Hk0 : Hid (t.ks.length = 0) := (by show _ = _; rw [hks]; rfl)
  clear hks h hb0 eW fd hM hD hnew
  go_enter Try.func50, Try.ntmps50
  go_upto_region 1 with fail
  rw [← HE.out]
  clear HE
  obtain ⟨y0, y1, y2, y3, y4, y5⟩ := row6o HR.out
  go_wp2_with fail
  clear y0 y1 y2 y3 y4 y5
  refine (newNode_any G t _ _ HA.out).mono ?_
  rintro e w1 ⟨nb, va, vc, rfl, hn, hnl, ho, hb1⟩
  have hnl2 : W0.heap.size ≤ nb := hnl
  replace HR := hide8 ((hb1.block _ (row_lt HR.out)).trans HR.out)
  replace HM := hide8 (HM.out.keep (hb1.block _ HM.out.lt))
  replace HD := hide8 ((hb1.block _ (row_lt HD.out)).trans HD.out)
  have HB1 : Hid (Below w.heap.size w w1) := HL.out.trans (hb1.mono HL.out.size)
  have HN := hide8 hn
  have Hnl : Hid (w.heap.size ≤ nb) := Nat.le_trans HL.out.size hnl2
  clear hb1 hn hnl hnl2 ho HA HL
  go_upto_region 2 with fail
  have Hdm : Hid (db ≠ mb) := (by intro e; have h1 := HD.out; rw [e] at h1; obtain ⟨es, cl, h2, _⟩ := HM.out; rw [h2] at h1; cases h1)
  have Hwm : Hid (w.heap.size ≠ mb) := (by have := Hml.out; show _ ≠ _; omega)
  have Hnm : Hid (nb ≠ mb) := (by have := Hml.out; have := Hnl.out; show _ ≠ _; omega)
  refine wp_region_held_drew (S := fun W' => KpO (fun k => k < w1.heap.size ∧ k ≠ mb) w1 W') (by kernel_rfl) (KpO.of_below (Below.refl _ _).drew fun k q => q.1) (fun hHeld => ?_)
  obtain ⟨Ul1u0, eW⟩ : ∃ X, X = w1.drew := ⟨_, rfl⟩
  have hb : Below w1.heap.size w1 Ul1u0 := by rw [eW]; exact (Below.refl _ _).drew
  replace HM : Hid (MapIs ixK ixV Ul1u0 mb (D)) := HM.out.keep (hb.block _ HM.out.lt)
  rw [← eW] at hHeld ⊢
  clear eW hb
  refine tkW 0 (some 10) (v := ?_) ?_ hHeld ?_
  rotate_left
  · (intro ww _; go_simp; try with_reducible rfl)
  refine tkW 1 (some 11) (v := ?_) ?_ hHeld ?_
  rotate_left
  · (intro ww hSw; (try dsimp only at hSw); go_simp; try with_reducible rfl)
  refine tkW 2 (some 12) (v := ?_) ?_ hHeld ?_
  rotate_left
  · (intro ww _; go_simp; try with_reducible rfl)
  refine tkW 3 (some 13) (v := ?_) ?_ hHeld ?_
  rotate_left
  · (intro ww hSw; (try dsimp only at hSw); obtain ⟨y0, y1⟩ := row2o ((hSw.bl db ⟨row_lt HD.out, Hdm.out⟩).trans HD.out); go_simp; try with_reducible rfl)
  refine tkW 4 (some 14) (v := ?_) ?_ hHeld ?_
  rotate_left
  · (intro ww _; go_simp; try with_reducible rfl)
  refine tkW 5 (some 15) (v := ?_) ?_ hHeld ?_
  rotate_left
  · (intro ww hSw; (try dsimp only at hSw); obtain ⟨y0, y1, y2, y3, y4, y5⟩ := row6o ((hSw.bl w.heap.size ⟨row_lt HR.out, Hwm.out⟩).trans HR.out); go_simp; try with_reducible rfl)
  refine tkW 6 (some 16) (v := ?_) ?_ hHeld ?_
  rotate_left
  · (intro ww _; go_simp; try with_reducible rfl)
  refine wpAnyH_ready (rs := [7]) (by kernel_rfl) (by simp) ?_
  refine AllReadyH.cons (o := ⟨none, _, _, _, _, _⟩) rfl (fun K hK => ?_) AllReadyH.nil
  obtain ⟨Ul1u1, hup, hgr, hsz, hor⟩ := store_st 52 26 uIx HM.out (t.k, nb)
  have hup2 : (Instr.mapUpdate 52 (.map (some mb)) (.agg #[.int .i64 t.k.1, .int .i64 t.k.2]) (.pointer (some ⟨nb, 0, none⟩))).run Try.prog Ul1u0 = .ok () Ul1u1 := hup
  have hm2 : MapIs ixK ixV Ul1u1 mb (D ++ [(t.k, nb)]) := hor.elim (fun h9 => h9.2) (fun ⟨x9, _, h9, _⟩ => (by rw [show ixK (t.k, nb) = t.k from rfl, Hnew.out] at h9; cases h9))
  have HM2 := hide8 hm2
  have hkp : KpO (fun k => k < w1.heap.size ∧ k ≠ mb) w1 Ul1u1 := hHeld.trans ⟨hgr.size, fun k q => hgr.block k (Nat.lt_of_lt_of_le q.1 hHeld.sz) (fun e => by injection e with e; exact q.2 e), os_gr hgr⟩
  clear hup hgr hsz hor hm2
  go_simp
  refine hK.out _ _ (hkp) (fun hHeld2 => ?_)
  clear hK K hHeld
  have hHeld := hHeld2
  clear hHeld2
  (try simp only [Act.put, List.setIfInBounds_toArray, List.set_cons_zero, List.set_cons_succ])
  clear hkp hup2
  refine wpAnyH_done (by kernel_rfl) ?_ _
  have HN2 : Hid (Ul1u1.heap[nb]? = some (.cells #[.int .i64 t.k.1, .int .i64 t.k.2, .string t.tg, .string t.tx, (.slice va t.at_.length vc), .pointer none, .pointer none, .pointer none, .pointer none, .pointer none] 65)) := (hHeld.bl nb ⟨row_lt HN.out, Hnm.out⟩).trans HN.out
  have HR2 : Hid (Ul1u1.heap[w.heap.size]? = some (.cells #[.int .i64 t.k.1, .int .i64 t.k.2, .string t.tg, .string t.tx, .slice ta t.at_.length tb, .slice tc t.ks.length td] 42)) := (hHeld.bl _ ⟨row_lt HR.out, Hwm.out⟩).trans HR.out
  have HK2 : Hid (KpO (fun k => k < w.heap.size ∧ k ≠ mb) w Ul1u1) := ⟨Nat.le_trans HB1.out.size hHeld.sz, fun k q => (hHeld.bl k ⟨Nat.lt_of_lt_of_le q.1 HB1.out.size, q.2⟩).trans (HB1.out.block k q.1), os_tr (os_be HB1.out) hHeld.os⟩
  clear hHeld
  obtain ⟨y0, y1, y2, y3, y4, y5⟩ := row6o HR2.out
  rw [Hk0.out] at y5
  go_wp2
  clear y0 y1 y2 y3 y4 y5
  obtain ⟨wZ, eZ⟩ : ∃ X, X = Ul1u1 := ⟨_, rfl⟩
  rw [← eZ] at HN2 HM2 HK2 ⊢
  clear eZ HR2
  go_loopw [20] (fun iv wr => iv = .int .i64 0 ∧ Hid (wr = wZ)) (fun _ _ => 0)
  case atStart => exact ⟨rfl, rfl⟩
  case round =>
    obtain ⟨rfl, hwr⟩ := hrel
    have hwr2 := hwr.out
    subst hwr2
    go_wp2
    go_ret
    exact ⟨nb, rfl, ⟨va, vc, HN2.out⟩, Hnl.out, HM2.out, HK2.out⟩

set_option maxRecDepth 100000 in
set_option maxHeartbeats 4000000 in
theorem add_two (t x : VT) (v : Value) (db mb : Nat) (tp : Option Addr) (D : List Ix) (w : World) (h : VIs (fun k => k ≠ mb) w v t) (hks : t.ks = [x]) (hxk : x.ks = []) (hD : w.heap[db]? = some (.cells #[.pointer tp, .map (some mb)] 67)) (hM : MapIs ixK ixV w mb (D)) (hnew : getP ixK D t.k = none) (hnew2 : ∀ nb : Nat, getP ixK (D ++ [(t.k, nb)]) x.k = none) :
    Calls Try.prog 50 #[.pointer (some ⟨db, 0, none⟩), v] w fun e w' => ∃ nb xb, e = .returned (.pointer (some ⟨nb, 0, none⟩)) ∧ (∃ va vc, w'.heap[nb]? = some (.cells #[.int .i64 t.k.1, .int .i64 t.k.2, .string t.tg, .string t.tx, (.slice va t.at_.length vc), .pointer none, .pointer (some ⟨xb, 0, none⟩), .pointer (some ⟨xb, 0, none⟩), .pointer none, .pointer none] 65)) ∧ (∃ xe xf, w'.heap[xb]? = some (.cells #[.int .i64 x.k.1, .int .i64 x.k.2, .string x.tg, .string x.tx, (.slice xe x.at_.length xf), .pointer (some ⟨nb, 0, none⟩), .pointer none, .pointer none, .pointer none, .pointer none] 65)) ∧ w.heap.size ≤ nb ∧ w.heap.size ≤ xb ∧ xb ≠ nb ∧ MapIs ixK ixV w' mb (D ++ ([(t.k, nb)] ++ [(x.k, xb)])) ∧ KpO (fun k => k < w.heap.size ∧ k ≠ mb) w w' := by
  obtain ⟨ta, tb, tc, td, e1, fd⟩ := h.form
  subst e1
  obtain ⟨kb, ko, ek, hg, hlt, hxv⟩ := fd.ks.kid (i := 0) (by rw [hks]; simp)
  subst ek
  have hxe : t.ks[0]'(by rw [hks]; simp) = x := (by simp only [hks, List.getElem_cons_zero])
  rw [hxe, Nat.zero_mul, Nat.add_zero] at hxv
  obtain ⟨W0, eW⟩ : ∃ X, X = w.alloc (.cells #[.int .i64 t.k.1, .int .i64 t.k.2, .string t.tg, .string t.tx, .slice ta t.at_.length tb, .slice (some ⟨kb, ko, none⟩) t.ks.length td] 42) := ⟨_, rfl⟩
  have hb0 : Below w.heap.size w W0 := (by rw [eW]; exact (Below.refl _ _).alloc (Nat.le_refl _) _)
  have HR0 : Hid (W0.heap[w.heap.size]? = some (.cells #[.int .i64 t.k.1, .int .i64 t.k.2, .string t.tg, .string t.tx, .slice ta t.at_.length tb, .slice (some ⟨kb, ko, none⟩) t.ks.length td] 42)) := (by show _ = _; rw [eW]; exact heap_alloc_new _ _)
  have HR := HR0
  have HA : Hid (VIs (fun k => k ≠ mb) W0 (.agg #[.int .i64 t.k.1, .int .i64 t.k.2, .string t.tg, .string t.tx, .slice ta t.at_.length tb, .slice (some ⟨kb, ko, none⟩) t.ks.length td]) t) := h.below hb0
  have HXv : Hid (VAt (fun k => k ≠ mb) W0 x kb ko) := hxv.below hb0 hlt
  have HXg : Hid (kb ≠ mb) := hg
  have HL := hide8 hb0
  have HE := hide8 eW
  have HM : Hid (MapIs ixK ixV W0 mb (D)) := hM.keep (hb0.block _ hM.lt)
  have HD : Hid (W0.heap[db]? = some (.cells #[.pointer tp, .map (some mb)] 67)) := (hb0.block _ (row_lt hD)).trans hD
  have Hml : Hid (mb < w.heap.size) := hM.lt
  have Hdl : Hid (db < w.heap.size) := row_lt hD
  have Hnew := hide8 hnew
  have Hnew2 := hide8 hnew2
  have Hxk := hide8 hxk
  have Hkl : Hid (t.ks.length = 1) := (by show _ = _; rw [hks]; rfl)
  clear h hb0 eW fd hM hD hnew hnew2 hks hxk hxv hg hlt hxe
  go_enter Try.func50, Try.ntmps50
  go_upto_region 1 with fail
  rw [← HE.out]
  clear HE
  obtain ⟨y0, y1, y2, y3, y4, y5⟩ := row6o HR.out
  go_wp2_with fail
  clear y0 y1 y2 y3 y4 y5
  refine (newNode_any _ t _ _ HA.out).mono ?_
  rintro e w1 ⟨nb, va, vc, rfl, hn, hnl, ho, hb1⟩
  have hnl2 : W0.heap.size ≤ nb := hnl
  replace HR := hide8 ((hb1.block _ (row_lt HR.out)).trans HR.out)
  replace HM := hide8 (HM.out.keep (hb1.block _ HM.out.lt))
  replace HD := hide8 ((hb1.block _ (row_lt HD.out)).trans HD.out)
  replace HXv := hide8 (HXv.out.below hb1 HXv.out.lt)
  have HB1 : Hid (Below w.heap.size w w1) := HL.out.trans (hb1.mono HL.out.size)
  have HN := hide8 hn
  have Hnl : Hid (w.heap.size < nb) := Nat.lt_of_lt_of_le (row_lt HR0.out) hnl2
  clear hb1 hn hnl hnl2 ho HA HL HR0
  go_upto_region 2 with fail
  have Hdm : Hid (db ≠ mb) := (by intro e; have h1 := HD.out; rw [e] at h1; obtain ⟨es, cl, h2, _⟩ := HM.out; rw [h2] at h1; cases h1)
  have Hwm : Hid (w.heap.size ≠ mb) := (by have := Hml.out; show _ ≠ _; omega)
  have Hnm : Hid (nb ≠ mb) := (by have := Hml.out; have := Hnl.out; show _ ≠ _; omega)
  refine wp_region_held_drew (S := fun W' => KpO (fun k => k < w1.heap.size ∧ k ≠ mb) w1 W') (by kernel_rfl) (KpO.of_below (Below.refl _ _).drew fun k q => q.1) (fun hHeld => ?_)
  obtain ⟨Ul2u0, eW⟩ : ∃ X, X = w1.drew := ⟨_, rfl⟩
  have hb : Below w1.heap.size w1 Ul2u0 := by rw [eW]; exact (Below.refl _ _).drew
  replace HM : Hid (MapIs ixK ixV Ul2u0 mb (D)) := HM.out.keep (hb.block _ HM.out.lt)
  rw [← eW] at hHeld ⊢
  clear eW hb
  refine tkW 0 (some 10) (v := ?_) ?_ hHeld ?_
  rotate_left
  · (intro ww _; go_simp; try with_reducible rfl)
  refine tkW 1 (some 11) (v := ?_) ?_ hHeld ?_
  rotate_left
  · (intro ww hSw; (try dsimp only at hSw); go_simp; try with_reducible rfl)
  refine tkW 2 (some 12) (v := ?_) ?_ hHeld ?_
  rotate_left
  · (intro ww _; go_simp; try with_reducible rfl)
  refine tkW 3 (some 13) (v := ?_) ?_ hHeld ?_
  rotate_left
  · (intro ww hSw; (try dsimp only at hSw); obtain ⟨y0, y1⟩ := row2o ((hSw.bl db ⟨row_lt HD.out, Hdm.out⟩).trans HD.out); go_simp; try with_reducible rfl)
  refine tkW 4 (some 14) (v := ?_) ?_ hHeld ?_
  rotate_left
  · (intro ww _; go_simp; try with_reducible rfl)
  refine tkW 5 (some 15) (v := ?_) ?_ hHeld ?_
  rotate_left
  · (intro ww hSw; (try dsimp only at hSw); obtain ⟨y0, y1, y2, y3, y4, y5⟩ := row6o ((hSw.bl w.heap.size ⟨row_lt HR.out, Hwm.out⟩).trans HR.out); go_simp; try with_reducible rfl)
  refine tkW 6 (some 16) (v := ?_) ?_ hHeld ?_
  rotate_left
  · (intro ww _; go_simp; try with_reducible rfl)
  refine wpAnyH_ready (rs := [7]) (by kernel_rfl) (by simp) ?_
  refine AllReadyH.cons (o := ⟨none, _, _, _, _, _⟩) rfl (fun K hK => ?_) AllReadyH.nil
  obtain ⟨Ul2u1, hup, hgr, hsz, hor⟩ := store_st 52 26 uIx HM.out (t.k, nb)
  have hup2 : (Instr.mapUpdate 52 (.map (some mb)) (.agg #[.int .i64 t.k.1, .int .i64 t.k.2]) (.pointer (some ⟨nb, 0, none⟩))).run Try.prog Ul2u0 = .ok () Ul2u1 := hup
  have hm2 : MapIs ixK ixV Ul2u1 mb (D ++ [(t.k, nb)]) := hor.elim (fun h9 => h9.2) (fun ⟨x9, _, h9, _⟩ => (by rw [show ixK (t.k, nb) = t.k from rfl, Hnew.out] at h9; cases h9))
  have HM2 := hide8 hm2
  have hkp : KpO (fun k => k < w1.heap.size ∧ k ≠ mb) w1 Ul2u1 := hHeld.trans ⟨hgr.size, fun k q => hgr.block k (Nat.lt_of_lt_of_le q.1 hHeld.sz) (fun e => by injection e with e; exact q.2 e), os_gr hgr⟩
  clear hup hgr hsz hor hm2
  go_simp
  refine hK.out _ _ (hkp) (fun hHeld2 => ?_)
  clear hK K hHeld
  have hHeld := hHeld2
  clear hHeld2
  (try simp only [Act.put, List.setIfInBounds_toArray, List.set_cons_zero, List.set_cons_succ])
  clear hkp hup2
  refine wpAnyH_done (by kernel_rfl) ?_ _
  have HN2 : Hid (Ul2u1.heap[nb]? = some (.cells #[.int .i64 t.k.1, .int .i64 t.k.2, .string t.tg, .string t.tx, (.slice va t.at_.length vc), .pointer none, .pointer none, .pointer none, .pointer none, .pointer none] 65)) := (hHeld.bl nb ⟨row_lt HN.out, Hnm.out⟩).trans HN.out
  have HR2 : Hid (Ul2u1.heap[w.heap.size]? = some (.cells #[.int .i64 t.k.1, .int .i64 t.k.2, .string t.tg, .string t.tx, .slice ta t.at_.length tb, .slice (some ⟨kb, ko, none⟩) t.ks.length td] 42)) := (hHeld.bl _ ⟨row_lt HR.out, Hwm.out⟩).trans HR.out
  have HD2 : Hid (Ul2u1.heap[db]? = some (.cells #[.pointer tp, .map (some mb)] 67)) := (hHeld.bl _ ⟨row_lt HD.out, Hdm.out⟩).trans HD.out
  have HK2 : Hid (KpO (fun k => k < w.heap.size ∧ k ≠ mb) w Ul2u1) := ⟨Nat.le_trans HB1.out.size hHeld.sz, fun k q => (hHeld.bl k ⟨Nat.lt_of_lt_of_le q.1 HB1.out.size, q.2⟩).trans (HB1.out.block k q.1), os_tr (os_be HB1.out) hHeld.os⟩
  have HF2 : Hid (VAt (fun k => k ≠ mb) Ul2u1 x kb ko) := HXv.out.turn hHeld.sz (fun k q l => ⟨q, hHeld.bl k ⟨l, q⟩⟩) (hHeld.bl kb ⟨HXv.out.lt, HXg.out⟩)
  clear hHeld
  obtain ⟨y0, y1, y2, y3, y4, y5⟩ := row6o HR2.out
  rw [Hkl.out] at y5
  go_wp2
  clear y0 y1 y2 y3 y4 y5
  obtain ⟨wZ, eZ⟩ : ∃ X, X = Ul2u1 := ⟨_, rfl⟩
  rw [← eZ] at HN2 HM2 HK2 HD2 HF2 ⊢
  clear eZ HR2
  go_loopw [20] (fun iv wr => (iv = .int .i64 0 ∧ Hid (wr = wZ)) ∨ (iv = .int .i64 1 ∧ ∃ (xb : Nat) (xe : Option Addr) (xf : Nat), Hid (w.heap.size ≤ xb ∧ xb ≠ nb) ∧ Hid (wr.heap[xb]? = some (.cells #[.int .i64 x.k.1, .int .i64 x.k.2, .string x.tg, .string x.tx, (.slice xe x.at_.length xf), .pointer (some ⟨nb, 0, none⟩), .pointer none, .pointer none, .pointer none, .pointer none] 65)) ∧ Hid (wr.heap[nb]? = some (.cells #[.int .i64 t.k.1, .int .i64 t.k.2, .string t.tg, .string t.tx, (.slice va t.at_.length vc), .pointer none, .pointer (some ⟨xb, 0, none⟩), .pointer (some ⟨xb, 0, none⟩), .pointer none, .pointer none] 65)) ∧ Hid (MapIs ixK ixV wr mb ((D ++ [(t.k, nb)]) ++ [(x.k, xb)])) ∧ Hid (KpO (fun k => k < w.heap.size ∧ k ≠ mb) w wr))) (fun iv _ => 1 - (intOf iv).toNat)
  case atStart => exact .inl ⟨rfl, rfl⟩
  case round =>
    rcases hrel with ⟨rfl, hwr⟩ | ⟨rfl, xb, xe, xf, Hxb, HX, HN3, HM3, HK3⟩
    · have hwr2 := hwr.out
      subst hwr2
      clear hwr
      obtain ⟨xa9, xb9, xc9, xd9, p0, p1, p2, p3, p4, p5, fx⟩ := HF2.out.cells
      have HXi : Hid (VIs (fun _ => True) wr (.agg #[.int .i64 x.k.1, .int .i64 x.k.2, .string x.tg, .string x.tx, .slice xa9 x.at_.length xb9, .slice xc9 x.ks.length xd9]) x) := ⟨_, _, rfl, fx.turn (Nat.le_refl _) fun _ _ _ => ⟨trivial, rfl⟩⟩
      clear fx
      have Hz : Hid ((wr.alloc (.cells #[.int .i64 0, .int .i64 0, .string ⟨#[]⟩, .string ⟨#[]⟩, .slice none 0 0, .slice none 0 0] 42)).heap[wr.heap.size]? = some (.cells #[.int .i64 0, .int .i64 0, .string ⟨#[]⟩, .string ⟨#[]⟩, .slice none 0 0, .slice none 0 0] 42)) := heap_alloc_new _ _
      obtain ⟨W8, eW⟩ : ∃ X, X = (wr.alloc (.cells #[.int .i64 0, .int .i64 0, .string ⟨#[]⟩, .string ⟨#[]⟩, .slice none 0 0, .slice none 0 0] 42)).setRow wr.heap.size #[.int .i64 x.k.1, .int .i64 x.k.2, .string x.tg, .string x.tx, .slice xa9 x.at_.length xb9, .slice xc9 x.ks.length xd9] := ⟨_, rfl⟩
      have hb9 : Below wr.heap.size wr W8 := (by rw [eW]; exact ((Below.refl _ _).alloc (Nat.le_refl _) _).grown (grown_setRow _ _ _) (by simp) (fun k e => by cases e; exact Nat.le_refl _))
      obtain ⟨xo, enb⟩ : ∃ b, b = wr.heap.size := ⟨_, rfl⟩
      have Hxo : Hid (W8.heap[xo]? = some (.cells #[.int .i64 x.k.1, .int .i64 x.k.2, .string x.tg, .string x.tx, .slice xa9 x.at_.length xb9, .slice xc9 x.ks.length xd9] 42)) := (by show _ = _; rw [eW, enb]; exact setRow_same Hz.out)
      have HE9 := hide9 (And.intro eW enb)
      clear eW enb
      replace HXi := hide8 (HXi.out.below hb9)
      have Hxo9 : Hid (xo < W8.heap.size ∧ xo ≠ mb ∧ xo ≠ nb) := (by have h1 := row_lt HN2.out; have h2 := HM2.out.lt; have h3 := HE9.out.2; exact ⟨row_lt Hxo.out, by omega, by omega⟩)
      replace HN2 := hide8 ((hb9.block _ (row_lt HN2.out)).trans HN2.out)
      replace HD2 := hide8 ((hb9.block _ (row_lt HD2.out)).trans HD2.out)
      replace HM2 := hide8 (HM2.out.keep (hb9.block _ HM2.out.lt))
      have HK8 : Hid (KpO (fun k => k < w.heap.size ∧ k ≠ mb) w W8) := HK2.out.trans (KpO.of_below hb9 fun k q => Nat.lt_of_lt_of_le q.1 HK2.out.sz)
      clear hb9 HK2
      go_wp2_with (refine wpList_store_row rfl 42 (.tmp 7) (.tmp 23) rfl wr.heap.size 42 #[.int .i64 0, .int .i64 0, .string ⟨#[]⟩, .string ⟨#[]⟩, .slice none 0 0, .slice none 0 0] #[.int .i64 x.k.1, .int .i64 x.k.2, .string x.tg, .string x.tx, .slice xa9 x.at_.length xb9, .slice xc9 x.ks.length xd9] rfl rfl Hz.out sizeVo rfl (by simp [Value.oneCell']) ?_; refine StpD.to ?_)
      refine StpD.of ?_
      rw [← HE9.out.1, ← HE9.out.2]
      clear HE9 Hz
      clear p0 p1 p2 p3 p4 p5
      go_upto_region 6 with fail
      refine wp_region_held_drew (S := fun W' => KpO (fun k => k < W8.heap.size ∧ k ≠ mb ∧ k ≠ nb) W8 W') (by kernel_rfl) (KpO.of_below (Below.refl _ _).drew fun k q => q.1) (fun hHeld => ?_)
      obtain ⟨Uk3u0, eW⟩ : ∃ X, X = W8.drew := ⟨_, rfl⟩
      have hb : Below W8.heap.size W8 Uk3u0 := by rw [eW]; exact (Below.refl _ _).drew
      replace HN2 : Hid (Uk3u0.heap[nb]? = some (.cells #[.int .i64 t.k.1, .int .i64 t.k.2, .string t.tg, .string t.tx, (.slice va t.at_.length vc), .pointer none, .pointer none, .pointer none, .pointer none, .pointer none] 65)) := (hb.block _ (row_lt HN2.out)).trans HN2.out
      replace HD2 : Hid (Uk3u0.heap[db]? = some (.cells #[.pointer tp, .map (some mb)] 67)) := (hb.block _ (row_lt HD2.out)).trans HD2.out
      replace HM2 : Hid (MapIs ixK ixV Uk3u0 mb (D ++ [(t.k, nb)])) := HM2.out.keep (hb.block _ HM2.out.lt)
      replace HXi : Hid (VIs (fun _ => True) Uk3u0 (.agg #[.int .i64 x.k.1, .int .i64 x.k.2, .string x.tg, .string x.tx, .slice xa9 x.at_.length xb9, .slice xc9 x.ks.length xd9]) x) := HXi.out.below hb
      replace HK8 : Hid (KpO (fun k => k < w.heap.size ∧ k ≠ mb) w Uk3u0) := HK8.out.trans (KpO.of_below hb fun k q => Nat.lt_of_lt_of_le q.1 HK8.out.sz)
      rw [← eW] at hHeld ⊢
      clear eW hb
      refine tkW 0 (some 24) (v := ?_) ?_ hHeld ?_
      rotate_left
      · (intro ww _; go_simp; try with_reducible rfl)
      refine tkW 1 (some 25) (v := ?_) ?_ hHeld ?_
      rotate_left
      · (intro ww hSw; (try dsimp only at hSw); obtain ⟨y0, y1, y2, y3, y4, y5⟩ := row6o ((hSw.bl xo Hxo9.out).trans Hxo.out); go_simp; try with_reducible rfl)
      refine tkW 3 (some 27) (v := ?_) ?_ hHeld ?_
      rotate_left
      · (intro ww _; go_simp; try with_reducible rfl)
      refine tkW 4 (some 28) (v := ?_) ?_ hHeld ?_
      rotate_left
      · (intro ww _; go_simp; try with_reducible rfl)
      refine tkW 5 (some 29) (v := ?_) ?_ hHeld ?_
      rotate_left
      · (intro ww hSw; (try dsimp only at hSw); go_simp; try with_reducible rfl)
      refine tkW 6 (some 30) (v := ?_) ?_ hHeld ?_
      rotate_left
      · (intro ww _; go_simp; try with_reducible rfl)
      refine wpAnyH_ready (rs := [2, 7]) (by kernel_rfl) (by simp) ?_
      refine AllReadyH.cons (o := ⟨some 26, _, _, _, _, _⟩) rfl (fun K hK => ?_) (AllReadyH.cons (o := ⟨some 31, _, _, _, _, _⟩) rfl (fun K hK => ?_) AllReadyH.nil)
      · go_simp
        refine (add_leaf (fun _ => True) x _ db mb tp (D ++ [(t.k, nb)]) _ HXi.out Hxk.out HD2.out HM2.out (Hnew2.out nb)).mono ?_
        rintro e Uk3u1 ⟨xb, xe, xf, rfl, hx, hxl, hm, hk⟩
        have hkp := hHeld.trans (⟨hk.sz, fun k q => hk.bl k ⟨Nat.lt_of_lt_of_le q.1 hHeld.sz, q.2.1⟩, hk.os⟩ : KpO (fun k => k < W8.heap.size ∧ k ≠ mb ∧ k ≠ nb) _ _)
        have Hxb : Hid (w.heap.size ≤ xb ∧ xb ≠ nb) := ⟨Nat.le_trans HK8.out.sz hxl, fun e => by have h1 := row_lt HN2.out; omega⟩
        have Hxs : Hid (W8.heap.size ≤ xb) := Nat.le_trans hHeld.sz hxl
        replace HN2 := hide8 ((hk.bl nb ⟨row_lt HN2.out, Hnm.out⟩).trans HN2.out)
        replace HK8 := hide8 (HK8.out.trans ⟨hk.sz, fun k q => hk.bl k ⟨Nat.lt_of_lt_of_le q.1 HK8.out.sz, q.2⟩, hk.os⟩)
        have HX := hide8 hx
        have HM3 := hide8 hm
        clear hx hxl hm hk HD2 HM2 HXi
        (try go_wp2_with fail)
        refine hK.out _ _ (hkp) (fun hHeld2 => ?_)
        clear hK K hHeld
        have hHeld := hHeld2
        clear hHeld2
        (try simp only [Act.put, List.setIfInBounds_toArray, List.set_cons_zero, List.set_cons_succ])
        clear hkp
        refine wpAnyH_ready (rs := [7]) (by kernel_rfl) (by simp) ?_
        refine AllReadyH.cons (o := ⟨some 31, _, _, _, _, _⟩) rfl (fun K hK => ?_) AllReadyH.nil
        obtain ⟨n0, n1, n2, n3, n4, n5, n6, n7, n8, n9⟩ := row10 HN2.out
        go_simp
        refine hK.out _ _ (hHeld) (fun hHeld2 => ?_)
        clear hK K hHeld
        have hHeld := hHeld2
        clear hHeld2
        (try simp only [Act.put, List.setIfInBounds_toArray, List.set_cons_zero, List.set_cons_succ])
        clear n0 n1 n2 n3 n4 n5 n6 n7 n8 n9
        refine wpAnyH_ready (rs := [8]) (by kernel_rfl) (by simp) ?_
        refine AllReadyH.cons (o := ⟨some 32, _, _, _, _, _⟩) rfl (fun K hK => ?_) AllReadyH.nil
        go_simp
        refine (join_first xb nb x.k t.k x.tg x.tx t.tg t.tx (.slice xe x.at_.length xf) (.slice va t.at_.length vc) none none none _ HX.out HN2.out Hxb.out.2).mono ?_
        rintro e Uk3u3 ⟨rfl, j1, j2, j3, j4, j6⟩
        have HX4 := hide8 j1
        have HN4 := hide8 j2
        have HM4 : Hid (MapIs ixK ixV Uk3u3 mb ((D ++ [(t.k, nb)]) ++ [(x.k, xb)])) := HM3.out.keep (j3 mb (fun e => by have := Hml.out; have := Hxb.out.1; omega) (fun e => Hnm.out e.symm))
        have HK4 : Hid (KpO (fun k => k < w.heap.size ∧ k ≠ mb) w Uk3u3) := HK8.out.trans ⟨Nat.le_of_eq j4.symm, fun k q => j3 k (by have := Hxb.out.1; omega) (by have := Hnl.out; omega), j6⟩
        have hkp : KpO (fun k => k < W8.heap.size ∧ k ≠ mb ∧ k ≠ nb) W8 Uk3u3 := hHeld.trans ⟨Nat.le_of_eq j4.symm, fun k q => j3 k (fun e => by have h1 := Hxs.out; omega) q.2.2, j6⟩
        clear j1 j2 j3 j4 j6 HN2 HX HM3 HK8
        (try go_wp2_with fail)
        refine hK.out _ _ (hkp) (fun hHeld2 => ?_)
        clear hK K hHeld
        have hHeld := hHeld2
        clear hHeld2
        (try simp only [Act.put, List.setIfInBounds_toArray, List.set_cons_zero, List.set_cons_succ])
        clear hkp
        refine wpAnyH_done (by kernel_rfl) ?_ _
        clear hHeld
        go_wp2
        go_roundw
        case rel => exact .inr ⟨rfl, xb, xe, xf, Hxb, HX4, HN4, HM4, HK4⟩
        case measure => simp [intOf]
      · obtain ⟨n0, n1, n2, n3, n4, n5, n6, n7, n8, n9⟩ := row10 HN2.out
        go_simp
        refine hK.out _ _ (hHeld) (fun hHeld2 => ?_)
        clear hK K hHeld
        have hHeld := hHeld2
        clear hHeld2
        (try simp only [Act.put, List.setIfInBounds_toArray, List.set_cons_zero, List.set_cons_succ])
        clear n0 n1 n2 n3 n4 n5 n6 n7 n8 n9
        refine wpAnyH_ready (rs := [2]) (by kernel_rfl) (by simp) ?_
        refine AllReadyH.cons (o := ⟨some 26, _, _, _, _, _⟩) rfl (fun K hK => ?_) AllReadyH.nil
        go_simp
        refine (add_leaf (fun _ => True) x _ db mb tp (D ++ [(t.k, nb)]) _ HXi.out Hxk.out HD2.out HM2.out (Hnew2.out nb)).mono ?_
        rintro e Uk3u5 ⟨xb, xe, xf, rfl, hx, hxl, hm, hk⟩
        have hkp := hHeld.trans (⟨hk.sz, fun k q => hk.bl k ⟨Nat.lt_of_lt_of_le q.1 hHeld.sz, q.2.1⟩, hk.os⟩ : KpO (fun k => k < W8.heap.size ∧ k ≠ mb ∧ k ≠ nb) _ _)
        have Hxb : Hid (w.heap.size ≤ xb ∧ xb ≠ nb) := ⟨Nat.le_trans HK8.out.sz hxl, fun e => by have h1 := row_lt HN2.out; omega⟩
        have Hxs : Hid (W8.heap.size ≤ xb) := Nat.le_trans hHeld.sz hxl
        replace HN2 := hide8 ((hk.bl nb ⟨row_lt HN2.out, Hnm.out⟩).trans HN2.out)
        replace HK8 := hide8 (HK8.out.trans ⟨hk.sz, fun k q => hk.bl k ⟨Nat.lt_of_lt_of_le q.1 HK8.out.sz, q.2⟩, hk.os⟩)
        have HX := hide8 hx
        have HM3 := hide8 hm
        clear hx hxl hm hk HD2 HM2 HXi
        (try go_wp2_with fail)
        refine hK.out _ _ (hkp) (fun hHeld2 => ?_)
        clear hK K hHeld
        have hHeld := hHeld2
        clear hHeld2
        (try simp only [Act.put, List.setIfInBounds_toArray, List.set_cons_zero, List.set_cons_succ])
        clear hkp
        refine wpAnyH_ready (rs := [8]) (by kernel_rfl) (by simp) ?_
        refine AllReadyH.cons (o := ⟨some 32, _, _, _, _, _⟩) rfl (fun K hK => ?_) AllReadyH.nil
        go_simp
        refine (join_first xb nb x.k t.k x.tg x.tx t.tg t.tx (.slice xe x.at_.length xf) (.slice va t.at_.length vc) none none none _ HX.out HN2.out Hxb.out.2).mono ?_
        rintro e Uk3u6 ⟨rfl, j1, j2, j3, j4, j6⟩
        have HX4 := hide8 j1
        have HN4 := hide8 j2
        have HM4 : Hid (MapIs ixK ixV Uk3u6 mb ((D ++ [(t.k, nb)]) ++ [(x.k, xb)])) := HM3.out.keep (j3 mb (fun e => by have := Hml.out; have := Hxb.out.1; omega) (fun e => Hnm.out e.symm))
        have HK4 : Hid (KpO (fun k => k < w.heap.size ∧ k ≠ mb) w Uk3u6) := HK8.out.trans ⟨Nat.le_of_eq j4.symm, fun k q => j3 k (by have := Hxb.out.1; omega) (by have := Hnl.out; omega), j6⟩
        have hkp : KpO (fun k => k < W8.heap.size ∧ k ≠ mb ∧ k ≠ nb) W8 Uk3u6 := hHeld.trans ⟨Nat.le_of_eq j4.symm, fun k q => j3 k (fun e => by have h1 := Hxs.out; omega) q.2.2, j6⟩
        clear j1 j2 j3 j4 j6 HN2 HX HM3 HK8
        (try go_wp2_with fail)
        refine hK.out _ _ (hkp) (fun hHeld2 => ?_)
        clear hK K hHeld
        have hHeld := hHeld2
        clear hHeld2
        (try simp only [Act.put, List.setIfInBounds_toArray, List.set_cons_zero, List.set_cons_succ])
        clear hkp
        refine wpAnyH_done (by kernel_rfl) ?_ _
        clear hHeld
        go_wp2
        go_roundw
        case rel => exact .inr ⟨rfl, xb, xe, xf, Hxb, HX4, HN4, HM4, HK4⟩
        case measure => simp [intOf]
    · go_wp2
      go_ret
      exact ⟨nb, xb, rfl, ⟨va, vc, HN3.out⟩, ⟨xe, xf, HX.out⟩, Nat.le_of_lt Hnl.out, Hxb.out.1, Hxb.out.2, (by rw [List.append_assoc] at HM3; exact HM3.out), HK3.out⟩

end Go.Proofs.Ytljmlbidbacdjab
