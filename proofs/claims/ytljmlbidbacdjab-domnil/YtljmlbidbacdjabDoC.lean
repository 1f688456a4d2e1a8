/- The dom of two nodes, grown, loaded; awake. -/
import Derived.Test.YtljmlbidbacdjabDoB
import Derived.LaidEql
namespace Go.Proofs.Ytljmlbidbacdjab
open Go.RowKit Go.Shelf
set_option linter.unusedVariables false
set_option linter.unusedSimpArgs false

attribute [local go_sem] Oper.semAt_some

structure Dom2 (db mb nb xb : Nat) (t x : VT) (W : World) : Prop where
  d : W.heap[db]? = some (.cells #[.pointer (some ⟨nb, 0, none⟩), .map (some mb)] 67)
  m : MapIs ixK ixV W mb [(t.k, nb), (x.k, xb)]
  n : ∃ va vc, W.heap[nb]? = some (.cells #[.int .i64 t.k.1, .int .i64 t.k.2, .string t.tg, .string t.tx, (.slice va t.at_.length vc), .pointer none, .pointer (some ⟨xb, 0, none⟩), .pointer (some ⟨xb, 0, none⟩), .pointer none, .pointer none] 65)
  x : ∃ xe xf, W.heap[xb]? = some (.cells #[.int .i64 x.k.1, .int .i64 x.k.2, .string x.tg, .string x.tx, (.slice xe x.at_.length xf), .pointer (some ⟨nb, 0, none⟩), .pointer none, .pointer none, .pointer none, .pointer none] 65)
theorem Dom2.below {db mb nb xb : Nat} {t x : VT} {W W' : World} (h : Dom2 db mb nb xb t x W) (hb : Below W.heap.size W W') : Dom2 db mb nb xb t x W' := by
  obtain ⟨va, vc, hn⟩ := h.n
  obtain ⟨xe, xf, hx⟩ := h.x
  exact ⟨(hb.block _ (row_lt h.d)).trans h.d, h.m.keep (hb.block _ h.m.lt), ⟨va, vc, (hb.block _ (row_lt hn)).trans hn⟩, ⟨xe, xf, (hb.block _ (row_lt hx)).trans hx⟩⟩
def tP : VT := .node (1, 0) ⟨#[112]⟩ ⟨#[]⟩ [] []
def tQ : VT := .node (0, 0) ⟨#[114, 111, 111, 116]⟩ ⟨#[]⟩ [] [tP]
theorem szQ : tQ.sz = 2 := by decide +kernel
theorem chkQ : chkT tQ = 0 := by decide +kernel
theorem bnQ : BnA tQ := fun x hx => by
  simp [tQ, tP, flatD, flatDs] at hx
  rcases hx with rfl | rfl
  · exact ⟨by decide +kernel, fun y hy => by simp [VT.at_] at hy⟩
  · exact ⟨by decide +kernel, fun y hy => by simp [VT.at_] at hy⟩
theorem row_vato {G : Nat → Prop} {w : World} {t : VT} {b : Nat} {a : Option Addr} {c : Nat} {k : Option Addr} {d : Nat} (h : w.heap[b]? = some (.cells #[.int .i64 t.k.1, .int .i64 t.k.2, .string t.tg, .string t.tx, .slice a t.at_.length c, .slice k t.ks.length d] 42)) (hf : FdIs G w (.slice a t.at_.length c) (.slice k t.ks.length d) t.at_ t.ks) : VAt G w t b 0 := by
  refine VAt_iff.2 ⟨_, _, fun j u hj => ?_, hf⟩
  rw [cell_of_row _ _ _ _ _ _ h]
  rw [Nat.zero_add]
  rw [show ((#[.int .i64 t.k.1, .int .i64 t.k.2, .string t.tg, .string t.tx, .slice a t.at_.length c, .slice k t.ks.length d] : Array Value)) = (ndC t.k t.tg t.tx (.slice a t.at_.length c) (.slice k t.ks.length d)).toArray from rfl, List.getElem?_toArray]
  exact hj
theorem fdNilo (G : Nat → Prop) (w : World) : FdIs G w (.slice none 0 0) (.slice none 0 0) [] [] := ⟨LsE.nil w none 0, by decide, none, 0, rfl, Nat.le_refl _, by decide, .inl rfl⟩
theorem visQ {w : World} {b : Nat} (h : w.heap[b]? = some (.cells #[.int .i64 1, .int .i64 0, .string ⟨#[112]⟩, .string ⟨#[]⟩, .slice none 0 0, .slice none 0 0] 42)) : VIs (fun _ => True) w (.agg #[.int .i64 0, .int .i64 0, .string ⟨#[114, 111, 111, 116]⟩, .string ⟨#[]⟩, .slice none 0 0, .slice (some ⟨b, 0, none⟩) 1 1]) tQ := by
  have hp : VAt (fun _ => True) w tP b 0 := row_vato (t := tP) (a := none) (c := 0) (k := none) (d := 0) h (fdNilo _ w)
  exact ⟨_, _, rfl, LsE.nil w none 0, by decide, some ⟨b, 0, none⟩, 1, rfl, Nat.le_refl _, by decide, .inr ⟨b, 0, rfl, trivial, row_lt h, (VRow_iff _ _).2 fun i hi => by
    have : i = 0 := by simp [tQ, VT.ks] at hi; omega
    subst this
    exact hp⟩⟩

set_option maxRecDepth 100000 in
set_option maxHeartbeats 4000000 in
theorem grow_two (G : Nat → Prop) (t x : VT) (v : Value) (w : World) (h : VIs G w v t) (hks : t.ks = [x]) (hxk : x.ks = []) (hne : t.k ≠ x.k) :
    Calls Try.prog 26 #[v] w fun e w' => ∃ db, e = .returned (.pointer (some ⟨db, 0, none⟩)) ∧ (∃ mb nb xb, Dom2 db mb nb xb t x w') ∧ Below w.heap.size w w' := by
  have Hks := hide8 hks
  have Hxk := hide8 hxk
  have Hne := hide8 hne
  clear hks hxk hne
  obtain ⟨ta, tb, tc, td, e1, _⟩ := h.form
  subst e1
  obtain ⟨W1, eW⟩ : ∃ X, X = (((w.alloc (.cells #[.int .i64 t.k.1, .int .i64 t.k.2, .string t.tg, .string t.tx, .slice ta t.at_.length tb, .slice tc t.ks.length td] 42)).alloc (.map #[] 0)).alloc (.cells #[.pointer none, .map (some (w.heap.size + 1))] 67)) := ⟨_, rfl⟩
  have hO0 : W1.heap[w.heap.size]? = some (.cells #[.int .i64 t.k.1, .int .i64 t.k.2, .string t.tg, .string t.tx, .slice ta t.at_.length tb, .slice tc t.ks.length td] 42) := (by rw [eW]; rw [Below.heap_alloc _ _ _ (by simp <;> omega)]; rw [Below.heap_alloc _ _ _ (by simp <;> omega)]; have h := heap_alloc_new w (.cells #[.int .i64 t.k.1, .int .i64 t.k.2, .string t.tg, .string t.tx, .slice ta t.at_.length tb, .slice tc t.ks.length td] 42); exact h)
  have hO1 : W1.heap[w.heap.size + 1]? = some (.map #[] 0) := (by rw [eW]; rw [Below.heap_alloc _ _ _ (by simp <;> omega)]; have h := heap_alloc_new (w.alloc (.cells #[.int .i64 t.k.1, .int .i64 t.k.2, .string t.tg, .string t.tx, .slice ta t.at_.length tb, .slice tc t.ks.length td] 42)) (.map #[] 0); rw [show (w.alloc (.cells #[.int .i64 t.k.1, .int .i64 t.k.2, .string t.tg, .string t.tx, .slice ta t.at_.length tb, .slice tc t.ks.length td] 42)).heap.size = w.heap.size + 1 by simp] at h; exact h)
  have hO2 : W1.heap[w.heap.size + 2]? = some (.cells #[.pointer none, .map (some (w.heap.size + 1))] 67) := (by rw [eW]; have h := heap_alloc_new ((w.alloc (.cells #[.int .i64 t.k.1, .int .i64 t.k.2, .string t.tg, .string t.tx, .slice ta t.at_.length tb, .slice tc t.ks.length td] 42)).alloc (.map #[] 0)) (.cells #[.pointer none, .map (some (w.heap.size + 1))] 67); rw [show ((w.alloc (.cells #[.int .i64 t.k.1, .int .i64 t.k.2, .string t.tg, .string t.tx, .slice ta t.at_.length tb, .slice tc t.ks.length td] 42)).alloc (.map #[] 0)).heap.size = w.heap.size + 2 by simp] at h; exact h)
  have hb2 : Below w.heap.size w W1 := (by rw [eW]; exact (((Below.refl _ _).alloc (Nat.le_refl _) _).alloc (by simp <;> omega) _).alloc (by simp <;> omega) _)
  have hs2 : W1.heap.size = w.heap.size + 3 := (by rw [eW]; simp)
  have HA : Hid (VIs (fun k => k ≠ w.heap.size + 1) W1 (.agg #[.int .i64 t.k.1, .int .i64 t.k.2, .string t.tg, .string t.tx, .slice ta t.at_.length tb, .slice tc t.ks.length td]) t) := h.turn hb2.size fun k _ l => ⟨by show k ≠ _; omega, hb2.block k l⟩
  have HR := hide8 hO0
  have HM : Hid (MapIs ixK ixV W1 (w.heap.size + 1) ([] : List Ix)) := ⟨#[], 0, hO1, ⟨rfl, List.nodup_nil, fun x h => by simp at h⟩⟩
  have HD := hide8 hO2
  have HL := hide8 hb2
  have HE := hide8 eW
  have Hsz := hide8 hs2
  have hmm := @run_makeMap Try.prog
  clear h hb2 eW hO0 hO1 hO2 hs2
  go_enter Try.func26, Try.ntmps26
  go_upto_region 2 with fail
  clear hmm
  (try rw [show w.heap.size + 1 + 1 = w.heap.size + 2 by omega])
  rw [← HE.out]
  clear HE
  obtain ⟨mb, emb⟩ : ∃ n, n = w.heap.size + 1 := ⟨_, rfl⟩
  obtain ⟨db, edb⟩ : ∃ n, n = w.heap.size + 2 := ⟨_, rfl⟩
  rw [← emb] at HA HM HD
  rw [← edb] at HD
  rw [← edb]
  have Hmd : Hid (w.heap.size ≤ mb ∧ w.heap.size ≤ db ∧ db ≠ mb ∧ db < W1.heap.size ∧ mb < W1.heap.size) := (by have := Hsz.out; show _ ∧ _; omega)
  clear emb edb Hsz
  obtain ⟨y0, y1, y2, y3, y4, y5⟩ := row6o HR.out
  go_wp2_with fail
  clear y0 y1 y2 y3 y4 y5
  refine (add_two t x _ db mb none [] _ HA.out Hks.out Hxk.out HD.out HM.out rfl (fun nb => by have hne := Hne.out; simp [getP, ixK, hne])).mono ?_
  rintro e w2 ⟨nb, xb, rfl, ⟨va, vc, hn⟩, ⟨xe, xf, hx⟩, hn1, hx1, hxn, hm, hk⟩
  have hd : w2.heap[db]? = some (.cells #[.pointer none, .map (some mb)] 67) := (hk.bl db ⟨Hmd.out.2.2.2.1, Hmd.out.2.2.1⟩).trans HD.out
  have d0 := (row2o hd).1
  have f0 : w2.frozen? ⟨db, 0, none⟩ = false := frozen_of_row w2 db 0 _ _ hd
  have hset := heap_setCell_same w2 db 0 _ _ (.pointer (some ⟨nb, 0, none⟩)) hd
  have hot : ∀ k, k ≠ db → (w2.setCell ⟨db, 0, none⟩ (.pointer (some ⟨nb, 0, none⟩))).heap[k]? = w2.heap[k]? := fun k q => RowKit.Below.heap_setCell _ _ _ _ q
  have HZ : Hid (Dom2 db mb nb xb t x (w2.setCell ⟨db, 0, none⟩ (.pointer (some ⟨nb, 0, none⟩)))) := ⟨by simpa using hset, (by have h9 : MapIs ixK ixV w2 mb [(t.k, nb), (x.k, xb)] := (by simpa using hm); exact h9.keep (hot mb (fun e => Hmd.out.2.2.1 e.symm))), ⟨va, vc, (hot nb (by have := Hmd.out.2.2.2.1; omega)).trans hn⟩, ⟨xe, xf, (hot xb (by have := Hmd.out.2.2.2.1; omega)).trans hx⟩⟩
  have HZb : Hid (Below w.heap.size w (w2.setCell ⟨db, 0, none⟩ (.pointer (some ⟨nb, 0, none⟩)))) := ((Below.trans_keep HL.out hk Hmd.out.1 HL.out.size).setCell (p := ⟨db, 0, none⟩) Hmd.out.2.1 _)
  clear hset hot hn hx hm hk hd hn1 hx1
  go_wp2
  clear d0 f0
  (try rw [Exit.noGoto_ret])
  go_ret
  exact ⟨db, rfl, ⟨mb, nb, xb, HZ.out⟩, HZb.out⟩

set_option maxRecDepth 100000 in
set_option maxHeartbeats 4000000 in
theorem load_two (G : Nat → Prop) (t x : VT) (v : Value) (w : World) (h : VIs G w v t) (hks : t.ks = [x]) (hxk : x.ks = []) (hne : t.k ≠ x.k) (hsz : t.sz ≤ 1048576) (hbn : BnA t) (hck : chkT t = 0) :
    Calls Try.prog 32 #[v] w fun e w' => ∃ db, e = .returned (.tuple #[.pointer (some ⟨db, 0, none⟩), .int .i64 0]) ∧ (∃ mb nb xb, Dom2 db mb nb xb t x w') ∧ Below w.heap.size w w' := by
  have Hks := hide8 hks
  have Hxk := hide8 hxk
  have Hne := hide8 hne
  clear hks hxk hne
  obtain ⟨ta, tb, tc, td, e1, _⟩ := h.form
  subst e1
  obtain ⟨W0, eW⟩ : ∃ X, X = w.alloc (.cells #[.int .i64 t.k.1, .int .i64 t.k.2, .string t.tg, .string t.tx, .slice ta t.at_.length tb, .slice tc t.ks.length td] 42) := ⟨_, rfl⟩
  have hb0 : Below w.heap.size w W0 := (by rw [eW]; exact (Below.refl _ _).alloc (Nat.le_refl _) _)
  have HR : Hid (W0.heap[w.heap.size]? = some (.cells #[.int .i64 t.k.1, .int .i64 t.k.2, .string t.tg, .string t.tx, .slice ta t.at_.length tb, .slice tc t.ks.length td] 42)) := (by show _ = _; rw [eW]; exact heap_alloc_new _ _)
  have HA : Hid (VIs G W0 (.agg #[.int .i64 t.k.1, .int .i64 t.k.2, .string t.tg, .string t.tx, .slice ta t.at_.length tb, .slice tc t.ks.length td]) t) := h.below hb0
  have HL := hide8 hb0
  have HE := hide8 eW
  clear h hb0 eW
  go_enter Try.func32, Try.ntmps32
  go_upto_region 1 with fail
  rw [← HE.out]
  clear HE
  obtain ⟨y0, y1, y2, y3, y4, y5⟩ := row6o HR.out
  go_wp2_with fail
  clear y0 y1 y2 y3 y4 y5
  refine (check_any G t _ _ HA.out hsz hbn).mono ?_
  rintro e w1 ⟨rfl, hb1⟩
  rw [hck]
  replace HL := hide8 (HL.out.trans (hb1.mono HL.out.size))
  replace HA := hide8 (HA.out.below hb1)
  replace HR := hide8 ((hb1.block _ (row_lt HR.out)).trans HR.out)
  clear hb1
  obtain ⟨y0, y1, y2, y3, y4, y5⟩ := row6o HR.out
  go_wp2_with fail
  clear y0 y1 y2 y3 y4 y5
  refine (grow_two G t x _ _ HA.out Hks.out Hxk.out Hne.out).mono ?_
  rintro e w2 ⟨db, rfl, ⟨mb, nb, xb, hd⟩, hb1⟩
  have HZ := hide8 hd
  have HZb := hide8 (HL.out.trans (hb1.mono HL.out.size))
  clear hd hb1
  go_wp2
  (try rw [Exit.noGoto_ret])
  go_ret2
  exact ⟨db, rfl, ⟨mb, nb, xb, HZ.out⟩, HZb.out⟩

set_option maxRecDepth 100000 in
set_option maxHeartbeats 4000000 in
theorem len_two (db mb nb xb : Nat) (t x : VT) (w : World) (h : Dom2 db mb nb xb t x w) : Calls Try.prog 9 #[.pointer (some ⟨db, 0, none⟩)] w fun e w' => e = .returned (.int .i64 2) ∧ Below w.heap.size w w' := by
  obtain ⟨d0, d1⟩ := row2o h.d
  obtain ⟨es, cl, hes, he⟩ := h.m
  have hsz : es.size = 2 := (by have h3 := congrArg List.length he.ent; simpa using h3)
  have hln := run_len_map (P := Try.prog) (w := w) 52 3 mb es cl (by rfl) hes
  rw [hsz] at hln
  clear he hsz
  go_enter Try.func9, Try.ntmps9
  go_wp2
  clear d0 d1 hln
  go_ret
  exact ⟨rfl, Below.refl _ _⟩

set_option maxRecDepth 100000 in
set_option maxHeartbeats 4000000 in
theorem top_two (db mb nb xb : Nat) (t x : VT) (w : World) (h : Dom2 db mb nb xb t x w) : Calls Try.prog 7 #[.pointer (some ⟨db, 0, none⟩)] w fun e w' => e = .returned (.pointer (some ⟨nb, 0, none⟩)) ∧ Below w.heap.size w w' := by
  obtain ⟨d0, d1⟩ := row2o h.d
  go_enter Try.func7, Try.ntmps7
  go_wp2
  clear d0 d1
  go_ret
  exact ⟨rfl, Below.refl _ _⟩

set_option maxRecDepth 100000 in
set_option maxHeartbeats 4000000 in
theorem first_two (db mb nb xb : Nat) (t x : VT) (w : World) (h : Dom2 db mb nb xb t x w) : Calls Try.prog 18 #[.pointer (some ⟨nb, 0, none⟩)] w fun e w' => e = .returned (.pointer (some ⟨xb, 0, none⟩)) ∧ Below w.heap.size w w' := by
  obtain ⟨va, vc, hn⟩ := h.n
  obtain ⟨n0, n1, n2, n3, n4, n5, n6, n7, n8, n9⟩ := row10 hn
  go_enter Try.func18, Try.ntmps18
  go_wp2
  clear n0 n1 n2 n3 n4 n5 n6 n7 n8 n9
  go_ret
  exact ⟨rfl, Below.refl _ _⟩

set_option maxRecDepth 100000 in
set_option maxHeartbeats 4000000 in
theorem tag_two (db mb nb xb : Nat) (t x : VT) (w : World) (h : Dom2 db mb nb xb t x w) : Calls Try.prog 14 #[.pointer (some ⟨xb, 0, none⟩)] w fun e w' => e = .returned (.string x.tg) ∧ Below w.heap.size w w' := by
  obtain ⟨xe, xf, hn⟩ := h.x
  obtain ⟨n0, n1, n2, n3, n4, n5, n6, n7, n8, n9⟩ := row10 hn
  go_enter Try.func14, Try.ntmps14
  go_wp2
  clear n0 n1 n2 n3 n4 n5 n6 n7 n8 n9
  go_ret
  exact ⟨rfl, Below.refl _ _⟩

set_option maxRecDepth 100000 in
set_option maxHeartbeats 4000000 in
theorem find_two (db mb nb xb : Nat) (t x : VT) (w : World) (h : Dom2 db mb nb xb t x w) (hne : t.k ≠ x.k) : Calls Try.prog 6 #[.pointer (some ⟨db, 0, none⟩), .agg #[.int .i64 x.k.1, .int .i64 x.k.2]] w fun e w' => e = .returned (.pointer (some ⟨xb, 0, none⟩)) ∧ Below w.heap.size w w' := by
  obtain ⟨W0, eW⟩ : ∃ X, X = w.alloc (.cells #[.int .i64 x.k.1, .int .i64 x.k.2] 24) := ⟨_, rfl⟩
  have hb0 : Below w.heap.size w W0 := (by rw [eW]; exact (Below.refl _ _).alloc (Nat.le_refl _) _)
  have HR : Hid (W0.heap[w.heap.size]? = some (.cells #[.int .i64 x.k.1, .int .i64 x.k.2] 24)) := (by show _ = _; rw [eW]; exact heap_alloc_new _ _)
  have HD : Hid (Dom2 db mb nb xb t x W0) := h.below hb0
  have HL := hide8 hb0
  have HE := hide8 eW
  have hlk : ∀ W9 : World, W9.heap[mb]? = W0.heap[mb]? → (Instr.lookup 52 (.map (some mb)) (.agg #[.int .i64 x.k.1, .int .i64 x.k.2]) false).run Try.prog W9 = .ok (.pointer (some ⟨xb, 0, none⟩)) W9 := fun W9 e => (look1_st 52 26 (.pointer none) uIx zIx (HD.out.m.keep e) x.k).trans (by simp [getP, ixK, ixV, hne])
  have Hlk := hide8 hlk
  clear h hb0 eW hlk
  go_enter Try.func6, Try.ntmps6
  go_upto_region 3 with fail
  rw [← HE.out]
  clear HE
  refine wp_region_held_drew (S := fun W' => Below W0.heap.size W0 W') (by kernel_rfl) (Below.refl _ _).drew (fun hHeld => ?_)
  obtain ⟨Uf1u0, eW⟩ : ∃ X, X = W0.drew := ⟨_, rfl⟩
  have hb : Below W0.heap.size W0 Uf1u0 := by rw [eW]; exact (Below.refl _ _).drew
  rw [← eW] at hHeld ⊢
  clear eW hb
  refine tkW 0 (some 7) (v := ?_) ?_ hHeld ?_
  rotate_left
  · (intro ww _; go_simp; try with_reducible rfl)
  refine tkW 1 (some 8) (v := ?_) ?_ hHeld ?_
  rotate_left
  · (intro ww hSw; (try dsimp only at hSw); go_simp; try with_reducible rfl)
  refine tkW 2 (some 9) (v := ?_) ?_ hHeld ?_
  rotate_left
  · (intro ww _; go_simp; try with_reducible rfl)
  refine tkW 3 (some 10) (v := ?_) ?_ hHeld ?_
  rotate_left
  · (intro ww hSw; (try dsimp only at hSw); obtain ⟨y0, y1⟩ := row2o ((hSw.block _ (row_lt HD.out.d)).trans HD.out.d); go_simp; try with_reducible rfl)
  refine tkW 4 (some 11) (v := ?_) ?_ hHeld ?_
  rotate_left
  · (intro ww hSw; (try dsimp only at hSw); obtain ⟨y0, y1⟩ := row2o ((hSw.block _ (row_lt HR.out)).trans HR.out); go_simp; try with_reducible rfl)
  refine tkW 5 (some 12) (v := ?_) ?_ hHeld ?_
  rotate_left
  · (intro ww hSw; (try dsimp only at hSw); have hl9 := Hlk.out ww (hSw.block _ HD.out.m.lt); go_simp; try with_reducible rfl)
  refine tkW 6 (some 4) (v := ?_) ?_ hHeld ?_
  rotate_left
  · (intro ww _; go_simp; try with_reducible rfl)
  refine wpAnyH_done (by kernel_rfl) ?_ _
  have HZ : Hid (Below w.heap.size w Uf1u0) := HL.out.trans (hHeld.mono HL.out.size)
  clear hHeld
  go_wp2
  (try rw [Exit.noGoto_ret])
  go_ret
  exact ⟨rfl, HZ.out⟩

theorem uPtr : Try.prog.underlying 26 = some (.pointer 65) := by kernel_rfl
theorem sizeNode : (Try.prog.info? 65).map (·.size) = some 10 := by kernel_rfl
theorem eqlIn_ptr (d a b : Nat) (w : World) {ca cb : Array Value} {ta tb : TypeId} (ha : w.heap[a]? = some (.cells ca ta (0, 0))) (hb : w.heap[b]? = some (.cells cb tb (0, 0))) : (Op.equalIn (d + 1) 26 (.pointer (some ⟨a, 0, none⟩)) (.pointer (some ⟨b, 0, none⟩))).run Try.prog w = .ok (decide (a = b)) w := by
  have h : (sameAddr ⟨a, 0, none⟩ ⟨b, 0, none⟩).run Try.prog w = .ok (decide (a = b)) w := by
    by_cases e : a = b
    · subst e
      rw [run_sameAddr_same, decide_eq_true rfl]
    · rw [run_sameAddr_other w (fun e2 => e (by cases e2; rfl)) ha hb, decide_eq_false e]
  have hi := sizeNode
  cases hq : Try.prog.info? 65 with
  | none => simp [hq] at hi
  | some i =>
    have hz : i.size = 10 := by simpa [hq] using hi
    simp [Op.equalIn, run_underlying uPtr, Go.sizeOf, typeInfo, hq, hz, h]
theorem eqlIn_nil (d a : Nat) (w : World) : (Op.equalIn (d + 1) 26 (.pointer none) (.pointer (some ⟨a, 0, none⟩))).run Try.prog w = .ok false w := by
  simp [Op.equalIn, run_underlying uPtr]
theorem eqlB (a b : Nat) (w : World) {ca cb : Array Value} {ta tb : TypeId} (ha : w.heap[a]? = some (.cells ca ta (0, 0))) (hb : w.heap[b]? = some (.cells cb tb (0, 0))) : (binOp .eql 26 (.pointer (some ⟨a, 0, none⟩)) (.pointer (some ⟨b, 0, none⟩))).run Try.prog w = .ok (.bool (decide (a = b))) w := by
  have h : (Op.equal 26 (.pointer (some ⟨a, 0, none⟩)) (.pointer (some ⟨b, 0, none⟩))).run Try.prog w = _ := eqlIn_ptr 9999 a b w ha hb
  simp only [binOp]
  simp [h]
theorem sizeSo : (Try.prog.info? 24).map (·.size) = some 2 := by kernel_rfl

set_option maxRecDepth 100000 in
set_option maxHeartbeats 4000000 in
theorem awakeO_any (w : World) : Calls Try.prog 22 #[] w fun e w' => e = .returned (.bool true) ∧ Below w.heap.size w w' := by
  go_enter Try.func22, Try.ntmps22
  have Hz : Hid ((w.alloc (.cells #[.int .i64 0, .int .i64 0] 24)).heap[w.heap.size]? = some (.cells #[.int .i64 0, .int .i64 0] 24)) := heap_alloc_new _ _
  obtain ⟨W1, eW⟩ : ∃ X, X = (w.alloc (.cells #[.int .i64 0, .int .i64 0] 24)).setRow w.heap.size #[.int .i64 1, .int .i64 0] := ⟨_, rfl⟩
  have hb9 : Below w.heap.size w W1 := (by rw [eW]; exact ((Below.refl _ _).alloc (Nat.le_refl _) _).grown (grown_setRow _ _ _) (by simp) (fun k e => by cases e; exact Nat.le_refl _))
  obtain ⟨sb, enb⟩ : ∃ b, b = w.heap.size := ⟨_, rfl⟩
  have Hsb : Hid (W1.heap[sb]? = some (.cells #[.int .i64 1, .int .i64 0] 24)) := (by show _ = _; rw [eW, enb]; exact setRow_same Hz.out)
  have HE9 := hide9 (And.intro eW enb)
  clear eW enb
  have HL1 : Hid (Below w.heap.size w W1) := hb9
  clear hb9
  go_wp2_with (refine wpList_store_row rfl 24 (.tmp 1) (.tmp 4) rfl w.heap.size 24 #[.int .i64 0, .int .i64 0] #[.int .i64 1, .int .i64 0] rfl rfl Hz.out sizeSo rfl (by simp [Value.oneCell']) ?_; refine StpD.to ?_)
  refine StpD.of ?_
  rw [← HE9.out.1, ← HE9.out.2]
  clear HE9 Hz
  obtain ⟨W2, eW2⟩ : ∃ X, X = W1.alloc (.cells #[.int .i64 1, .int .i64 0, .string ⟨#[112]⟩, .string ⟨#[]⟩, .slice none 0 0, .slice none 0 0] 42) := ⟨_, rfl⟩
  have hb2 : Below W1.heap.size W1 W2 := (by rw [eW2]; exact (Below.refl _ _).alloc (Nat.le_refl _) _)
  have hr : W2.heap[W1.heap.size]? = some (.cells #[.int .i64 1, .int .i64 0, .string ⟨#[112]⟩, .string ⟨#[]⟩, .slice none 0 0, .slice none 0 0] 42) := (by rw [eW2]; exact heap_alloc_new _ _)
  have HV := hide8 (visQ hr)
  have HL := hide8 (HL1.out.trans (hb2.mono HL1.out.size))
  have Hsb2 : Hid (W2.heap[sb]? = some (.cells #[.int .i64 1, .int .i64 0] 24)) := (hb2.block _ (row_lt Hsb.out)).trans Hsb.out
  have HE := hide8 eW2
  obtain ⟨y0, y1⟩ := row2o Hsb.out
  clear eW2 hb2 hr Hsb HL1
  go_wp2_with fail
  clear y0 y1
  rw [← HE.out]
  clear HE
  refine (load_two (fun _ => True) tQ tP _ _ HV.out rfl rfl (by decide) (by rw [szQ]; decide) bnQ chkQ).mono ?_
  rintro e w3 ⟨db, rfl, ⟨mb, nb, xb, hd⟩, hb3⟩
  have HD := hide8 hd
  replace HL := hide8 (HL.out.trans (hb3.mono HL.out.size))
  replace Hsb2 := hide8 ((hb3.block _ (row_lt Hsb2.out)).trans Hsb2.out)
  have HD3 := HD
  clear hd hb3 HV
  go_upto_region 3 with fail
  refine wp_region_held_drew (S := fun W' => Below w3.heap.size w3 W') (by kernel_rfl) (Below.refl _ _).drew (fun hHeld => ?_)
  obtain ⟨Ua2u0, eW⟩ : ∃ X, X = w3.drew := ⟨_, rfl⟩
  have hb : Below w3.heap.size w3 Ua2u0 := by rw [eW]; exact (Below.refl _ _).drew
  replace HD : Hid (Dom2 db mb nb xb tQ tP Ua2u0) := HD.out.below hb
  rw [← eW] at hHeld ⊢
  clear eW hb
  refine tkW 0 (some 13) (v := ?_) ?_ hHeld ?_
  rotate_left
  · (intro ww _; go_simp; try with_reducible rfl)
  refine tkW 1 (some 14) (v := ?_) ?_ hHeld ?_
  rotate_left
  · (intro ww hSw; (try dsimp only at hSw); go_simp; try with_reducible rfl)
  refine tkW 2 (some 15) (v := ?_) ?_ hHeld ?_
  rotate_left
  · (intro ww _; go_simp; try with_reducible rfl)
  refine tkW 3 (some 16) (v := ?_) ?_ hHeld ?_
  rotate_left
  · (intro ww _; go_simp; try with_reducible rfl)
  refine wpAnyH_ready (rs := [4]) (by kernel_rfl) (by simp) ?_
  refine AllReadyH.cons (o := ⟨some 17, _, _, _, _, _⟩) rfl (fun K hK => ?_) AllReadyH.nil
  go_simp
  refine (len_two db mb nb xb tQ tP _ HD.out).mono ?_
  rintro e Ua2u1 ⟨rfl, hb⟩
  have hkp := hHeld.trans (hb.mono hHeld.size)
  replace HD := hide8 (HD.out.below hb)
  clear hb
  (try go_wp2_with fail)
  refine hK.out _ _ (hkp) (fun hHeld2 => ?_)
  clear hK K hHeld
  have hHeld := hHeld2
  clear hHeld2
  (try simp only [Act.put, List.setIfInBounds_toArray, List.set_cons_zero, List.set_cons_succ])
  clear hkp
  refine tkW 5 (some 18) (v := ?_) ?_ hHeld ?_
  rotate_left
  · (intro ww hSw; (try dsimp only at hSw); go_simp; try with_reducible rfl)
  refine tkW 6 (some 19) (v := ?_) ?_ hHeld ?_
  rotate_left
  · (intro ww _; go_simp; try with_reducible rfl)
  refine tkW 7 (some 20) (v := ?_) ?_ hHeld ?_
  rotate_left
  · (intro ww _; go_simp; try with_reducible rfl)
  refine tkW 8 (some 21) (v := ?_) ?_ hHeld ?_
  rotate_left
  · (intro ww _; go_simp; try with_reducible rfl)
  refine tkW 9 (some 22) (v := ?_) ?_ hHeld ?_
  rotate_left
  · (intro ww hSw; (try dsimp only at hSw); obtain ⟨y0, y1⟩ := row2o ((hSw.block _ (row_lt Hsb2.out)).trans Hsb2.out); go_simp; try with_reducible rfl)
  refine wpAnyH_ready (rs := [10]) (by kernel_rfl) (by simp) ?_
  refine AllReadyH.cons (o := ⟨some 23, _, _, _, _, _⟩) rfl (fun K hK => ?_) AllReadyH.nil
  go_simp
  refine (find_two db mb nb xb tQ tP _ HD.out (by decide)).mono ?_
  rintro e Ua2u2 ⟨rfl, hb⟩
  have hkp := hHeld.trans (hb.mono hHeld.size)
  replace HD := hide8 (HD.out.below hb)
  clear hb
  (try go_wp2_with fail)
  refine hK.out _ _ (hkp) (fun hHeld2 => ?_)
  clear hK K hHeld
  have hHeld := hHeld2
  clear hHeld2
  (try simp only [Act.put, List.setIfInBounds_toArray, List.set_cons_zero, List.set_cons_succ])
  clear hkp
  refine wpAnyH_ready (rs := [11]) (by kernel_rfl) (by simp) ?_
  refine AllReadyH.cons (o := ⟨some 24, _, _, _, _, _⟩) rfl (fun K hK => ?_) AllReadyH.nil
  go_simp
  refine (tag_two db mb nb xb tQ tP _ HD.out).mono ?_
  rintro e Ua2u3 ⟨rfl, hb⟩
  rw [show tP.tg = ⟨#[112]⟩ from rfl]
  have hkp := hHeld.trans (hb.mono hHeld.size)
  replace HD := hide8 (HD.out.below hb)
  clear hb
  (try go_wp2_with fail)
  refine hK.out _ _ (hkp) (fun hHeld2 => ?_)
  clear hK K hHeld
  have hHeld := hHeld2
  clear hHeld2
  (try simp only [Act.put, List.setIfInBounds_toArray, List.set_cons_zero, List.set_cons_succ])
  clear hkp
  refine tkW 12 (some 25) (v := .bool true) ?_ hHeld ?_
  · (intro ww hSw; (try dsimp only at hSw); go_simp; try rfl)
  refine tkW 13 (some 26) (v := ?_) ?_ hHeld ?_
  rotate_left
  · (intro ww _; go_simp; try with_reducible rfl)
  refine tkW 14 (some 27) (v := ?_) ?_ hHeld ?_
  rotate_left
  · (intro ww _; go_simp; try with_reducible rfl)
  refine tkW 15 (some 28) (v := ?_) ?_ hHeld ?_
  rotate_left
  · (intro ww _; go_simp; try with_reducible rfl)
  refine tkW 18 (some 31) (v := ?_) ?_ hHeld ?_
  rotate_left
  · (intro ww _; go_simp; try with_reducible rfl)
  refine tkW 19 (some 32) (v := ?_) ?_ hHeld ?_
  rotate_left
  · (intro ww hSw; (try dsimp only at hSw); obtain ⟨y0, y1⟩ := row2o ((hSw.block _ (row_lt Hsb2.out)).trans Hsb2.out); go_simp; try with_reducible rfl)
  refine wpAnyH_ready (rs := [16]) (by kernel_rfl) (by simp) ?_
  refine AllReadyH.cons (o := ⟨some 29, _, _, _, _, _⟩) rfl (fun K hK => ?_) AllReadyH.nil
  go_simp
  refine (top_two db mb nb xb tQ tP _ HD.out).mono ?_
  rintro e Ua2u4 ⟨rfl, hb⟩
  have hkp := hHeld.trans (hb.mono hHeld.size)
  replace HD := hide8 (HD.out.below hb)
  clear hb
  (try go_wp2_with fail)
  refine hK.out _ _ (hkp) (fun hHeld2 => ?_)
  clear hK K hHeld
  have hHeld := hHeld2
  clear hHeld2
  (try simp only [Act.put, List.setIfInBounds_toArray, List.set_cons_zero, List.set_cons_succ])
  clear hkp
  refine wpAnyH_ready (rs := [17]) (by kernel_rfl) (by simp) ?_
  refine AllReadyH.cons (o := ⟨some 30, _, _, _, _, _⟩) rfl (fun K hK => ?_) AllReadyH.nil
  go_simp
  refine (first_two db mb nb xb tQ tP _ HD.out).mono ?_
  rintro e Ua2u5 ⟨rfl, hb⟩
  have hkp := hHeld.trans (hb.mono hHeld.size)
  replace HD := hide8 (HD.out.below hb)
  clear hb
  (try go_wp2_with fail)
  refine hK.out _ _ (hkp) (fun hHeld2 => ?_)
  clear hK K hHeld
  have hHeld := hHeld2
  clear hHeld2
  (try simp only [Act.put, List.setIfInBounds_toArray, List.set_cons_zero, List.set_cons_succ])
  clear hkp
  refine wpAnyH_ready (rs := [20]) (by kernel_rfl) (by simp) ?_
  refine AllReadyH.cons (o := ⟨some 33, _, _, _, _, _⟩) rfl (fun K hK => ?_) AllReadyH.nil
  go_simp
  refine (find_two db mb nb xb tQ tP _ HD.out (by decide)).mono ?_
  rintro e Ua2u6 ⟨rfl, hb⟩
  have hkp := hHeld.trans (hb.mono hHeld.size)
  replace HD := hide8 (HD.out.below hb)
  clear hb
  (try go_wp2_with fail)
  refine hK.out _ _ (hkp) (fun hHeld2 => ?_)
  clear hK K hHeld
  have hHeld := hHeld2
  clear hHeld2
  (try simp only [Act.put, List.setIfInBounds_toArray, List.set_cons_zero, List.set_cons_succ])
  clear hkp
  refine tkW 21 (some 34) (v := ?_) ?_ hHeld ?_
  rotate_left
  · (intro ww hSw; (try dsimp only at hSw); obtain ⟨_, _, hx9⟩ := HD3.out.x; have hq9 := eqlB xb xb ww ((hSw.block _ (row_lt hx9)).trans hx9) ((hSw.block _ (row_lt hx9)).trans hx9); rw [decide_eq_true rfl] at hq9; go_simp; try with_reducible rfl)
  refine tkW 22 (some 35) (v := ?_) ?_ hHeld ?_
  rotate_left
  · (intro ww _; go_simp; try with_reducible rfl)
  refine tkW 23 (some 36) (v := ?_) ?_ hHeld ?_
  rotate_left
  · (intro ww _; go_simp; try with_reducible rfl)
  refine tkW 24 (some 37) (v := ?_) ?_ hHeld ?_
  rotate_left
  · (intro ww _; go_simp; try with_reducible rfl)
  refine tkW 25 (some 38) (v := ?_) ?_ hHeld ?_
  rotate_left
  · (intro ww hSw; (try dsimp only at hSw); obtain ⟨y0, y1⟩ := row2o ((hSw.block _ (row_lt Hsb2.out)).trans Hsb2.out); go_simp; try with_reducible rfl)
  refine wpAnyH_ready (rs := [26]) (by kernel_rfl) (by simp) ?_
  refine AllReadyH.cons (o := ⟨some 39, _, _, _, _, _⟩) rfl (fun K hK => ?_) AllReadyH.nil
  go_simp
  refine (find_two db mb nb xb tQ tP _ HD.out (by decide)).mono ?_
  rintro e Ua2u7 ⟨rfl, hb⟩
  have hkp := hHeld.trans (hb.mono hHeld.size)
  replace HD := hide8 (HD.out.below hb)
  clear hb
  (try go_wp2_with fail)
  refine hK.out _ _ (hkp) (fun hHeld2 => ?_)
  clear hK K hHeld
  have hHeld := hHeld2
  clear hHeld2
  (try simp only [Act.put, List.setIfInBounds_toArray, List.set_cons_zero, List.set_cons_succ])
  clear hkp
  refine tkW 27 (some 40) (v := ?_) ?_ hHeld ?_
  rotate_left
  · (intro ww hSw; (try dsimp only at hSw); go_simp; try with_reducible rfl)
  refine tkW 28 (some 41) (v := ?_) ?_ hHeld ?_
  rotate_left
  · (intro ww _; go_simp; try with_reducible rfl)
  refine tkW 29 (some 0) (v := ?_) ?_ hHeld ?_
  rotate_left
  · (intro ww _; go_simp; try with_reducible rfl)
  refine wpAnyH_done (by kernel_rfl) ?_ _
  have HZ : Hid (Below w.heap.size w Ua2u7) := HL.out.trans (hHeld.mono HL.out.size)
  clear hHeld
  go_wp2
  (try rw [Exit.noGoto_ret])
  go_ret
  exact ⟨rfl, HZ.out⟩

end Go.Proofs.Ytljmlbidbacdjab
