/- The walk of VtreeAsks. -/
import Derived.Test.YtnanlmmmppcipaaVtKe
import Derived.Test.YtnanlmmmppcipaaVtKh
import Derived.Test.YtnanlmmmppcipaaVtU
import Derived.Test.YtnanlmmmppcipaaVtL
import Derived.Test.YtnanlmmmppcipaaVtZ
import Derived.Deep.Cut
namespace Go.Proofs.Ytnanlmmmppcipaa
open Go.RowKit Go.Shelf
set_option linter.unusedVariables false
set_option linter.unusedSimpArgs false

theorem sizeVA : (Try.prog.info? 27).map (·.size) = some 6 := by kernel_rfl
theorem sizeSA : (Try.prog.info? 23).map (·.size) = some 2 := by kernel_rfl
theorem neqStA (c r : Int) (w : World) : (binOp .neq 23 (.agg #[.int .i64 c, .int .i64 r]) (.agg #[.int .i64 c, .int .i64 r])).run Try.prog w = .ok (.bool false) w := by rw [neqSt]; simp
set_option maxHeartbeats 1000000 in
theorem many_any (G : Nat → Prop) (t : VT) (v : Value) (w : World) (h : VIs G w v t) (hsz : t.sz ≤ 1048576) : Calls Try.prog 22 #[v] w fun e w' => e = .returned (.bool (decide (1500 < t.sz))) ∧ Below w.heap.size w w' := by
  obtain ⟨aa, ca, ak, ck, e1, fd⟩ := h.form
  subst e1
  obtain ⟨W0, eW⟩ : ∃ X, X = (w.alloc (.cells #[.int .i64 t.k.1, .int .i64 t.k.2, .string t.tg, .string t.tx, .slice aa t.at_.length ca, .slice ak t.ks.length ck] 27)) := ⟨_, rfl⟩
  have hb0 : Below w.heap.size w W0 := (by rw [eW]; exact (Below.refl _ _).alloc (Nat.le_refl _) _)
  have HFd := hide9 (fd.below hb0)
  have HB := hide9 hb0
  have HE := hide9 eW
  clear h fd hb0 eW
  go_enter Try.func22, Try.ntmps22
  go_wp2_with fail
  rw [← HE.out]
  refine (flatF_any G t _ _ (VIs.of HFd.out) hsz).mono ?_
  rintro e w1 ⟨v1, L, rfl, h1, h2, h3, h4⟩
  obtain ⟨a1, c1, e1⟩ := OwnE.form h1
  subst e1
  have hLl : L.length = t.sz := (by rw [← flT_len, ← h2, List.length_map])
  have HB1 : Hid (Below w.heap.size w w1) := HB.out.trans (h4.mono HB.out.size)
  rw [hLl]
  clear h1 h2 h3 h4 hLl HE HFd HB
  go_wp2
  go_ret
  exact ⟨ret_bool (by first | rfl | (apply decide_eq_decide.2; omega)), HB1.out⟩
/-- What stands in VtreeAsks. -/
structure AsS (w : World) (N1 ob : Nat) (t : VT) (key : St) (aa : Option Addr) (ca : Nat) (ak : Option Addr) (ck : Nat) (ya : Option Addr) (cy : Nat) (yk : Option Addr) (dy : Nat) (W : World) : Prop where
  tb : W.heap[w.heap.size]? = some (.cells #[.int .i64 t.k.1, .int .i64 t.k.2, .string t.tg, .string t.tx, .slice aa t.at_.length ca, .slice ak t.ks.length ck] 27)
  kb : W.heap[w.heap.size + 1]? = some (.cells #[.int .i64 key.1, .int .i64 key.2] 23)
  ow : W.heap[ob]? = some (.cells #[.int .i64 t.k.1, .int .i64 t.k.2, .string t.tg, .string t.tx, .slice ya t.at_.length cy, .slice yk t.ks.length dy] 27)
  ft : FdIs (fun k => k < N1) W (.slice aa t.at_.length ca) (.slice ak t.ks.length ck) t.at_ t.ks
  fo : FdIs (fun k => k < N1) W (.slice ya t.at_.length cy) (.slice yk t.ks.length dy) t.at_ t.ks
  bel : Below w.heap.size w W
  lt : w.heap.size + 1 < N1 ∧ ob < N1 ∧ N1 ≤ W.heap.size
section
variable {w W W' : World} {N1 ob : Nat} {t : VT} {key : St} {aa : Option Addr} {ca : Nat} {ak : Option Addr} {ck : Nat} {ya : Option Addr} {cy : Nat} {yk : Option Addr} {dy : Nat}
theorem AsS.below (h : AsS w N1 ob t key aa ca ak ck ya cy yk dy W) (hb : Below W.heap.size W W') : AsS w N1 ob t key aa ca ak ck ya cy yk dy W' := ⟨(hb.block _ (row_lt h.tb)).trans h.tb, (hb.block _ (row_lt h.kb)).trans h.kb, (hb.block _ (row_lt h.ow)).trans h.ow, h.ft.below hb, h.fo.below hb, h.bel.trans (hb.mono h.bel.size), h.lt.1, h.lt.2.1, Nat.le_trans h.lt.2.2 hb.size⟩
theorem AsS.touch {F : Nat → Prop} (h : AsS w N1 ob t key aa ca ak ck ya cy yk dy W) (ht : Touch F W W') (hF : ∀ k, F k → N1 ≤ k) : AsS w N1 ob t key aa ca ak ck ya cy yk dy W' := by
  obtain ⟨l1, l2, l3⟩ := h.lt
  exact ⟨(ht.block _ (row_lt h.tb) (fun q => by have := hF _ q; omega)).trans h.tb, (ht.block _ (row_lt h.kb) (fun q => by have := hF _ q; omega)).trans h.kb, (ht.block _ (row_lt h.ow) (fun q => by have := hF _ q; omega)).trans h.ow, h.ft.touch ht (fun k q z => by have := hF k z; omega), h.fo.touch ht (fun k q z => by have := hF k z; omega), h.bel.trans (ht.below (fun k q => by have := hF k q; omega) h.bel.size), l1, l2, Nat.le_trans l3 ht.size⟩
end

/-- A tree of its own, as a value and its blocks. -/
def Sq (x : VT) (F : Nat → Prop) (av kv : Value) (W : World) : Prop := SepF x.sz W F av kv x ∧ ∀ k, F k → k < W.heap.size
theorem Sq.below {x : VT} {F : Nat → Prop} {av kv : Value} {W W' : World} (h : Sq x F av kv W) (hb : Below W.heap.size W W') : Sq x F av kv W' := ⟨h.1.turn _ fun k q => hb.block k (h.2 k q), fun k q => Nat.lt_of_lt_of_le (h.2 k q) hb.size⟩
theorem Sq.row {x : VT} {F : Nat → Prop} {av kv : Value} {W : World} {nb : Nat} {c : Array Value} (h : Sq x F av kv W) (hn : ∀ k, F k → k ≠ nb) : Sq x F av kv (W.setRow nb c) := ⟨h.1.turn _ fun k q => setRow_other W nb k c (hn k q), fun k q => by have := h.2 k q; simpa using this⟩

set_option maxRecDepth 100000 in
set_option maxHeartbeats 16000000 in
theorem vtreeAsks_walk0 (G : Nat → Prop) (v : Value) (t : VT) (key : St) (w : World) (h : VIs G w v t) (hsz : t.sz ≤ 1048576) :
    Calls Try.prog 7 #[v, .agg #[.int .i64 key.1, .int .i64 key.2]] w fun e w' => e = .returned (.bool true) ∧ Below w.heap.size w w' := by
  obtain ⟨aa, ca, ak, ck, e1, fd⟩ := h.form
  subst e1
  obtain ⟨W0, eW⟩ : ∃ X, X = (w.alloc (.cells #[.int .i64 t.k.1, .int .i64 t.k.2, .string t.tg, .string t.tx, .slice aa t.at_.length ca, .slice ak t.ks.length ck] 27)).alloc (.cells #[.int .i64 key.1, .int .i64 key.2] 23) := ⟨_, rfl⟩
  have hb0 : Below w.heap.size w W0 := (by rw [eW]; exact ((Below.refl _ _).alloc (Nat.le_refl _) _).alloc (by simp) _)
  have hs0 : W0.heap.size = w.heap.size + 2 := (by rw [eW]; simp)
  have HT : Hid (W0.heap[w.heap.size]? = some (.cells #[.int .i64 t.k.1, .int .i64 t.k.2, .string t.tg, .string t.tx, .slice aa t.at_.length ca, .slice ak t.ks.length ck] 27)) := (by rw [eW, Below.heap_alloc _ _ _ (by simp)]; exact heap_alloc_new _ _)
  have HK : Hid (W0.heap[w.heap.size + 1]? = some (.cells #[.int .i64 key.1, .int .i64 key.2] 23)) := (by rw [eW]; have h9 := heap_alloc_new (w.alloc (.cells #[.int .i64 t.k.1, .int .i64 t.k.2, .string t.tg, .string t.tx, .slice aa t.at_.length ca, .slice ak t.ks.length ck] 27)) (.cells #[.int .i64 key.1, .int .i64 key.2] 23); rw [show (w.alloc (.cells #[.int .i64 t.k.1, .int .i64 t.k.2, .string t.tg, .string t.tx, .slice aa t.at_.length ca, .slice ak t.ks.length ck] 27)).heap.size = w.heap.size + 1 by simp] at h9; exact h9)
  have HFd : Hid (FdIs (fun k => k < w.heap.size) W0 (.slice aa t.at_.length ca) (.slice ak t.ks.length ck) t.at_ t.ks) := fd.turn hb0.size fun k _ q => ⟨q, hb0.block k q⟩
  have BL := hide9 hb0
  have HE := hide9 eW
  have Hs0 := hide9 hs0
  obtain ⟨y0, y1, y2, y3, y4, y5⟩ := row6 HT.out
  clear h fd hb0 eW hs0
  go_enter Try.func7, Try.ntmps7
  go_upto_region 1 with fail
  rw [← HE.out]
  go_wp2_with fail
  clear HE y0 y1 y2 y3 y4 y5
  refine (many_any _ t _ _ (VIs.of HFd.out) hsz).mono ?_
  rintro e W1 ⟨rfl, hb⟩
  replace HT : Hid (W1.heap[w.heap.size]? = some (.cells #[.int .i64 t.k.1, .int .i64 t.k.2, .string t.tg, .string t.tx, .slice aa t.at_.length ca, .slice ak t.ks.length ck] 27)) := (hb.block _ (row_lt HT.out)).trans HT.out
  replace HK : Hid (W1.heap[w.heap.size + 1]? = some (.cells #[.int .i64 key.1, .int .i64 key.2] 23)) := (hb.block _ (row_lt HK.out)).trans HK.out
  replace HFd := hide9 (HFd.out.below hb)
  replace BL := hide9 (BL.out.trans (hb.mono BL.out.size))
  replace Hs0 : Hid (w.heap.size + 2 ≤ W1.heap.size) := (by have := hb.size; rw [Hs0.out] at this; exact this)
  clear hb
  by_cases hmn : 1500 < t.sz
  · rw [decide_eq_true hmn]
    clear hmn
    go_wp2_with fail
    refine (awake_any _).mono ?_
    rintro e w9 ⟨rfl, hb⟩
    have B9 := hide9 (BL.out.trans (hb.mono BL.out.size))
    clear hb
    go_wp2
    go_ret
    exact ⟨rfl, B9.out⟩
  · rw [decide_eq_false hmn]
    obtain ⟨y0, y1, y2, y3, y4, y5⟩ := row6 HT.out
    go_wp2_with fail
    clear y0 y1 y2 y3 y4 y5
    refine (refCopy_any _ t _ _ (VIs.of HFd.out)).mono ?_
    rintro e W2 ⟨v7, F7, rfl, hv7, hF7, hb⟩
    obtain ⟨ya, cy, yk, dy, e7, fy⟩ := hv7.form
    subst e7
    obtain ⟨W3, eW3⟩ : ∃ X, X = (W2.alloc (.cells #[.int .i64 0, .int .i64 0, .string ⟨#[]⟩, .string ⟨#[]⟩, .slice none 0 0, .slice none 0 0] 27)).setRow W2.heap.size #[.int .i64 t.k.1, .int .i64 t.k.2, .string t.tg, .string t.tx, .slice ya t.at_.length cy, .slice yk t.ks.length dy] := ⟨_, rfl⟩
    have Hz : Hid ((W2.alloc (.cells #[.int .i64 0, .int .i64 0, .string ⟨#[]⟩, .string ⟨#[]⟩, .slice none 0 0, .slice none 0 0] 27)).heap[W2.heap.size]? = some (.cells #[.int .i64 0, .int .i64 0, .string ⟨#[]⟩, .string ⟨#[]⟩, .slice none 0 0, .slice none 0 0] 27)) := heap_alloc_new _ _
    have hb3 : Below W2.heap.size W2 W3 := (by rw [eW3]; exact ((Below.refl _ _).alloc (Nat.le_refl _) _).grown (grown_setRow _ _ _) (by simp) (fun k e => by cases e; exact Nat.le_refl _))
    have hb4 : Below W1.heap.size W1 W3 := hb.trans (hb3.mono hb.size)
    have hs3 : W3.heap.size = W2.heap.size + 1 := (by rw [eW3]; simp)
    obtain ⟨ob, eob⟩ : ∃ n, n = W2.heap.size := ⟨_, rfl⟩
    obtain ⟨N1, eN1⟩ : ∃ n, n = W3.heap.size := ⟨_, rfl⟩
    have HS : Hid (AsS w N1 ob t key aa ca ak ck ya cy yk dy W3) := ⟨(hb4.block _ (row_lt HT.out)).trans HT.out, (hb4.block _ (row_lt HK.out)).trans HK.out, by rw [eW3, eob]; exact setRow_same Hz.out, (HFd.out.below hb4).mono (fun k q _ => by have := Hs0.out; have := hb4.size; omega), (fy.below hb3).mono (fun k q hk => by omega), BL.out.trans (hb4.mono BL.out.size), by have := Hs0.out; have := hb.size; omega, by omega, by omega⟩
    have HE3 := hide9 eW3
    have Hob := hide9 eob
    clear hv7 hF7 hb hb3 hb4 fy eW3 eob hs3 eN1 HT HK HFd BL Hs0 hmn
    go_wp2_with (refine wpList_store_row rfl 27 (.tmp 5) (.tmp 18) rfl W2.heap.size 27 #[.int .i64 0, .int .i64 0, .string ⟨#[]⟩, .string ⟨#[]⟩, .slice none 0 0, .slice none 0 0] #[.int .i64 t.k.1, .int .i64 t.k.2, .string t.tg, .string t.tx, .slice ya t.at_.length cy, .slice yk t.ks.length dy] rfl rfl Hz.out sizeVA rfl (by simp [Value.oneCell']) ?_)
    rw [← HE3.out, ← Hob.out]
    clear HE3 Hz Hob
    obtain ⟨z, ez⟩ : ∃ z : Nat, z = t.sz := ⟨_, rfl⟩
    obtain ⟨dz, edz⟩ : ∃ z : Nat, z = dpT t := ⟨_, rfl⟩
    have HC1 : Hid (∀ W, AsS w N1 ob t key aa ca ak ck ya cy yk dy W → Calls Try.prog 23 #[.agg #[.int .i64 t.k.1, .int .i64 t.k.2, .string t.tg, .string t.tx, .slice ya t.at_.length cy, .slice yk t.ks.length dy]] W fun e w9 => e = .returned (.int .i64 (z : Int)) ∧ Below W.heap.size W w9) := fun W hA => (by rw [ez]; exact count_any _ t _ _ (VIs.of hA.fo) hsz)
    have HC8 : Hid (∀ W, AsS w N1 ob t key aa ca ak ck ya cy yk dy W → Calls Try.prog 25 #[.agg #[.int .i64 t.k.1, .int .i64 t.k.2, .string t.tg, .string t.tx, .slice ya t.at_.length cy, .slice yk t.ks.length dy]] W fun e w9 => e = .returned (.int .i64 (dz : Int)) ∧ Below W.heap.size W w9) := fun W hA => (by rw [edz]; exact depth_any _ t _ _ (VIs.of hA.fo) hsz)
    have HC10 : Hid (∀ W, AsS w N1 ob t key aa ca ak ck ya cy yk dy W → Calls Try.prog 26 #[.agg #[.int .i64 t.k.1, .int .i64 t.k.2, .string t.tg, .string t.tx, .slice aa t.at_.length ca, .slice ak t.ks.length ck]] W fun e w9 => e = .returned (.int .i64 (dz : Int)) ∧ Below W.heap.size W w9) := fun W hA => (by rw [edz]; exact refDepth_any _ t _ _ (VIs.of hA.ft) hsz)
    have HC3 : Hid (∀ W, AsS w N1 ob t key aa ca ak ck ya cy yk dy W → Calls Try.prog 24 #[.agg #[.int .i64 t.k.1, .int .i64 t.k.2, .string t.tg, .string t.tx, .slice aa t.at_.length ca, .slice ak t.ks.length ck]] W fun e w9 => ∃ (a : Option Addr) (c : Nat), e = .returned (.slice a z c) ∧ Below W.heap.size W w9) := fun W hA => (by rw [ez]; refine (flatF_any _ t _ _ (VIs.of hA.ft) hsz).mono ?_; rintro e w9 ⟨v1, L, rfl, h1, h2, _, hb⟩; obtain ⟨a1, c1, e1⟩ := OwnE.form h1; have hLl : L.length = t.sz := (by rw [← flT_len, ← h2, List.length_map]); rw [hLl] at e1; exact ⟨a1, c1, by rw [e1], hb⟩)
    have q1 : ((z : Int) != (z : Int)) = false := by simp
    have q2 : ((dz : Int) != (dz : Int)) = false := by simp
    clear ez edz
    obtain ⟨DK, eDK⟩ : ∃ D, D = (flT t).map VT.k := ⟨_, rfl⟩
    have hDl : DK.length ≤ 1048576 := (by rw [eDK, List.length_map, flT_len]; exact hsz)
    have HDK := hide9 eDK
    clear eDK
    refine wp_region_held_drew (S := fun W' => Below W3.heap.size W3 W') (by kernel_rfl) (Below.refl _ _).drew (fun hHeld => ?_)
    obtain ⟨Ua1u0, eW⟩ : ∃ X, X = W3.drew := ⟨_, rfl⟩
    have hb : Below W3.heap.size W3 Ua1u0 := by rw [eW]; exact (Below.refl _ _).drew
    rw [← eW] at hHeld ⊢
    clear eW hb
    refine tkW 0 (some 19) (v := ?_) ?_ hHeld ?_
    rotate_left
    · (intro ww hSw; (try dsimp only at hSw); obtain ⟨y0, y1, y2, y3, y4, y5⟩ := row6 (HS.out.below hSw).ow; go_simp; try with_reducible rfl)
    refine tkW 2 (some 21) (v := ?_) ?_ hHeld ?_
    rotate_left
    · (intro ww hSw; (try dsimp only at hSw); obtain ⟨y0, y1, y2, y3, y4, y5⟩ := row6 (HS.out.below hSw).tb; go_simp; try with_reducible rfl)
    refine wpAnyH_ready (rs := [1]) (by kernel_rfl) (by simp) ?_
    refine AllReadyH.cons (o := ⟨some 20, _, _, _, _, _⟩) rfl (fun K hK => ?_) AllReadyH.nil
    go_simp
    refine (HC1.out _ (HS.out.below hHeld)).mono ?_
    rintro e Ua1u1 ⟨rfl, hb⟩
    (try go_wp2_with fail)
    refine hK.out _ _ (hHeld.trans (hb.mono hHeld.size)) (fun hHeld2 => ?_)
    clear hK K hHeld
    have hHeld := hHeld2
    clear hHeld2
    (try simp only [Act.put, List.setIfInBounds_toArray, List.set_cons_zero, List.set_cons_succ])
    clear hb
    refine wpAnyH_ready (rs := [3]) (by kernel_rfl) (by simp) ?_
    refine AllReadyH.cons (o := ⟨some 22, _, _, _, _, _⟩) rfl (fun K hK => ?_) AllReadyH.nil
    go_simp
    refine (HC3.out _ (HS.out.below hHeld)).mono ?_
    rintro e Ua1u2 ⟨a1, c1, rfl, hb⟩
    (try go_wp2_with fail)
    refine hK.out _ _ (hHeld.trans (hb.mono hHeld.size)) (fun hHeld2 => ?_)
    clear hK K hHeld
    have hHeld := hHeld2
    clear hHeld2
    (try simp only [Act.put, List.setIfInBounds_toArray, List.set_cons_zero, List.set_cons_succ])
    clear hb
    refine tkW 4 (some 23) (v := ?_) ?_ hHeld ?_
    rotate_left
    · (intro ww hSw; (try dsimp only at hSw); go_simp; try with_reducible rfl)
    refine tkW 5 (some 24) (v := ?_) ?_ hHeld ?_
    rotate_left
    · (intro ww hSw; (try dsimp only at hSw); go_simp; try with_reducible rfl)
    refine tkW 6 (some 25) (v := ?_) ?_ hHeld ?_
    rotate_left
    · (intro ww _; go_simp; try with_reducible rfl)
    refine tkW 7 (some 26) (v := ?_) ?_ hHeld ?_
    rotate_left
    · (intro ww hSw; (try dsimp only at hSw); obtain ⟨y0, y1, y2, y3, y4, y5⟩ := row6 (HS.out.below hSw).ow; go_simp; try with_reducible rfl)
    refine tkW 9 (some 28) (v := ?_) ?_ hHeld ?_
    rotate_left
    · (intro ww hSw; (try dsimp only at hSw); obtain ⟨y0, y1, y2, y3, y4, y5⟩ := row6 (HS.out.below hSw).tb; go_simp; try with_reducible rfl)
    refine wpAnyH_ready (rs := [8]) (by kernel_rfl) (by simp) ?_
    refine AllReadyH.cons (o := ⟨some 27, _, _, _, _, _⟩) rfl (fun K hK => ?_) AllReadyH.nil
    go_simp
    refine (HC8.out _ (HS.out.below hHeld)).mono ?_
    rintro e Ua1u3 ⟨rfl, hb⟩
    (try go_wp2_with fail)
    refine hK.out _ _ (hHeld.trans (hb.mono hHeld.size)) (fun hHeld2 => ?_)
    clear hK K hHeld
    have hHeld := hHeld2
    clear hHeld2
    (try simp only [Act.put, List.setIfInBounds_toArray, List.set_cons_zero, List.set_cons_succ])
    clear hb
    refine wpAnyH_ready (rs := [10]) (by kernel_rfl) (by simp) ?_
    refine AllReadyH.cons (o := ⟨some 29, _, _, _, _, _⟩) rfl (fun K hK => ?_) AllReadyH.nil
    go_simp
    refine (HC10.out _ (HS.out.below hHeld)).mono ?_
    rintro e Ua1u4 ⟨rfl, hb⟩
    (try go_wp2_with fail)
    refine hK.out _ _ (hHeld.trans (hb.mono hHeld.size)) (fun hHeld2 => ?_)
    clear hK K hHeld
    have hHeld := hHeld2
    clear hHeld2
    (try simp only [Act.put, List.setIfInBounds_toArray, List.set_cons_zero, List.set_cons_succ])
    clear hb
    refine tkW 11 (some 30) (v := ?_) ?_ hHeld ?_
    rotate_left
    · (intro ww hSw; (try dsimp only at hSw); go_simp; try with_reducible rfl)
    refine tkW 12 (some 31) (v := ?_) ?_ hHeld ?_
    rotate_left
    · (intro ww _; go_simp; try with_reducible rfl)
    refine tkW 13 (some 32) (v := ?_) ?_ hHeld ?_
    rotate_left
    · (intro ww _; go_simp; try with_reducible rfl)
    refine tkW 14 (some 33) (v := ?_) ?_ hHeld ?_
    rotate_left
    · (intro ww hSw; (try dsimp only at hSw); obtain ⟨y0, y1, y2, y3, y4, y5⟩ := row6 (HS.out.below hSw).ow; go_simp; try with_reducible rfl)
    refine tkW 16 (some 35) (v := ?_) ?_ hHeld ?_
    rotate_left
    · (intro ww hSw; (try dsimp only at hSw); obtain ⟨y0, y1, y2, y3, y4, y5⟩ := row6 (HS.out.below hSw).tb; go_simp; try with_reducible rfl)
    refine wpAnyH_ready (rs := [15]) (by kernel_rfl) (by simp) ?_
    refine AllReadyH.cons (o := ⟨some 34, _, _, _, _, _⟩) rfl (fun K hK => ?_) AllReadyH.nil
    go_simp
    refine (keys_any _ t _ _ (VIs.of (HS.out.below hHeld).fo) hsz).mono ?_
    rintro e Ua1u5 ⟨v1, rfl, h1, hb⟩
    obtain ⟨a1, c1, e1⟩ := OwnE.form h1
    subst e1
    have HK1 := hide9 (OwnE.low h1 (Nat.zero_le _))
    rw [← HDK.out] at HK1 ⊢
    clear h1
    (try go_wp2_with fail)
    refine hK.out _ _ (hHeld.trans (hb.mono hHeld.size)) (fun hHeld2 => ?_)
    clear hK K hHeld
    have hHeld := hHeld2
    clear hHeld2
    (try simp only [Act.put, List.setIfInBounds_toArray, List.set_cons_zero, List.set_cons_succ])
    clear hb
    refine wpAnyH_ready (rs := [17]) (by kernel_rfl) (by simp) ?_
    refine AllReadyH.cons (o := ⟨some 36, _, _, _, _, _⟩) rfl (fun K hK => ?_) AllReadyH.nil
    go_simp
    refine (refKeys_any _ t _ _ (VIs.of (HS.out.below hHeld).ft) hsz).mono ?_
    rintro e Ua1u6 ⟨v2, rfl, h1, hb⟩
    obtain ⟨a2, c2, e2⟩ := OwnE.form h1
    subst e2
    have HK2 := hide9 (OwnE.low h1 (Nat.zero_le _))
    rw [← HDK.out] at HK2 ⊢
    replace HK1 := hide9 (OwnE.below HK1.out hb)
    clear h1
    (try go_wp2_with fail)
    refine hK.out _ _ (hHeld.trans (hb.mono hHeld.size)) (fun hHeld2 => ?_)
    clear hK K hHeld
    have hHeld := hHeld2
    clear hHeld2
    (try simp only [Act.put, List.setIfInBounds_toArray, List.set_cons_zero, List.set_cons_succ])
    clear hb
    refine wpAnyH_ready (rs := [18]) (by kernel_rfl) (by simp) ?_
    refine AllReadyH.cons (o := ⟨some 37, _, _, _, _, _⟩) rfl (fun K hK => ?_) AllReadyH.nil
    go_simp
    refine (sameSt_any 0 0 _ _ DK DK _ HK1.out HK2.out hDl).mono ?_
    rintro e Ua1u7 ⟨rfl, hb⟩
    rw [decide_eq_true rfl]
    (try go_wp2_with fail)
    refine hK.out _ _ (hHeld.trans (hb.mono hHeld.size)) (fun hHeld2 => ?_)
    clear hK K hHeld
    have hHeld := hHeld2
    clear hHeld2
    (try simp only [Act.put, List.setIfInBounds_toArray, List.set_cons_zero, List.set_cons_succ])
    clear HK1 HK2
    clear hb
    refine tkW 19 (some 38) (v := ?_) ?_ hHeld ?_
    rotate_left
    · (intro ww _; go_simp; try with_reducible rfl)
    refine tkW 20 (some 39) (v := ?_) ?_ hHeld ?_
    rotate_left
    · (intro ww _; go_simp; try with_reducible rfl)
    refine wpAnyH_done (by kernel_rfl) ?_ _
    obtain ⟨U, eU⟩ : ∃ X, X = Ua1u7 := ⟨_, rfl⟩
    rw [← eU] at hHeld ⊢
    clear eU
    have HS2 : Hid (AsS w N1 ob t key aa ca ak ck ya cy yk dy U) := HS.out.below hHeld
    clear hHeld HS
    have HS := HS2
    clear HS2 q1 q2
    obtain ⟨y0, y1, y2, y3, y4, y5⟩ := row6 HS.out.ow
    have k0 : U.cell? ⟨w.heap.size + 1, 0, none⟩ = some (.int .i64 key.1) := (by rw [cell_of_row _ _ _ _ _ _ HS.out.kb]; rfl)
    have k1 : U.cell? ⟨w.heap.size + 1, 1, none⟩ = some (.int .i64 key.2) := (by rw [cell_of_row _ _ _ _ _ _ HS.out.kb]; rfl)
    go_wp2_with fail
    clear y0 y1 y2 y3 y4 y5 k0 k1
    refine (find_any _ t key _ _ (VIs.of HS.out.fo) hsz).mono ?_
    rintro e V1 ⟨x, av, kv9, F, rfl, hx, hsp, hF, hb⟩
    obtain ⟨sa, sc, sk, dk, ea, ek⟩ := SepF.form _ hsp
    subst ea ek
    have HNF : Hid (∀ k, F k → N1 ≤ k) := fun k q => (by have := HS.out.lt.2.2; have := (hF k q).1; omega)
    have HSq : Hid (Sq x F (.slice sa x.at_.length sc) (.slice sk x.ks.length dk) V1) := ⟨hsp, fun k q => (hF k q).2⟩
    have Hx := hide9 hx
    replace HS : Hid (AsS w N1 ob t key aa ca ak ck ya cy yk dy V1) := HS.out.below hb
    obtain ⟨fb, efb⟩ : ∃ b, b = (fndT t key).isSome := ⟨_, rfl⟩
    rw [← efb]
    have Hfb := hide9 efb
    clear hsp hF hb hx efb
    obtain ⟨V2, eV⟩ : ∃ X, X = (V1.alloc (.cells #[.int .i64 0, .int .i64 0, .string ⟨#[]⟩, .string ⟨#[]⟩, .slice none 0 0, .slice none 0 0] 27)).setRow V1.heap.size #[.int .i64 x.k.1, .int .i64 x.k.2, .string x.tg, .string x.tx, .slice sa x.at_.length sc, .slice sk x.ks.length dk] := ⟨_, rfl⟩
    have Hz : Hid ((V1.alloc (.cells #[.int .i64 0, .int .i64 0, .string ⟨#[]⟩, .string ⟨#[]⟩, .slice none 0 0, .slice none 0 0] 27)).heap[V1.heap.size]? = some (.cells #[.int .i64 0, .int .i64 0, .string ⟨#[]⟩, .string ⟨#[]⟩, .slice none 0 0, .slice none 0 0] 27)) := heap_alloc_new _ _
    have hb : Below V1.heap.size V1 V2 := (by rw [eV]; exact ((Below.refl _ _).alloc (Nat.le_refl _) _).grown (grown_setRow _ _ _) (by simp) (fun k e => by cases e; exact Nat.le_refl _))
    obtain ⟨nb, enb⟩ : ∃ n, n = V1.heap.size := ⟨_, rfl⟩
    have HN : Hid (V2.heap[nb]? = some (.cells #[.int .i64 x.k.1, .int .i64 x.k.2, .string x.tg, .string x.tx, .slice sa x.at_.length sc, .slice sk x.ks.length dk] 27)) := (by rw [eV, enb]; exact setRow_same Hz.out)
    have HNn : Hid (∀ k, F k → k ≠ nb) := fun k q e => (by have h1 := HSq.out.2 k q; omega)
    replace HSq := hide9 (HSq.out.below hb)
    replace HS : Hid (AsS w N1 ob t key aa ca ak ck ya cy yk dy V2) := HS.out.below hb
    have HEv := hide9 eV
    have Hnb := hide9 enb
    clear eV hb enb
    go_upto_region 7 with (refine wpList_store_row rfl 27 (.tmp 6) (.tmp 44) rfl V1.heap.size 27 #[.int .i64 0, .int .i64 0, .string ⟨#[]⟩, .string ⟨#[]⟩, .slice none 0 0, .slice none 0 0] #[.int .i64 x.k.1, .int .i64 x.k.2, .string x.tg, .string x.tx, .slice sa x.at_.length sc, .slice sk x.ks.length dk] rfl rfl Hz.out sizeVA rfl (by simp [Value.oneCell']) ?_)
    rw [← HEv.out, ← Hnb.out]
    clear HEv Hz Hnb
    obtain ⟨y0, y1, y2, y3, y4, y5⟩ := row6 HS.out.tb
    have k0 : V2.cell? ⟨w.heap.size + 1, 0, none⟩ = some (.int .i64 key.1) := (by rw [cell_of_row _ _ _ _ _ _ HS.out.kb]; rfl)
    have k1 : V2.cell? ⟨w.heap.size + 1, 1, none⟩ = some (.int .i64 key.2) := (by rw [cell_of_row _ _ _ _ _ _ HS.out.kb]; rfl)
    go_wp2_with fail
    clear y0 y1 y2 y3 y4 y5 k0 k1
    refine (refFind_any _ t key _ _ (VIs.of HS.out.ft) hsz).mono ?_
    rintro e V3 ⟨x2, av2, kv2, rfl, hx2, hfw, hb⟩
    rw [Hx.out] at hx2
    have hx3 : x2 = x := hx2.symm
    subst hx3
    obtain ⟨ra, rc, e1⟩ := hfw.at_.form
    obtain ⟨rk, sk2, e2⟩ := hfw.ks.form
    subst e1 e2
    rw [← Hfb.out]
    have HFw := hide9 hfw
    replace HS : Hid (AsS w N1 ob t key aa ca ak ck ya cy yk dy V3) := HS.out.below hb
    replace HSq := hide9 (HSq.out.below hb)
    replace HN : Hid (V3.heap[nb]? = some (.cells #[.int .i64 x2.k.1, .int .i64 x2.k.2, .string x2.tg, .string x2.tx, .slice sa x2.at_.length sc, .slice sk x2.ks.length dk] 27)) := (hb.block _ (row_lt HN.out)).trans HN.out
    have HV23 : Hid (V2.heap.size ≤ V3.heap.size) := hb.size
    clear hfw hb hx2
    obtain ⟨V4, eV⟩ : ∃ X, X = (V3.alloc (.cells #[.int .i64 0, .int .i64 0, .string ⟨#[]⟩, .string ⟨#[]⟩, .slice none 0 0, .slice none 0 0] 27)).setRow V3.heap.size #[.int .i64 x2.k.1, .int .i64 x2.k.2, .string x2.tg, .string x2.tx, .slice ra x2.at_.length rc, .slice rk x2.ks.length sk2] := ⟨_, rfl⟩
    have Hz : Hid ((V3.alloc (.cells #[.int .i64 0, .int .i64 0, .string ⟨#[]⟩, .string ⟨#[]⟩, .slice none 0 0, .slice none 0 0] 27)).heap[V3.heap.size]? = some (.cells #[.int .i64 0, .int .i64 0, .string ⟨#[]⟩, .string ⟨#[]⟩, .slice none 0 0, .slice none 0 0] 27)) := heap_alloc_new _ _
    have hb : Below V3.heap.size V3 V4 := (by rw [eV]; exact ((Below.refl _ _).alloc (Nat.le_refl _) _).grown (grown_setRow _ _ _) (by simp) (fun k e => by cases e; exact Nat.le_refl _))
    obtain ⟨wb, enb⟩ : ∃ n, n = V3.heap.size := ⟨_, rfl⟩
    have HW : Hid (V4.heap[wb]? = some (.cells #[.int .i64 x2.k.1, .int .i64 x2.k.2, .string x2.tg, .string x2.tx, .slice ra x2.at_.length rc, .slice rk x2.ks.length sk2] 27)) := (by rw [eV, enb]; exact setRow_same Hz.out)
    replace HSq := hide9 (HSq.out.below hb)
    replace HFw := hide9 (HFw.out.below hb)
    replace HS : Hid (AsS w N1 ob t key aa ca ak ck ya cy yk dy V4) := HS.out.below hb
    replace HN : Hid (V4.heap[nb]? = some (.cells #[.int .i64 x2.k.1, .int .i64 x2.k.2, .string x2.tg, .string x2.tx, .slice sa x2.at_.length sc, .slice sk x2.ks.length dk] 27)) := (hb.block _ (row_lt HN.out)).trans HN.out
    have HEv := hide9 eV
    have Hnb := hide9 enb
    clear eV hb enb
    go_upto_region 8 with (refine wpList_store_row rfl 27 (.tmp 8) (.tmp 50) rfl V3.heap.size 27 #[.int .i64 0, .int .i64 0, .string ⟨#[]⟩, .string ⟨#[]⟩, .slice none 0 0, .slice none 0 0] #[.int .i64 x2.k.1, .int .i64 x2.k.2, .string x2.tg, .string x2.tx, .slice ra x2.at_.length rc, .slice rk x2.ks.length sk2] rfl rfl Hz.out sizeVA rfl (by simp [Value.oneCell']) ?_)
    rw [← HEv.out, ← Hnb.out]
    clear HEv Hz Hnb
    obtain ⟨y0, y1, y2, y3, y4, y5⟩ := row6 HS.out.ow
    have k0 : V4.cell? ⟨w.heap.size + 1, 0, none⟩ = some (.int .i64 key.1) := (by rw [cell_of_row _ _ _ _ _ _ HS.out.kb]; rfl)
    have k1 : V4.cell? ⟨w.heap.size + 1, 1, none⟩ = some (.int .i64 key.2) := (by rw [cell_of_row _ _ _ _ _ _ HS.out.kb]; rfl)
    go_wp2_with fail
    clear y0 y1 y2 y3 y4 y5 k0 k1
    refine (parent_any _ t key _ _ (VIs.of HS.out.fo) hsz).mono ?_
    rintro e V5 ⟨rfl, hb⟩
    obtain ⟨pr, epr⟩ : ∃ p, p = parR [] (flatD t 0) key := ⟨_, rfl⟩
    have Hpr := hide9 epr
    rw [← epr]
    clear epr
    replace HS : Hid (AsS w N1 ob t key aa ca ak ck ya cy yk dy V5) := HS.out.below hb
    replace HSq := hide9 (HSq.out.below hb)
    replace HFw := hide9 (HFw.out.below hb)
    replace HN : Hid (V5.heap[nb]? = some (.cells #[.int .i64 x2.k.1, .int .i64 x2.k.2, .string x2.tg, .string x2.tx, .slice sa x2.at_.length sc, .slice sk x2.ks.length dk] 27)) := (hb.block _ (row_lt HN.out)).trans HN.out
    replace HW : Hid (V5.heap[wb]? = some (.cells #[.int .i64 x2.k.1, .int .i64 x2.k.2, .string x2.tg, .string x2.tx, .slice ra x2.at_.length rc, .slice rk x2.ks.length sk2] 27)) := (hb.block _ (row_lt HW.out)).trans HW.out
    clear hb
    obtain ⟨V6, eV⟩ : ∃ X, X = (V5.alloc (.cells #[.int .i64 0, .int .i64 0] 23)).setRow V5.heap.size #[.int .i64 pr.1.1, .int .i64 pr.1.2] := ⟨_, rfl⟩
    have Hz : Hid ((V5.alloc (.cells #[.int .i64 0, .int .i64 0] 23)).heap[V5.heap.size]? = some (.cells #[.int .i64 0, .int .i64 0] 23)) := heap_alloc_new _ _
    have hb : Below V5.heap.size V5 V6 := (by rw [eV]; exact ((Below.refl _ _).alloc (Nat.le_refl _) _).grown (grown_setRow _ _ _) (by simp) (fun k e => by cases e; exact Nat.le_refl _))
    obtain ⟨pb, enb⟩ : ∃ n, n = V5.heap.size := ⟨_, rfl⟩
    have HPpb : Hid (V6.heap[pb]? = some (.cells #[.int .i64 pr.1.1, .int .i64 pr.1.2] 23)) := (by rw [eV, enb]; exact setRow_same Hz.out)
    replace HS : Hid (AsS w N1 ob t key aa ca ak ck ya cy yk dy V6) := HS.out.below hb
    replace HSq := hide9 (HSq.out.below hb)
    replace HFw := hide9 (HFw.out.below hb)
    replace HN : Hid (V6.heap[nb]? = some (.cells #[.int .i64 x2.k.1, .int .i64 x2.k.2, .string x2.tg, .string x2.tx, .slice sa x2.at_.length sc, .slice sk x2.ks.length dk] 27)) := (hb.block _ (row_lt HN.out)).trans HN.out
    replace HW : Hid (V6.heap[wb]? = some (.cells #[.int .i64 x2.k.1, .int .i64 x2.k.2, .string x2.tg, .string x2.tx, .slice ra x2.at_.length rc, .slice rk x2.ks.length sk2] 27)) := (hb.block _ (row_lt HW.out)).trans HW.out
    have HEv := hide9 eV
    have Hnb := hide9 enb
    clear eV hb enb
    go_upto_region 9 with (refine wpList_store_row rfl 23 (.tmp 10) (.tmp 56) rfl V5.heap.size 23 #[.int .i64 0, .int .i64 0] #[.int .i64 pr.1.1, .int .i64 pr.1.2] rfl rfl Hz.out sizeSA rfl (by simp [Value.oneCell']) ?_)
    rw [← HEv.out, ← Hnb.out]
    clear HEv Hz Hnb
    obtain ⟨y0, y1, y2, y3, y4, y5⟩ := row6 HS.out.tb
    have k0 : V6.cell? ⟨w.heap.size + 1, 0, none⟩ = some (.int .i64 key.1) := (by rw [cell_of_row _ _ _ _ _ _ HS.out.kb]; rfl)
    have k1 : V6.cell? ⟨w.heap.size + 1, 1, none⟩ = some (.int .i64 key.2) := (by rw [cell_of_row _ _ _ _ _ _ HS.out.kb]; rfl)
    go_wp2_with fail
    clear y0 y1 y2 y3 y4 y5 k0 k1
    refine (refParent_any _ t key _ _ (VIs.of HS.out.ft) hsz).mono ?_
    rintro e V7 ⟨rfl, hb⟩
    rw [← Hpr.out]
    replace HS : Hid (AsS w N1 ob t key aa ca ak ck ya cy yk dy V7) := HS.out.below hb
    replace HSq := hide9 (HSq.out.below hb)
    replace HFw := hide9 (HFw.out.below hb)
    replace HN : Hid (V7.heap[nb]? = some (.cells #[.int .i64 x2.k.1, .int .i64 x2.k.2, .string x2.tg, .string x2.tx, .slice sa x2.at_.length sc, .slice sk x2.ks.length dk] 27)) := (hb.block _ (row_lt HN.out)).trans HN.out
    replace HW : Hid (V7.heap[wb]? = some (.cells #[.int .i64 x2.k.1, .int .i64 x2.k.2, .string x2.tg, .string x2.tx, .slice ra x2.at_.length rc, .slice rk x2.ks.length sk2] 27)) := (hb.block _ (row_lt HW.out)).trans HW.out
    replace HPpb : Hid (V7.heap[pb]? = some (.cells #[.int .i64 pr.1.1, .int .i64 pr.1.2] 23)) := (hb.block _ (row_lt HPpb.out)).trans HPpb.out
    clear hb
    obtain ⟨V8, eV⟩ : ∃ X, X = (V7.alloc (.cells #[.int .i64 0, .int .i64 0] 23)).setRow V7.heap.size #[.int .i64 pr.1.1, .int .i64 pr.1.2] := ⟨_, rfl⟩
    have Hz : Hid ((V7.alloc (.cells #[.int .i64 0, .int .i64 0] 23)).heap[V7.heap.size]? = some (.cells #[.int .i64 0, .int .i64 0] 23)) := heap_alloc_new _ _
    have hb : Below V7.heap.size V7 V8 := (by rw [eV]; exact ((Below.refl _ _).alloc (Nat.le_refl _) _).grown (grown_setRow _ _ _) (by simp) (fun k e => by cases e; exact Nat.le_refl _))
    obtain ⟨qb, enb⟩ : ∃ n, n = V7.heap.size := ⟨_, rfl⟩
    have HPqb : Hid (V8.heap[qb]? = some (.cells #[.int .i64 pr.1.1, .int .i64 pr.1.2] 23)) := (by rw [eV, enb]; exact setRow_same Hz.out)
    replace HS : Hid (AsS w N1 ob t key aa ca ak ck ya cy yk dy V8) := HS.out.below hb
    replace HSq := hide9 (HSq.out.below hb)
    replace HFw := hide9 (HFw.out.below hb)
    replace HN : Hid (V8.heap[nb]? = some (.cells #[.int .i64 x2.k.1, .int .i64 x2.k.2, .string x2.tg, .string x2.tx, .slice sa x2.at_.length sc, .slice sk x2.ks.length dk] 27)) := (hb.block _ (row_lt HN.out)).trans HN.out
    replace HW : Hid (V8.heap[wb]? = some (.cells #[.int .i64 x2.k.1, .int .i64 x2.k.2, .string x2.tg, .string x2.tx, .slice ra x2.at_.length rc, .slice rk x2.ks.length sk2] 27)) := (hb.block _ (row_lt HW.out)).trans HW.out
    replace HPpb : Hid (V8.heap[pb]? = some (.cells #[.int .i64 pr.1.1, .int .i64 pr.1.2] 23)) := (hb.block _ (row_lt HPpb.out)).trans HPpb.out
    have HEv := hide9 eV
    have Hnb := hide9 enb
    clear eV hb enb
    go_upto_region 10 with (refine wpList_store_row rfl 23 (.tmp 12) (.tmp 62) rfl V7.heap.size 23 #[.int .i64 0, .int .i64 0] #[.int .i64 pr.1.1, .int .i64 pr.1.2] rfl rfl Hz.out sizeSA rfl (by simp [Value.oneCell']) ?_)
    rw [← HEv.out, ← Hnb.out]
    clear HEv Hz Hnb
    obtain ⟨y0, y1, y2, y3, y4, y5⟩ := row6 HN.out
    obtain ⟨z0, z1, z2, z3, z4, z5⟩ := row6 HW.out
    go_wp2_with fail
    clear y0 y1 y2 y3 y4 y5 z0 z1 z2 z3 z4 z5
    refine (refSame_any _ _ x2 x2 _ _ _ (VIs.of (HSq.out.1.vis _)) (VIs.of HFw.out)).mono ?_
    rintro e V9 ⟨rfl, hb⟩
    rw [eqV_self]
    replace HS : Hid (AsS w N1 ob t key aa ca ak ck ya cy yk dy V9) := HS.out.below hb
    replace HSq := hide9 (HSq.out.below hb)
    replace HFw := hide9 (HFw.out.below hb)
    replace HN : Hid (V9.heap[nb]? = some (.cells #[.int .i64 x2.k.1, .int .i64 x2.k.2, .string x2.tg, .string x2.tx, .slice sa x2.at_.length sc, .slice sk x2.ks.length dk] 27)) := (hb.block _ (row_lt HN.out)).trans HN.out
    replace HW : Hid (V9.heap[wb]? = some (.cells #[.int .i64 x2.k.1, .int .i64 x2.k.2, .string x2.tg, .string x2.tx, .slice ra x2.at_.length rc, .slice rk x2.ks.length sk2] 27)) := (hb.block _ (row_lt HW.out)).trans HW.out
    replace HPpb : Hid (V9.heap[pb]? = some (.cells #[.int .i64 pr.1.1, .int .i64 pr.1.2] 23)) := (hb.block _ (row_lt HPpb.out)).trans HPpb.out
    replace HPqb : Hid (V9.heap[qb]? = some (.cells #[.int .i64 pr.1.1, .int .i64 pr.1.2] 23)) := (hb.block _ (row_lt HPqb.out)).trans HPqb.out
    clear hb HFw
    have q5 : (fb != fb) = false := by simp
    have q6 : (pr.2 != pr.2) = false := by simp
    have hq := neqStA pr.1.1 pr.1.2
    have p0 : V9.cell? ⟨pb, 0, none⟩ = some (.int .i64 pr.1.1) := (by rw [cell_of_row _ _ _ _ _ _ HPpb.out]; rfl)
    have p1 : V9.cell? ⟨pb, 1, none⟩ = some (.int .i64 pr.1.2) := (by rw [cell_of_row _ _ _ _ _ _ HPpb.out]; rfl)
    have p2 : V9.cell? ⟨qb, 0, none⟩ = some (.int .i64 pr.1.1) := (by rw [cell_of_row _ _ _ _ _ _ HPqb.out]; rfl)
    have p3 : V9.cell? ⟨qb, 1, none⟩ = some (.int .i64 pr.1.2) := (by rw [cell_of_row _ _ _ _ _ _ HPqb.out]; rfl)
    obtain ⟨y0, y1, y2, y3, y4, y5⟩ := row6 HN.out
    go_wp2_with fail
    clear y0 y1 y2 y3 y4 y5 p0 p1 p2 p3 q5 q6 hq
    refine (spoil_n x2.sz F x2 _ _ _ HSq.out.1 HSq.out.2).mono ?_
    rintro e Va ⟨⟨v9, rfl⟩, ht⟩
    replace HS : Hid (AsS w N1 ob t key aa ca ak ck ya cy yk dy Va) := HS.out.touch ht HNF.out
    clear ht
    obtain ⟨y0, y1, y2, y3, y4, y5⟩ := row6 HS.out.ow
    obtain ⟨z0, z1, z2, z3, z4, z5⟩ := row6 HS.out.tb
    go_wp2_with fail
    clear y0 y1 y2 y3 y4 y5 z0 z1 z2 z3 z4 z5
    refine (refSame_any _ _ t t _ _ _ (VIs.of HS.out.fo) (VIs.of HS.out.ft)).mono ?_
    rintro e Vb ⟨rfl, hb⟩
    rw [eqV_self]
    have BL := hide9 (HS.out.bel.trans (hb.mono HS.out.bel.size))
    clear hb HS
    go_wp2_with fail
    refine (awake_any _).mono ?_
    rintro e w9 ⟨rfl, hb⟩
    have B9 := hide9 (BL.out.trans (hb.mono BL.out.size))
    clear hb
    go_wp2
    go_ret
    exact ⟨rfl, B9.out⟩

theorem vtreeAsks_walk (v : Value) (t : VT) (v1 : Value) (key : St) (w : World) (h : VIs (fun _ => True) w v t) (hbn : BnA t) (hsz : t.sz ≤ 1048576) (hk : v1 = .agg #[.int .i64 key.1, .int .i64 key.2]) :
    Calls Try.prog 7 #[v, v1] w fun e w' => e = .returned (.bool true) ∧ Below w.heap.size w w' := by
  subst hk
  exact vtreeAsks_walk0 _ v t key w h hsz

end Go.Proofs.Ytnanlmmmppcipaa
