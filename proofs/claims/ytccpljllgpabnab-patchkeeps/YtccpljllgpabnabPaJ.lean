/- grow. -/
import Derived.Test.YtccpljllgpabnabPaI
import Derived.Test.YtccpljllgpabnabVtW
namespace Go.Proofs.Ytccpljllgpabnab
open Go.RowKit
set_option linter.unusedVariables false
set_option linter.unusedSimpArgs false

theorem lnk_last {X : Nat → Prop} {g : Gr} (h : Lnk X g) {b : Nat} (hb : X b) (n : Nat) : (lnk g n b (g.C b).getLast?).C b = g.C b ++ [n] := by
  refine (updF_same _ _ _).trans ?_
  rcases List.eq_nil_or_concat (g.C b) with e | ⟨l, x, e⟩
  · rw [e]; rfl
  · rw [e, List.concat_eq_append, List.getLast?_append]
    have h9 := h.nod b hb
    rw [e, List.concat_eq_append] at h9
    show insA (some x) n (l ++ x :: []) = _
    rw [insA_mid (by simpa using h9)]
    simp
/-- What stands while a node's kids grow. -/
structure GrS (B wb bm bh : Nat) (w : World) (G X : Nat → Prop) (g : Gr) (Lo : List VT) (lb : List Nat) (H : List VT) (t : VT) (n : Nat) (kv : Value) (j : Nat) (X1 : Nat → Prop) (g1 : Gr) (D1 : List (St × Nat)) (W : World) : Prop where
  m : PwM B wb bm bh none X1 g1 D1 W
  p : PwP bh X1 g1 D1 (Lo ++ [.node t.k t.tg t.tx t.at_ (t.ks.take j)]) (lb ++ [n]) H
  bel : Below B w W
  old : ∀ b, X b → X1 b ∧ b ≠ n ∧ g1.C b = g.C b
  ks : KsIs G W kv t.ks
  ll : lb.length = Lo.length
  lo : ∀ k, G k → k < B
section
variable {B wb bm bh : Nat} {w W W' W2 W3 : World} {G X : Nat → Prop} {g : Gr} {Lo : List VT} {lb : List Nat} {H : List VT} {t : VT} {n : Nat} {kv : Value} {j : Nat} {X1 : Nat → Prop} {g1 : Gr} {D1 : List (St × Nat)}
theorem KsIs.belowB (h : KsIs G W kv t.ks) (hb : Below B W W') (hG : ∀ k, G k → k < B) : KsIs G W' kv t.ks := h.turn hb.size fun k q _ => ⟨q, hb.block k (hG k q)⟩
theorem GrS.below (h : GrS B wb bm bh w G X g Lo lb H t n kv j X1 g1 D1 W) (hb : Below W.heap.size W W') : GrS B wb bm bh w G X g Lo lb H t n kv j X1 g1 D1 W' := ⟨h.m.below hb, h.p, h.bel.trans (hb.mono h.m.le), h.old, h.ks.below hb, h.ll, h.lo⟩
/-- What growing leaves. -/
def GrP (B wb bm bh : Nat) (X : Nat → Prop) (g : Gr) (Lo : List VT) (lb : List Nat) (H : List VT) (t : VT) (w : World) (e : Ending) (W : World) : Prop := ∃ n X1 g1 D1, e = .returned (.pointer (some ⟨n, 0, none⟩)) ∧ PwM B wb bm bh none X1 g1 D1 W ∧ PwP bh X1 g1 D1 (Lo ++ [t]) (lb ++ [n]) H ∧ (∀ b, X b → X1 b ∧ b ≠ n ∧ g1.C b = g.C b) ∧ Below B w W
theorem GrS.kid (h : GrS B wb bm bh w G X g Lo lb H t n kv j X1 g1 D1 W) (hj : j < t.ks.length) {n2 : Nat} {X2 : Nat → Prop} {g2 : Gr} {D2 : List (St × Nat)} (hp : PwP bh X2 g2 D2 ((Lo ++ [.node t.k t.tg t.tx t.at_ (t.ks.take j)]) ++ [t.ks[j]]) ((lb ++ [n]) ++ [n2]) H) (hold : ∀ b, X1 b → X2 b ∧ b ≠ n2 ∧ g2.C b = g1.C b) (hb : Below B W W2) (hm : PwM B wb bm bh none X2 (lnk g2 n2 n (g1.C n).getLast?) D2 W3) (hb3 : Below B W2 W3) :
    GrS B wb bm bh w G X g Lo lb H t n kv (j + 1) X2 (lnk g2 n2 n (g1.C n).getLast?) D2 W3 ∧ some n2 = ((lnk g2 n2 n (g1.C n).getLast?).C n).getLast? := by
  have hn1 : X1 n := (h.p.lx n (by simp)).1
  have hn2 := hold n hn1
  have e : g1.C n = g2.C n := hn2.2.2.symm
  rw [e] at hm ⊢
  have hp2 : PwP bh X2 g2 D2 (Lo ++ [.node t.k t.tg t.tx t.at_ (t.ks.take j), t.ks[j]]) (lb ++ [n, n2]) H := by simpa using hp
  have h1 := hp2.join h.ll
  have e2 : t.ks.take j ++ [t.ks[j]] = t.ks.take (j + 1) := (List.take_succ_eq_append_getElem hj).symm
  refine ⟨⟨hm, ?_, h.bel.trans (hb.trans hb3), fun b hX => ?_, (h.ks.belowB hb h.lo).belowB hb3 h.lo, h.ll, h.lo⟩, ?_⟩
  · rw [← e2]
    exact h1
  · obtain ⟨o1, o2, o3⟩ := h.old b hX
    obtain ⟨q1, q2, q3⟩ := hold b o1
    exact ⟨q1, o2, (updF_ne _ _ o2).trans (q3.trans o3)⟩
  · rw [lnk_last hp2.lk hn2.1]
    simp
end

theorem PwM.touchN {B wb bm bh : Nat} {tp : Option Nat} {X : Nat → Prop} {g : Gr} {D : List (St × Nat)} {W W' : World} (h : PwM B wb bm bh tp X g D W) (ht : Touch X W W') : Below B W W' := h.touch ht
theorem keysL_take {l : List VT} {j : Nat} {k : St} (h : k ∈ keysL (l.take j)) : k ∈ keysL l := by
  rw [← List.take_append_drop j l, keysL_append]
  exact List.mem_append_left _ h
theorem grow_keys {t : VT} {Lo H : List VT} {j : Nat} (hn : (keysV t).Nodup) (hk : ∀ k ∈ keysV t, k ∉ keysL Lo ∧ k ∉ keysL H) (hj : j < t.ks.length) : (keysV t.ks[j]).Nodup ∧ ∀ k ∈ keysV t.ks[j], k ∉ keysL (Lo ++ [.node t.k t.tg t.tx t.at_ (t.ks.take j)]) ∧ k ∉ keysL H := by
  rw [keysV_eq, List.nodup_cons] at hn
  have e : t.ks = t.ks.take j ++ (t.ks[j] :: t.ks.drop (j + 1)) := by rw [← List.drop_eq_getElem_cons hj, List.take_append_drop]
  have hn2 : (keysL (t.ks.take j) ++ (keysV t.ks[j] ++ keysL (t.ks.drop (j + 1)))).Nodup := by
    have h9 := hn.2
    rw [e, keysL_append, keysL] at h9
    exact h9
  have hm : ∀ k ∈ keysV t.ks[j], k ∈ keysL t.ks := fun k hkk => keysL_mem (List.getElem_mem hj) k hkk
  refine ⟨(List.nodup_append.1 (List.nodup_append.1 hn2).2.1).1, fun k hkk => ⟨fun h => ?_, (hk k (by rw [keysV_eq]; exact List.mem_cons_of_mem _ (hm k hkk))).2⟩⟩
  rw [keysL_append, List.mem_append] at h
  rcases h with h | h
  · exact (hk k (by rw [keysV_eq]; exact List.mem_cons_of_mem _ (hm k hkk))).1 h
  · simp only [keysL, keysV, List.append_nil, List.mem_cons] at h
    rcases h with rfl | h
    · exact hn.1 (hm _ hkk)
    · exact nodup_apart hn2 h (List.mem_append_left _ hkk)

set_option maxRecDepth 100000 in
set_option maxHeartbeats 4000000 in
theorem grow_n (B wb bm bh : Nat) (m : Nat) : ∀ (G : Nat → Prop) {X : Nat → Prop} {g : Gr} {D : List (St × Nat)} {Lo : List VT} {lb : List Nat} {H : List VT} (t : VT) (v : Value) (w : World), t.sz ≤ m → VIs G w v t → PwM B wb bm bh none X g D w → PwP bh X g D Lo lb H → lb.length = Lo.length → ((keysV t).Nodup ∧ ∀ k ∈ keysV t, k ∉ keysL Lo ∧ k ∉ keysL H) → (∀ k, G k → k < B) →
    Calls Try.prog 29 #[.pointer (some ⟨wb, 0, none⟩), v] w fun e w' => GrP B wb bm bh X g Lo lb H t w e w' := by
  induction m with
  | zero => intro _ _ _ _ _ _ _ t _ _ h; have := t.sz_pos; omega
  | succ m ih =>
    intro G X g D Lo lb H t v w hm hv h hp hll hky hG
    obtain ⟨aa, ca, ak, ck, e1, fd0⟩ := hv.form
    subst e1
    have HPp := hide9 hp
    have HG := hide9 hG
    have HKy := hide9 hky
    have Hll := hide9 hll
    have hbx : Below w.heap.size w (w.alloc (.cells #[.int .i64 t.k.1, .int .i64 t.k.2, .string t.tg, .string t.tx, .slice aa t.at_.length ca, .slice ak t.ks.length ck] 27)) := (Below.refl _ _).alloc (Nat.le_refl _) _
    have HB : Hid (Below B w (w.alloc (.cells #[.int .i64 t.k.1, .int .i64 t.k.2, .string t.tg, .string t.tx, .slice aa t.at_.length ca, .slice ak t.ks.length ck] 27))) := hbx.mono h.le
    have HP : Hid (PwM B wb bm bh none X g D (w.alloc (.cells #[.int .i64 t.k.1, .int .i64 t.k.2, .string t.tg, .string t.tx, .slice aa t.at_.length ca, .slice ak t.ks.length ck] 27))) := h.below hbx
    have HT : Hid ((w.alloc (.cells #[.int .i64 t.k.1, .int .i64 t.k.2, .string t.tg, .string t.tx, .slice aa t.at_.length ca, .slice ak t.ks.length ck] 27)).heap[w.heap.size]? = some (.cells #[.int .i64 t.k.1, .int .i64 t.k.2, .string t.tg, .string t.tx, .slice aa t.at_.length ca, .slice ak t.ks.length ck] 27)) := heap_alloc_new _ _
    have HF : Hid (FdIs G (w.alloc (.cells #[.int .i64 t.k.1, .int .i64 t.k.2, .string t.tg, .string t.tx, .slice aa t.at_.length ca, .slice ak t.ks.length ck] 27)) (.slice aa t.at_.length ca) (.slice ak t.ks.length ck) t.at_ t.ks) := fd0.below hbx
    have hlk := fd0.ks.len
    clear hbx h hv fd0 hp hG hky hll
    go_enter Try.func29, Try.ntmps29
    go_wp2
    obtain ⟨W0, eW0⟩ : ∃ X, X = (w.alloc (.cells #[.int .i64 t.k.1, .int .i64 t.k.2, .string t.tg, .string t.tx, .slice aa t.at_.length ca, .slice ak t.ks.length ck] 27)) := ⟨_, rfl⟩
    rw [← eW0] at HB HP HT HF ⊢
    obtain ⟨tb, etb⟩ : ∃ b, b = w.heap.size := ⟨_, rfl⟩
    rw [← etb] at HT ⊢
    clear eW0 etb
    refine wp_region_held_drew (S := fun W' => W'.heap[tb]? = some (.cells #[.int .i64 t.k.1, .int .i64 t.k.2, .string t.tg, .string t.tx, .slice aa t.at_.length ca, .slice ak t.ks.length ck] 27)) (by kernel_rfl) HT.out (fun hHeld => ?_)
    obtain ⟨Ug11u0, eW⟩ : ∃ X, X = W0.drew := ⟨_, rfl⟩
    have hb : Below W0.heap.size W0 Ug11u0 := by rw [eW]; exact (Below.refl _ _).drew
    replace HB : Hid (Below B w Ug11u0) := HB.out.trans (hb.mono HP.out.le)
    replace HP : Hid (PwM B wb bm bh none X g D Ug11u0) := HP.out.below hb
    replace HT : Hid (Ug11u0.heap[tb]? = some (.cells #[.int .i64 t.k.1, .int .i64 t.k.2, .string t.tg, .string t.tx, .slice aa t.at_.length ca, .slice ak t.ks.length ck] 27)) := (hb.block _ (row_lt HT.out)).trans HT.out
    replace HF : Hid (FdIs G Ug11u0 (.slice aa t.at_.length ca) (.slice ak t.ks.length ck) t.at_ t.ks) := HF.out.below hb
    rw [← eW] at hHeld ⊢
    clear eW hb
    refine tkW 0 (some 10) (v := ?_) ?_ hHeld ?_
    rotate_left
    · (intro ww _; go_simp; try with_reducible rfl)
    refine tkW 1 (some 11) (v := ?_) ?_ hHeld ?_
    rotate_left
    · (intro ww hSw; (try dsimp only at hSw); have hT := hSw; obtain ⟨r0, r1, r2, r3, r4, r5⟩ := row6 hT; go_simp; try with_reducible rfl)
    refine tkW 2 (some 12) (v := ?_) ?_ hHeld ?_
    rotate_left
    · (intro ww _; go_simp; try with_reducible rfl)
    refine tkW 3 (some 13) (v := ?_) ?_ hHeld ?_
    rotate_left
    · (intro ww hSw; (try dsimp only at hSw); have hT := hSw; obtain ⟨r0, r1, r2, r3, r4, r5⟩ := row6 hT; go_simp; try with_reducible rfl)
    refine tkW 4 (some 14) (v := ?_) ?_ hHeld ?_
    rotate_left
    · (intro ww _; go_simp; try with_reducible rfl)
    refine tkW 5 (some 15) (v := ?_) ?_ hHeld ?_
    rotate_left
    · (intro ww hSw; (try dsimp only at hSw); have hT := hSw; obtain ⟨r0, r1, r2, r3, r4, r5⟩ := row6 hT; go_simp; try with_reducible rfl)
    refine tkW 6 (some 16) (v := ?_) ?_ hHeld ?_
    rotate_left
    · (intro ww _; go_simp; try with_reducible rfl)
    refine tkW 7 (some 17) (v := ?_) ?_ hHeld ?_
    rotate_left
    · (intro ww hSw; (try dsimp only at hSw); have hT := hSw; obtain ⟨r0, r1, r2, r3, r4, r5⟩ := row6 hT; go_simp; try with_reducible rfl)
    refine wpAnyH_ready (rs := [8]) (by kernel_rfl) (by simp) ?_
    refine AllReadyH.cons (o := ⟨some 18, _, _, _, _, _⟩) rfl (fun K hK => ?_) AllReadyH.nil
    go_simp
    refine (cloneAts G _ t.at_ _ HF.out.at_ HF.out.al (flat_at _)).mono ?_
    rintro e Ug11u1 ⟨v1, rfl, o1, hb⟩
    obtain ⟨a1, c1, e1⟩ := OwnE.form o1
    subst e1
    have HA : Hid (OwnAt B Ug11u1 (.slice a1 t.at_.length c1) t.at_ ∧ (∀ b k, X b → (g.av b).ownBlock = some k → (Value.slice a1 t.at_.length c1).ownBlock ≠ some k) ∧ ∀ k, (Value.slice a1 t.at_.length c1).ownBlock = some k → k ≠ bm) := ⟨OwnE.low o1 HP.out.le, fun b k hX e1 e2 => by have := (OwnE.lt (HP.out.at_ b hX) k e1).2; have := (OwnE.lt o1 k e2).1; omega, fun k e1 e2 => by have := (OwnE.lt o1 k e1).1; have := HP.out.mp.lt; omega⟩
    clear o1
    (try go_wp2_with fail)
    refine hK.out _ _ ((hb.block _ (row_lt hHeld)).trans hHeld) (fun hHeld2 => ?_)
    clear hK K hHeld
    have hHeld := hHeld2
    clear hHeld2
    (try simp only [Act.put, List.setIfInBounds_toArray, List.set_cons_zero, List.set_cons_succ])
    replace HB : Hid (Below B w Ug11u1) := HB.out.trans (hb.mono HP.out.le)
    replace HP : Hid (PwM B wb bm bh none X g D Ug11u1) := HP.out.below hb
    replace HT : Hid (Ug11u1.heap[tb]? = some (.cells #[.int .i64 t.k.1, .int .i64 t.k.2, .string t.tg, .string t.tx, .slice aa t.at_.length ca, .slice ak t.ks.length ck] 27)) := (hb.block _ (row_lt HT.out)).trans HT.out
    replace HF : Hid (FdIs G Ug11u1 (.slice aa t.at_.length ca) (.slice ak t.ks.length ck) t.at_ t.ks) := HF.out.below hb
    clear hb
    refine tkW 9 (some 19) (v := ?_) ?_ hHeld ?_
    rotate_left
    · (intro ww hSw; (try dsimp only at hSw); have hT := hSw; obtain ⟨r0, r1, r2, r3, r4, r5⟩ := row6 hT; go_simp; try with_reducible rfl)
    refine tkW 10 (some 20) (v := ?_) ?_ hHeld ?_
    rotate_left
    · (intro ww hSw; (try dsimp only at hSw); have hT := hSw; obtain ⟨r0, r1, r2, r3, r4, r5⟩ := row6 hT; go_simp; try with_reducible rfl)
    refine wpAnyH_ready (rs := [11]) (by kernel_rfl) (by simp) ?_
    refine AllReadyH.cons (o := ⟨some 21, _, _, _, _, _⟩) rfl (fun K hK => ?_) AllReadyH.nil
    have HNx0 : Hid (¬ X Ug11u1.heap.size ∧ B ≤ Ug11u1.heap.size) := ⟨fun hx => absurd (HP.out.mem.lt hx) (Nat.lt_irrefl _), HP.out.le⟩
    have hbx : Below Ug11u1.heap.size Ug11u1 (Ug11u1.alloc (.cells #[.int .i64 t.k.1, .int .i64 t.k.2, .string t.tg, .string t.tx, .slice a1 t.at_.length c1, .slice none 0 0, .pointer none, .pointer none, .pointer none, .pointer none] 51)) := (Below.refl _ _).alloc (Nat.le_refl _) _
    go_simp
    refine hK.out _ _ ((hbx.block _ (row_lt hHeld)).trans hHeld) (fun hHeld2 => ?_)
    clear hK K hHeld
    have hHeld := hHeld2
    clear hHeld2
    (try simp only [Act.put, List.setIfInBounds_toArray, List.set_cons_zero, List.set_cons_succ])
    obtain ⟨Ug11u2, eW⟩ : ∃ X, X = Ug11u1.alloc (.cells #[.int .i64 t.k.1, .int .i64 t.k.2, .string t.tg, .string t.tx, .slice a1 t.at_.length c1, .slice none 0 0, .pointer none, .pointer none, .pointer none, .pointer none] 51) := ⟨_, rfl⟩
    have hb : Below Ug11u1.heap.size Ug11u1 Ug11u2 := by rw [eW]; exact (Below.refl _ _).alloc (Nat.le_refl _) _
    replace HB : Hid (Below B w Ug11u2) := HB.out.trans (hb.mono HP.out.le)
    replace HP : Hid (PwM B wb bm bh none X g D Ug11u2) := HP.out.below hb
    replace HT : Hid (Ug11u2.heap[tb]? = some (.cells #[.int .i64 t.k.1, .int .i64 t.k.2, .string t.tg, .string t.tx, .slice aa t.at_.length ca, .slice ak t.ks.length ck] 27)) := (hb.block _ (row_lt HT.out)).trans HT.out
    replace HF : Hid (FdIs G Ug11u2 (.slice aa t.at_.length ca) (.slice ak t.ks.length ck) t.at_ t.ks) := HF.out.below hb
    replace HA : Hid (OwnAt B Ug11u2 (.slice a1 t.at_.length c1) t.at_ ∧ (∀ b k, X b → (g.av b).ownBlock = some k → (Value.slice a1 t.at_.length c1).ownBlock ≠ some k) ∧ ∀ k, (Value.slice a1 t.at_.length c1).ownBlock = some k → k ≠ bm) := ⟨OwnE.below HA.out.1 hb, HA.out.2⟩
    have HN : Hid (Ug11u2.heap[Ug11u1.heap.size]? = some (.cells #[.int .i64 t.k.1, .int .i64 t.k.2, .string t.tg, .string t.tx, .slice a1 t.at_.length c1, .slice none 0 0, .pointer none, .pointer none, .pointer none, .pointer none] 51)) := by rw [eW]; exact heap_alloc_new _ _
    rw [← eW] at hHeld ⊢
    clear eW
    clear hbx
    obtain ⟨nb, enb⟩ : ∃ b, b = Ug11u1.heap.size := ⟨_, rfl⟩
    have HNx : Hid (¬ X nb ∧ B ≤ nb) := by rw [enb]; exact HNx0.out
    rw [← enb] at HN ⊢
    clear enb
    clear HNx0
    clear hb
    refine tkW 12 (some 5) (v := ?_) ?_ hHeld ?_
    rotate_left
    · (intro ww _; go_simp; try with_reducible rfl)
    refine wpAnyH_done (by kernel_rfl) ?_ _
    clear hHeld
    have HE : Hid (getP Prod.fst D t.k = none) := HPp.out.absent (HKy.out.2 t.k (by rw [keysV_eq]; exact List.mem_cons_self ..)).1 (HKy.out.2 t.k (by rw [keysV_eq]; exact List.mem_cons_self ..)).2
    go_wp2
    refine wp_region_held_drew (S := fun W' => W'.cell? ⟨wb, 0, none⟩ = some (.map (some bm)) ∧ W'.heap[tb]? = some (.cells #[.int .i64 t.k.1, .int .i64 t.k.2, .string t.tg, .string t.tx, .slice aa t.at_.length ca, .slice ak t.ks.length ck] 27)) (by kernel_rfl) ⟨HP.out.drew.c0, HT.out⟩ (fun hHeld => ?_)
    obtain ⟨Ug22u0, eW⟩ : ∃ X, X = Ug11u2.drew := ⟨_, rfl⟩
    have hb : Below Ug11u2.heap.size Ug11u2 Ug22u0 := by rw [eW]; exact (Below.refl _ _).drew
    replace HB : Hid (Below B w Ug22u0) := HB.out.trans (hb.mono HP.out.le)
    replace HP : Hid (PwM B wb bm bh none X g D Ug22u0) := HP.out.below hb
    replace HT : Hid (Ug22u0.heap[tb]? = some (.cells #[.int .i64 t.k.1, .int .i64 t.k.2, .string t.tg, .string t.tx, .slice aa t.at_.length ca, .slice ak t.ks.length ck] 27)) := (hb.block _ (row_lt HT.out)).trans HT.out
    replace HF : Hid (FdIs G Ug22u0 (.slice aa t.at_.length ca) (.slice ak t.ks.length ck) t.at_ t.ks) := HF.out.below hb
    replace HA : Hid (OwnAt B Ug22u0 (.slice a1 t.at_.length c1) t.at_ ∧ (∀ b k, X b → (g.av b).ownBlock = some k → (Value.slice a1 t.at_.length c1).ownBlock ≠ some k) ∧ ∀ k, (Value.slice a1 t.at_.length c1).ownBlock = some k → k ≠ bm) := ⟨OwnE.below HA.out.1 hb, HA.out.2⟩
    replace HN : Hid (Ug22u0.heap[nb]? = some (.cells #[.int .i64 t.k.1, .int .i64 t.k.2, .string t.tg, .string t.tx, .slice a1 t.at_.length c1, .slice none 0 0, .pointer none, .pointer none, .pointer none, .pointer none] 51)) := (hb.block _ (row_lt HN.out)).trans HN.out
    rw [← eW] at hHeld ⊢
    clear eW hb
    refine tkW 0 (some 22) (v := ?_) ?_ hHeld ?_
    rotate_left
    · (intro ww _; go_simp; try with_reducible rfl)
    refine tkW 1 (some 23) (v := ?_) ?_ hHeld ?_
    rotate_left
    · (intro ww hSw; (try dsimp only at hSw); obtain ⟨c0, hT⟩ := hSw; obtain ⟨r0, r1, r2, r3, r4, r5⟩ := row6 hT; go_simp; try with_reducible rfl)
    refine tkW 2 (some 24) (v := ?_) ?_ hHeld ?_
    rotate_left
    · (intro ww _; go_simp; try with_reducible rfl)
    refine tkW 3 (some 25) (v := ?_) ?_ hHeld ?_
    rotate_left
    · (intro ww hSw; (try dsimp only at hSw); obtain ⟨c0, hT⟩ := hSw; obtain ⟨r0, r1, r2, r3, r4, r5⟩ := row6 hT; go_simp; try with_reducible rfl)
    refine tkW 4 (some 26) (v := ?_) ?_ hHeld ?_
    rotate_left
    · (intro ww _; go_simp; try with_reducible rfl)
    refine tkW 5 (some 27) (v := ?_) ?_ hHeld ?_
    rotate_left
    · (intro ww hSw; (try dsimp only at hSw); obtain ⟨c0, hT⟩ := hSw; obtain ⟨r0, r1, r2, r3, r4, r5⟩ := row6 hT; go_simp; try with_reducible rfl)
    refine tkW 6 (some 28) (v := ?_) ?_ hHeld ?_
    rotate_left
    · (intro ww _; go_simp; try with_reducible rfl)
    refine wpAnyH_ready (rs := [7]) (by kernel_rfl) (by simp) ?_
    refine AllReadyH.cons (o := ⟨none, _, _, _, _, _⟩) rfl (fun K hK => ?_) AllReadyH.nil
    obtain ⟨Ug22u1, hst, hg, hz, hM⟩ := store_st 52 49 uNodes HP.out.mp (t.k, nb)
    have hst2 : (Instr.mapUpdate 52 (.map (some bm)) (.agg #[.int .i64 t.k.1, .int .i64 t.k.2]) (.pointer (some ⟨nb, 0, none⟩))).run Try.prog Ug22u0 = .ok () Ug22u1 := hst
    have hM2 : MapIs Prod.fst (fun e => ptr (some e.2)) Ug22u1 bm (D ++ [(t.k, nb)]) := (by rcases hM with ⟨_, h1⟩ | ⟨x, j, h1, _⟩; exact h1; dsimp only at h1; rw [HE.out] at h1; cases h1)
    have hP2 : PwM B wb bm bh none (fun b => X b ∨ b = nb) (addG g nb (⟨t.k, t.tg, t.tx, t.at_⟩ : Nf) (.slice a1 t.at_.length c1)) (D ++ [(t.k, nb)]) Ug22u1 := HP.out.addNode (f := (⟨t.k, t.tg, t.tx, t.at_⟩ : Nf)) (a := .slice a1 t.at_.length c1) (by rw [HN.out]; simp [gRow, addG, updF_same, ptr]) HNx.out.1 HNx.out.2 HA.out.1 HA.out.2.1 HA.out.2.2 hg hM2
    have hB2 : Below B Ug22u0 Ug22u1 := HP.out.mapB hg
    have hS1 : (fun W' => W'.cell? ⟨wb, 0, none⟩ = some (.map (some bm)) ∧ W'.heap[tb]? = some (.cells #[.int .i64 t.k.1, .int .i64 t.k.2, .string t.tg, .string t.tx, .slice aa t.at_.length ca, .slice ak t.ks.length ck] 27)) Ug22u1 := ⟨hP2.c0, (hg.block _ (row_lt HT.out) (fun e => HP.out.mapN HT.out (by cases e; rfl))).trans HT.out⟩
    have HT2 : Hid (Ug22u1.heap[tb]? = some (.cells #[.int .i64 t.k.1, .int .i64 t.k.2, .string t.tg, .string t.tx, .slice aa t.at_.length ca, .slice ak t.ks.length ck] 27)) := hS1.2
    have hp1 := HPp.out.add HNx.out.1 (⟨t.k, t.tg, t.tx, t.at_⟩ : Nf) (.slice a1 t.at_.length c1) (HKy.out.2 t.k (by rw [keysV_eq]; exact List.mem_cons_self ..)).1 (HKy.out.2 t.k (by rw [keysV_eq]; exact List.mem_cons_self ..)).2
    have HS : Hid (GrS B wb bm bh w G X g Lo lb H t nb (.slice ak t.ks.length ck) 0 (fun b => X b ∨ b = nb) (addG g nb (⟨t.k, t.tg, t.tx, t.at_⟩ : Nf) (.slice a1 t.at_.length c1)) (D ++ [(t.k, nb)]) Ug22u1) := ⟨hP2, hp1, HB.out.trans hB2, fun b hb => ⟨.inl hb, fun e => HNx.out.1 (e ▸ hb), updF_ne _ _ fun (e : b = nb) => HNx.out.1 (by rw [← e]; exact hb)⟩, HF.out.ks.belowB hB2 HG.out, Hll.out, HG.out⟩
    clear hst hM hM2 hP2 hB2 hp1
    go_simp
    refine hK.out _ _ (hS1) (fun hHeld2 => ?_)
    clear hK K hHeld
    have hHeld := hHeld2
    clear hHeld2
    (try simp only [Act.put, List.setIfInBounds_toArray, List.set_cons_zero, List.set_cons_succ])
    clear hst2 hg hz hS1 HP HB HT HF HN HA HE
    refine wpAnyH_done (by kernel_rfl) ?_ _
    clear hHeld
    have r5 := (row6 HT2.out).2.2.2.2.2
    go_wp2
    clear r5
    go_loopg [6, 32] (t.ks.length) (fun gk av iv wr => ∃ (j : Nat) (X1 : Nat → Prop) (g1 : Gr) (D1 : List (St × Nat)), av = ptr ((g1.C nb).getLast?) ∧ iv = .int .i64 (j : Int) ∧ j ≤ t.ks.length ∧ gk = t.ks.length - j ∧ Hid (GrS B wb bm bh w G X g Lo lb H t nb (.slice ak t.ks.length ck) j X1 g1 D1 wr))
    case atStart => exact ⟨0, _, (addG g nb (⟨t.k, t.tg, t.tx, t.at_⟩ : Nf) (.slice a1 t.at_.length c1)), _, (by simp [addG, updF_same, ptr]), rfl, Nat.zero_le _, rfl, HS⟩
    case round =>
      clear HS HT2
      obtain ⟨j, X1, g1, D1, rfl, rfl, hjn, hgk, HS⟩ := hrel
      subst hgk
      by_cases hlt : j < t.ks.length
      · obtain ⟨b2, o2, hak, hG2, hlt2, hva⟩ := HS.out.ks.kid hlt
        subst hak
        have hszk : t.ks[j].sz ≤ m := (by have := VT.kid (t := t) hlt; omega)
        have hkn : (keysV t.ks[j]).Nodup ∧ ∀ k ∈ keysV t.ks[j], k ∉ keysL (Lo ++ [.node t.k t.tg t.tx t.at_ (t.ks.take j)]) ∧ k ∉ keysL H := grow_keys HKy.out.1 HKy.out.2 hlt
        obtain ⟨x, ex⟩ : ∃ x, x = t.ks[j] := ⟨_, rfl⟩
        rw [← ex] at hva hszk hkn
        have Hex := hide9 ex
        obtain ⟨xa, cx, xk, dx, p0, p1, p2, p3, p4, p5, fx⟩ := hva.cells
        have Hsz := hide9 hszk
        have Hkn := hide9 hkn
        have Hlt := hide9 hlt
        clear ex hva hszk hkn hlt2
        have hz : (wr.alloc (.cells #[.int .i64 0, .int .i64 0, .string ⟨#[]⟩, .string ⟨#[]⟩, .slice none 0 0, .slice none 0 0] 27)).heap[wr.heap.size]? = some (.cells #[.int .i64 0, .int .i64 0, .string ⟨#[]⟩, .string ⟨#[]⟩, .slice none 0 0, .slice none 0 0] 27) := heap_alloc_new _ _
        obtain ⟨W5, eW5⟩ : ∃ X, X = (wr.alloc (.cells #[.int .i64 0, .int .i64 0, .string ⟨#[]⟩, .string ⟨#[]⟩, .slice none 0 0, .slice none 0 0] 27)).setRow wr.heap.size #[.int .i64 x.k.1, .int .i64 x.k.2, .string x.tg, .string x.tx, .slice xa x.at_.length cx, .slice xk x.ks.length dx] := ⟨_, rfl⟩
        have hb5 : Below wr.heap.size wr W5 := (by rw [eW5]; exact ((Below.refl _ _).alloc (Nat.le_refl _) _).grown (grown_setRow _ _ _) (by simp) (fun k e => by cases e; exact Nat.le_refl _))
        obtain ⟨kb, ekb⟩ : ∃ n, n = wr.heap.size := ⟨_, rfl⟩
        have HK : Hid (W5.heap[kb]? = some (.cells #[.int .i64 x.k.1, .int .i64 x.k.2, .string x.tg, .string x.tx, .slice xa x.at_.length cx, .slice xk x.ks.length dx] 27)) := (by rw [eW5, ekb]; exact setRow_same hz)
        have HS5 : Hid (GrS B wb bm bh w G X g Lo lb H t nb (.slice (some ⟨b2, o2, none⟩) t.ks.length ck) j X1 g1 D1 W5) := HS.out.below hb5
        have HFx : Hid (FdIs G W5 (.slice xa x.at_.length cx) (.slice xk x.ks.length dx) x.at_ x.ks) := fx.below hb5
        have HE5 := hide9 (And.intro eW5 ekb)
        have Hz := hide9 hz
        have k1 : (j : Int) < (t.ks.length : Int) := by omega
        have k0 : (0 : Int) ≤ (j : Int) := by omega
        clear fx hz hb5 eW5 ekb HS
        go_upto_region 7 with (refine wpList_store_row rfl 27 (.tmp 8) (.tmp 35) rfl wr.heap.size 27 #[.int .i64 0, .int .i64 0, .string ⟨#[]⟩, .string ⟨#[]⟩, .slice none 0 0, .slice none 0 0] #[.int .i64 x.k.1, .int .i64 x.k.2, .string x.tg, .string x.tx, .slice xa x.at_.length cx, .slice xk x.ks.length dx] rfl rfl Hz.out sizeVN rfl (by simp [Value.oneCell']) ?_)
        rw [← HE5.out.1, ← HE5.out.2]
        clear HE5 Hz p0 p1 p2 p3 p4 p5
        obtain ⟨p0, p1, p2, p3, p4, p5⟩ := row6 HK.out
        go_wp2_with (go_at_call 29; refine (ih G x _ W5 Hsz.out (VIs.of HFx.out) HS5.out.m HS5.out.p (by simp [HS5.out.ll]) Hkn.out HG.out).mono ?_; rintro e W7 ⟨n2, X2, g2, D2, rfl, h1, h2, h3, h4⟩)
        refine (link_s h1 h2.lk (h2.lx n2 (by simp)).1 (h2.lx n2 (by simp)).2.2 (h3 nb (HS5.out.p.lx nb (by simp)).1).1 (fun y hy => by rw [(h3 nb (HS5.out.p.lx nb (by simp)).1).2.2]; exact last_mem hy)).mono ?_
        rintro e W8 ⟨⟨v8, rfl⟩, h5, h6⟩
        have hk9 := HS5.out.kid Hlt.out (by rw [← Hex.out]; exact h2) h3 h4 h5 (h1.touchN h6)
        have HS9 := hide9 hk9.1
        have HL9 := hide9 hk9.2
        clear hk9 h1 h2 h3 h4 h5 h6 p0 p1 p2 p3 p4 p5 HK HS5 HFx
        have nw1 : IntKind.i64.wrap ((j : Int) + 1) = (j : Int) + 1 := by rw [IntKind.wrap_i64]; omega
        go_wp2
        go_roundg (t.ks.length - (j + 1))
        case measure => omega
        case rel => exact ⟨j + 1, X2, _, D2, (by rw [← HL9.out]; rfl), by go_num, by omega, rfl, HS9⟩
      · obtain rfl : j = t.ks.length := by omega
        have k1 : ¬ (t.ks.length : Int) < (t.ks.length : Int) := by omega
        go_wp2
        (try rw [Exit.noGoto_ret])
        go_ret
        refine ⟨nb, X1, g1, D1, rfl, HS.out.m, ?_, HS.out.old, HS.out.bel⟩
        have h9 := HS.out.p
        rw [List.take_length, ← t.eta] at h9
        exact h9

end Go.Proofs.Ytccpljllgpabnab
