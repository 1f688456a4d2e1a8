/- The iterator over a tree's nodes. -/
import Derived.Test.YtljmlbidbacdjabVtT
import Derived.Test.YtljmlbidbacdjabVtR
namespace Go.Proofs.Ytljmlbidbacdjab
open Go.RowKit Go.Shelf
set_option linter.unusedVariables false
set_option linter.unusedSimpArgs false

attribute [local go_sem] Oper.semAt_some

theorem room_of_none {F : Fence} (hd : F.depth = none) (k : Nat) : F.room k := fun d h => by rw [hd] at h; cases h
theorem YieldAt.anyD {m : Nat} (m' : Nat) {P : Program} {l : Nat} {args : Array Value} {W : World} {R : Ending → World → Prop} (h : YieldAt Fence.wide m P l args W R) : YieldAt Fence.wide m' P l args W R := by
  obtain ⟨fn, tmps, assign, body, hy, hR⟩ := h
  exact ⟨fn, tmps, assign, body, hy, hR.1, fun c cs _ => hR.2 c cs (room_of_none rfl _)⟩
/-- A node at its place: how many are above it, where it lies, what it is. -/
structure Nd where
  d : Nat
  b : Nat
  o : Nat
  t : VT
/-- Where a node's kids lie. -/
def kbo (w : World) (b o : Nat) : Nat × Nat := match w.cell? ⟨b, o + 5, none⟩ with
  | some (.slice (some a) _ _) => (a.block, a.off)
  | _ => (0, 0)
mutual
/-- A tree's nodes, in its order. -/
def flatA (w : World) : VT → Nat → Nat → Nat → List Nd
  | .node k tg tx a ks, d, b, o => ⟨d, b, o, .node k tg tx a ks⟩ :: flatsA w ks (d + 1) (kbo w b o).1 (kbo w b o).2
def flatsA (w : World) : List VT → Nat → Nat → Nat → List Nd
  | [], _, _, _ => []
  | t :: r, d, b, o => flatA w t d b o ++ flatsA w r d b (o + 6)
end
theorem flatA_eq (w : World) (t : VT) (d b o : Nat) : flatA w t d b o = ⟨d, b, o, t⟩ :: flatsA w t.ks (d + 1) (kbo w b o).1 (kbo w b o).2 := by cases t; simp only [flatA, VT.ks]
theorem flatA_len_n (w : World) : ∀ (n : Nat), (∀ t d b o, VT.sz t ≤ n → (flatA w t d b o).length = t.sz) ∧ (∀ l d b o, szs l ≤ n → (flatsA w l d b o).length = szs l)
  | 0 => ⟨fun t _ _ _ h => by have := t.sz_pos; omega, fun l _ _ _ h => by
      cases l with
      | nil => simp [flatsA, szs]
      | cons x r => have := x.sz_pos; rw [szs] at h; omega⟩
  | n + 1 => by
    have ih := flatA_len_n w n
    have h1 : ∀ t d b o, VT.sz t ≤ n + 1 → (flatA w t d b o).length = t.sz := fun t d b o h => by
      rw [flatA_eq, List.length_cons, ih.2 _ _ _ _ (by have := t.sz_eq; omega), t.sz_eq]; omega
    refine ⟨h1, fun l => ?_⟩
    induction l with
    | nil => intro d b o _; simp [flatsA, szs]
    | cons x r ihr =>
      intro d b o h
      rw [szs] at h
      rw [flatsA, List.length_append, h1 x d b o (by omega), ihr d b (o + 6) (by omega), szs]
theorem flatA_len (w : World) (t : VT) (d b o : Nat) : (flatA w t d b o).length = t.sz := (flatA_len_n w t.sz).1 t d b o (Nat.le_refl _)
theorem flatsA_len (w : World) (l : List VT) (d b o : Nat) : (flatsA w l d b o).length = szs l := (flatA_len_n w (szs l)).2 l d b o (Nat.le_refl _)
theorem flatsA_append (w : World) : ∀ (l m : List VT) (d b o : Nat), flatsA w (l ++ m) d b o = flatsA w l d b o ++ flatsA w m d b (o + l.length * 6)
  | [], m, d, b, o => by simp [flatsA]
  | x :: r, m, d, b, o => by
    rw [List.cons_append, flatsA, flatsA, flatsA_append w r m d b (o + 6), List.append_assoc, List.length_cons, show o + 6 + r.length * 6 = o + (r.length + 1) * 6 by omega]
/-- The list has these at place k. -/
def Seg (xs : List Nd) (k : Nat) (ys : List Nd) : Prop := ys <+: xs.drop k
theorem Seg.head {xs ys : List Nd} {k : Nat} {y : Nd} (h : Seg xs k (y :: ys)) : ∃ hk : k < xs.length, xs[k] = y := by
  obtain ⟨r, h⟩ := h
  have h2 : k < xs.length := by
    rcases Nat.lt_or_ge k xs.length with q | q
    · exact q
    · rw [List.drop_eq_nil_of_le q] at h; simp at h
  refine ⟨h2, ?_⟩
  rw [List.drop_eq_getElem_cons h2] at h
  simp only [List.cons_append, List.cons.injEq] at h
  exact h.1.symm
theorem Seg.left {xs ys zs : List Nd} {k : Nat} (h : Seg xs k (ys ++ zs)) : Seg xs k ys := by
  obtain ⟨r, h⟩ := h
  exact ⟨zs ++ r, by rw [← List.append_assoc]; exact h⟩
theorem Seg.right {xs ys zs : List Nd} {k : Nat} (h : Seg xs k (ys ++ zs)) : Seg xs (k + ys.length) zs := by
  obtain ⟨r, h⟩ := h
  refine ⟨r, ?_⟩
  rw [← List.drop_drop, ← h, List.append_assoc, List.drop_left]
theorem Seg.kid {w : World} {xs : List Nd} {k d b o : Nat} {l : List VT} (h : Seg xs k (flatsA w l d b o)) {i : Nat} (hi : i < l.length) : Seg xs (k + szs (l.take i)) (flatA w l[i] d b (o + i * 6)) := by
  have e : l = l.take i ++ l[i] :: l.drop (i + 1) := by rw [List.getElem_cons_drop, List.take_append_drop]
  rw [e, flatsA_append] at h
  have h2 := h.right
  rw [flatsA_len, List.length_take, Nat.min_eq_left (by omega), flatsA] at h2
  exact h2.left
theorem szs_take {l : List VT} {i : Nat} (hi : i < l.length) : szs (l.take (i + 1)) = szs (l.take i) + l[i].sz := by
  rw [List.take_succ_eq_append_getElem hi, szs_append]
  simp [szs]
/-- What a round keeps: the blocks of S, and the functions' boxes that are new since N. -/
def KpN (S : Nat → Prop) (N : Nat) (W W' : World) : Prop := W.heap.size ≤ W'.heap.size ∧ ∀ k, (S k ∨ (N ≤ k ∧ ∃ c f, W.heap[k]? = some (.cells c 111 f))) → W'.heap[k]? = W.heap[k]?
theorem KpN.trans {S : Nat → Prop} {N : Nat} {A B C : World} (h : KpN S N A B) (k : KpN S N B C) : KpN S N A C := by
  refine ⟨Nat.le_trans h.1 k.1, fun j hj => ?_⟩
  have e := h.2 j hj
  refine (k.2 j ?_).trans e
  rcases hj with hj | ⟨hj, c, f, hc⟩
  · exact .inl hj
  · exact .inr ⟨hj, c, f, e.trans hc⟩
theorem KpN.keeps {S : Nat → Prop} {N : Nat} {A B : World} (h : KpN S N A B) : KeepsS S A B := ⟨h.1, fun k hk => h.2 k (.inl hk)⟩
theorem KpN.obj {S : Nat → Prop} {N : Nat} {W : World} {l : Nat} {o o' : Obj} (hl : N ≤ l) (hS : ∀ k, S k → k < N) (ho : W.heap[l]? = some o) (hc : o.isCells = false) : KpN S N W (W.putObj l o') := by
  refine ⟨by simp [World.putObj], fun k hk => ?_⟩
  have hne : k ≠ l := fun e => by
    rcases hk with hk | ⟨_, c, f, hq⟩
    · have := hS k hk; omega
    · rw [e, ho] at hq
      injection hq with hq
      rw [hq] at hc
      cases hc
  simp [World.putObj, Array.getElem?_setIfInBounds_ne (fun e => hne e.symm)]
/-- What stands while the nodes are gone over. -/
structure GdS (S : Nat → Prop) (N l : Nat) (w0 : World) (yb gb : Nat) (W : World) : Prop where
  kp : KeepsS S w0 W
  sl : ∀ k, S k → k < w0.heap.size
  y : W.heap[yb]? = some (.cells #[.func (.yield l) #[] #[]] 111)
  g : W.heap[gb]? = some (.cells #[.func (.func 79) #[] #[.pointer (some ⟨yb, 0, none⟩), .pointer (some ⟨gb, 0, none⟩)]] 111)
  hi : N ≤ yb ∧ N ≤ gb
section
variable {S : Nat → Prop} {N l : Nat} {w0 W W' : World} {yb gb : Nat}
theorem GdS.below (h : GdS S N l w0 yb gb W) (hb : Below W.heap.size W W') : GdS S N l w0 yb gb W' := ⟨h.kp.trans (KeepsS.of_below hb fun k hk => Nat.lt_of_lt_of_le (h.sl k hk) h.kp.1), h.sl, (hb.block _ (row_lt h.y)).trans h.y, (hb.block _ (row_lt h.g)).trans h.g, h.hi⟩
theorem GdS.round (h : GdS S N l w0 yb gb W) (hk : KpN S N W W') : GdS S N l w0 yb gb W' := ⟨h.kp.trans hk.keeps, h.sl, (hk.2 _ (.inr ⟨h.hi.1, _, _, h.y⟩)).trans h.y, (hk.2 _ (.inr ⟨h.hi.2, _, _, h.g⟩)).trans h.g, h.hi⟩
theorem GdS.cy (h : GdS S N l w0 yb gb W) : W.cell? ⟨yb, 0, none⟩ = some (.func (.yield l) #[] #[]) := by rw [cell_of_row W yb 0 _ _ _ h.y]; rfl
theorem GdS.cg (h : GdS S N l w0 yb gb W) : W.cell? ⟨gb, 0, none⟩ = some (.func (.func 79) #[] #[.pointer (some ⟨yb, 0, none⟩), .pointer (some ⟨gb, 0, none⟩)]) := by rw [cell_of_row W gb 0 _ _ _ h.g]; rfl
end
/-- A node as yield's arguments. -/
def encN (x : Nd) : Array Value := #[.int .i64 (x.d : Int), .pointer (some ⟨x.b, x.o, none⟩)]
/-- Where the kids of a node lie. -/
theorem VAt.kbo {G : Nat → Prop} {w : World} {t : VT} {b o i : Nat} (h : VAt G w t b o) (hi : i < t.ks.length) : ∃ b2 o2 ck, Go.Proofs.Ytljmlbidbacdjab.kbo w b o = (b2, o2) ∧ G b2 ∧ b2 < w.heap.size ∧ w.cell? ⟨b, o + 5, none⟩ = some (.slice (some ⟨b2, o2, none⟩) t.ks.length ck) ∧ VAt G w t.ks[i] b2 (o2 + i * 6) := by
  obtain ⟨aa, ca, ak, ck, _, _, _, _, _, c5, f⟩ := h.cells
  obtain ⟨b2, o2, rfl, g, hlt, hv⟩ := f.ks.kid hi
  exact ⟨b2, o2, ck, by unfold Go.Proofs.Ytljmlbidbacdjab.kbo; rw [c5], g, hlt, c5, hv⟩
/-- How going down ends. -/
def GdP (S : Nat → Prop) (N l : Nat) (w0 : World) (yb gb : Nat) (xs : List Nd) (J Jx : Nat → World → Prop) (k : Nat) (bv : Bool) (W : World) : Prop := (bv = true ∧ J k W ∧ GdS S N l w0 yb gb W) ∨ (bv = false ∧ ∃ k', k' ≤ xs.length ∧ Jx k' W)

def GdE (S : Nat → Prop) (N l : Nat) (w0 : World) (yb gb : Nat) (xs : List Nd) (J Jx : Nat → World → Prop) (k : Nat) (e : Ending) (W : World) : Prop := ∃ bv, e = .returned (.bool bv) ∧ GdP S N l w0 yb gb xs J Jx k bv W
theorem GdE.mk {S : Nat → Prop} {N l : Nat} {w0 : World} {yb gb : Nat} {xs : List Nd} {J Jx : Nat → World → Prop} {k : Nat} {W : World} (bv : Bool) (h : GdP S N l w0 yb gb xs J Jx k bv W) : GdE S N l w0 yb gb xs J Jx k (.returned (.bool bv)) W := ⟨bv, rfl, h⟩

set_option maxRecDepth 100000 in
set_option maxHeartbeats 16000000 in
theorem goDown_n (G S : Nat → Prop) (hGS : ∀ k, G k → S k) (N l yb gb : Nat) (w0 : World) (xs : List Nd) (J Jx : Nat → World → Prop) (hJ : ∀ (k : Nat) (A B : World), J k A → Below A.heap.size A B → J k B) (hY : ∀ (n k : Nat) (h : k < xs.length) (W1 : World), J k W1 → YieldAt Fence.wide n Try.prog l (encN xs[k]) W1 fun e W' => (e = .returned (.bool true) ∧ J (k + 1) W' ∧ KpN S N W1 W') ∨ (e = .returned (.bool false) ∧ Jx (k + 1) W')) (m : Nat) :
    ∀ (n : Nat) (t : VT) (b o d k : Nat) (W : World), t.sz ≤ m → d + t.sz ≤ 4611686018427387904 → VAt G w0 t b o → S b → Seg xs k (flatA w0 t d b o) → GdS S N l w0 yb gb W → J k W →
    CallsIn Fence.wide n Try.prog 79 #[.int .i64 (d : Int), .pointer (some ⟨b, o, none⟩), .pointer (some ⟨yb, 0, none⟩), .pointer (some ⟨gb, 0, none⟩)] W fun e W' => GdE S N l w0 yb gb xs J Jx (k + t.sz) e W' := by
  induction m with
  | zero => intro _ t _ _ _ _ _ h; have := t.sz_pos; omega
  | succ m ih =>
    intro n t b o d k W hm hd hv hSb hsg hg hj
    obtain ⟨hk0, exk⟩ := Seg.head (by rw [flatA_eq] at hsg; exact hsg)
    have hsk : Seg xs (k + 1) (flatsA w0 t.ks (d + 1) (kbo w0 b o).1 (kbo w0 b o).2) := (by rw [flatA_eq] at hsg; exact Seg.right (ys := [⟨d, b, o, t⟩]) hsg)
    have hyk := hY (n - 1) k hk0 W hj
    rw [exk] at hyk
    obtain ⟨fn, tmps, assign, body, hy, hRd⟩ := hyk
    simp only [encN] at hy
    have cy := hg.cy
    have HG : Hid (GdS S N l w0 yb gb W) := hg
    have HV : Hid (VAt G w0 t b o) := hv
    have HSk : Hid (Seg xs (k + 1) (flatsA w0 t.ks (d + 1) (kbo w0 b o).1 (kbo w0 b o).2)) := hsk
    have HSb : Hid (S b) := hSb
    have Hk0 : Hid (k + 1 ≤ xs.length) := hk0
    have Hm : Hid (t.sz ≤ m + 1 ∧ d + t.sz ≤ 4611686018427387904) := ⟨hm, hd⟩
    clear hg hv hsg hsk hj hm exk
    refine callsIn_of_wp Try.func79 rfl trivial ?_ rfl
    simp only [Try.ntmps79, List.size_toArray, List.length_cons, List.length_nil, Nat.reduceAdd, Nat.reduceSub, Array.replicate_succ, Array.replicate_zero, List.push_toArray, List.append_toArray, List.nil_append, List.cons_append]
    gi_wp2
    refine ⟨fun h => (by cases h), hRd.mono ?_⟩
    clear hRd hy cy
    rintro e W3 (⟨rfl, hJ3, hk3⟩ | ⟨rfl, hx3⟩)
    · have HG3 : Hid (GdS S N l w0 yb gb W3) := HG.out.round hk3
      have HJ3 : Hid (J (k + 1) W3) := hJ3
      clear hJ3 hk3 HG
      obtain ⟨aa, ca, ak, ck, _, _, _, _, _, c5, f0⟩ := HV.out.cells
      have hlk := f0.ks.len
      have c50 := c5
      have c53 := (HG3.out.kp.cell (p := ⟨b, o + 5, none⟩) HSb.out).trans c5
      clear f0 c5
      gi_wp2
      refine wpIn_wide.2 ?_
      go_loopw [18] (fun iv wr => ∃ (i : Nat), i ≤ t.ks.length ∧ iv = .int .i64 (i : Int) ∧ Hid (J (k + 1 + szs (t.ks.take i)) wr) ∧ Hid (GdS S N l w0 yb gb wr)) (fun iv _ => t.ks.length - (intOf iv).toNat)
      case atStart => exact ⟨0, Nat.zero_le _, rfl, HJ3, HG3⟩
      case round =>
        clear c53 HG3 HJ3
        obtain ⟨i, hi, rfl, HJk, HG⟩ := hrel
        by_cases hlt : i < t.ks.length
        · obtain ⟨b2, o2, ck2, ekb, hgb, hl2, c52, hv2⟩ := HV.out.kbo hlt
          rw [c50] at c52
          injection c52 with c52
          injection c52 with c52 _ c53
          subst c52
          clear c53
          have hsx := HSk.out.kid hlt
          rw [ekb] at hsx
          have hszx := VT.kid hlt
          have htk := szs_take hlt
          obtain ⟨x, ex⟩ : ∃ x, x = t.ks[i] := ⟨_, rfl⟩
          rw [← ex] at hv2 hsx hszx htk
          have Hx : Hid (x.sz ≤ m ∧ (d + 1) + x.sz ≤ 4611686018427387904 ∧ VAt G w0 x b2 (o2 + i * 6) ∧ S b2 ∧ Seg xs (k + 1 + szs (t.ks.take i)) (flatA w0 x (d + 1) b2 (o2 + i * 6))) := ⟨by have := Hm.out.1; omega, by have := Hm.out.2; omega, hv2, hGS b2 hgb, hsx⟩
          have Hxs : Hid (szs (t.ks.take (i + 1)) = szs (t.ks.take i) + x.sz) := htk
          have Hc : Hid (w0.cell? ⟨b, o + 5, none⟩ = some (.slice (some ⟨b2, o2, none⟩) t.ks.length ck)) := c50
          have k1 : (i : Int) < (t.ks.length : Int) := by omega
          have k0 : (0 : Int) ≤ (i : Int) := by omega
          have hd2 := Hm.out.2
          have w1 : IntKind.i64.wrap ((d : Int) + 1) = (d : Int) + 1 := by rw [IntKind.wrap_i64]; have := t.sz_pos; omega
          have Hw2 : Hid (((d + 1 : Nat) : Int) = (d : Int) + 1) := (by show _ = _; omega)
          have c53w := (HG.out.kp.cell (p := ⟨b, o + 5, none⟩) HSb.out).trans c50
          clear ekb hgb hl2 hv2 hsx hszx htk ex hd2
          go_upto_region 6 with fail
          refine wp_region_held_drew (S := fun W' => 0 ≤ W'.heap.size) (by kernel_rfl) (Nat.zero_le _) (fun hHeld => ?_)
          obtain ⟨Ug1u0, eW⟩ : ∃ X, X = wr.drew := ⟨_, rfl⟩
          have hb : Below wr.heap.size wr Ug1u0 := by rw [eW]; exact (Below.refl _ _).drew
          replace HG : Hid (GdS S N l w0 yb gb Ug1u0) := HG.out.below hb
          replace HJk : Hid (J (k + 1 + szs (t.ks.take i)) Ug1u0) := hJ _ _ _ HJk.out hb
          rw [← eW] at hHeld ⊢
          clear eW hb
          refine tkW 1 (some 22) (v := ?_) ?_ hHeld ?_
          rotate_left
          · (intro ww _; go_simp; try with_reducible rfl)
          refine tkW 2 (some 23) (v := ?_) ?_ hHeld ?_
          rotate_left
          · (intro ww hSw; (try dsimp only at hSw); go_simp; try with_reducible rfl)
          refine tkW 3 (some 24) (v := ?_) ?_ hHeld ?_
          rotate_left
          · (intro ww _; go_simp; try with_reducible rfl)
          refine tkW 4 (some 25) (v := ?_) ?_ hHeld ?_
          rotate_left
          · (intro ww hSw; (try dsimp only at hSw); go_simp; try with_reducible rfl)
          refine tkW 5 (some 26) (v := ?_) ?_ hHeld ?_
          rotate_left
          · (intro ww _; go_simp; try with_reducible rfl)
          refine tkW 7 (some 28) (v := ?_) ?_ hHeld ?_
          rotate_left
          · (intro ww _; go_simp; try with_reducible rfl)
          refine wpAnyH_ready (rs := [0, 6]) (by kernel_rfl) (by simp) ?_
          refine AllReadyH.cons (o := ⟨some 21, _, _, _, _, _⟩) rfl (fun K hK => ?_) (AllReadyH.cons (o := ⟨some 27, _, _, _, _, _⟩) rfl (fun K hK => ?_) AllReadyH.nil)
          · have q0 := HG.out.cg
            go_simp
            refine hK.out _ _ (Nat.zero_le _) (fun hHeld2 => ?_)
            clear hK K hHeld
            have hHeld := hHeld2
            clear hHeld2
            (try simp only [Act.put, List.setIfInBounds_toArray, List.set_cons_zero, List.set_cons_succ])
            clear q0
            refine wpAnyH_ready (rs := [6]) (by kernel_rfl) (by simp) ?_
            refine AllReadyH.cons (o := ⟨some 27, _, _, _, _, _⟩) rfl (fun K hK => ?_) AllReadyH.nil
            have q5 : Ug1u0.cell? ⟨b, o + 5, none⟩ = some (.slice (some ⟨b2, o2, none⟩) t.ks.length ck) := (HG.out.kp.cell (p := ⟨b, o + 5, none⟩) HSb.out).trans Hc.out
            go_simp
            refine hK.out _ _ (Nat.zero_le _) (fun hHeld2 => ?_)
            clear hK K hHeld
            have hHeld := hHeld2
            clear hHeld2
            (try simp only [Act.put, List.setIfInBounds_toArray, List.set_cons_zero, List.set_cons_succ])
            clear q5
            refine tkW 8 (some 29) (v := ?_) ?_ hHeld ?_
            rotate_left
            · (intro ww hSw; (try dsimp only at hSw); go_simp; try with_reducible rfl)
            refine wpAnyH_ready (rs := [9]) (by kernel_rfl) (by simp) ?_
            refine AllReadyH.cons (o := ⟨some 30, _, _, _, _, _⟩) rfl (fun K hK => ?_) AllReadyH.nil
            have hcl := callsIn_wide.1 (ih 0 x b2 (o2 + i * 6) (d + 1) _ _ Hx.out.1 Hx.out.2.1 Hx.out.2.2.1 Hx.out.2.2.2.1 Hx.out.2.2.2.2 HG.out HJk.out)
            rw [Hw2.out] at hcl
            have Hcl := hide9 hcl
            clear hcl
            go_simp
            refine Hcl.out.mono ?_
            clear Hcl
            rintro e Ug1u3 ⟨bv, rfl, hgp⟩
            have HGp : Hid (GdP S N l w0 yb gb xs J Jx (k + 1 + szs (t.ks.take i) + x.sz) bv Ug1u3) := hgp
            have hS9 : 0 ≤ Ug1u3.heap.size := Nat.zero_le _
            clear hgp HG HJk
            (try go_wp2_with fail)
            refine hK.out _ _ (hS9) (fun hHeld2 => ?_)
            clear hK K hHeld
            have hHeld := hHeld2
            clear hHeld2
            (try simp only [Act.put, List.setIfInBounds_toArray, List.set_cons_zero, List.set_cons_succ])
            clear hS9
            refine tkW 10 (some 31) (v := ?_) ?_ hHeld ?_
            rotate_left
            · (intro ww _; go_simp; try with_reducible rfl)
            refine wpAnyH_done (by kernel_rfl) ?_ _
            clear hHeld
            rcases HGp.out with hq | hq
            · clear HGp
              obtain ⟨rfl, hj, hg⟩ := hq
              have n1 : IntKind.i64.wrap ((i : Int) + 1) = (i : Int) + 1 := by rw [IntKind.wrap_i64]; omega
              have HJn : Hid (J (k + 1 + szs (t.ks.take (i + 1))) Ug1u3) := (by show J _ _; rw [Hxs.out, ← Nat.add_assoc]; exact hj)
              have HGn : Hid (GdS S N l w0 yb gb Ug1u3) := hg
              clear hj hg
              go_wp2
              go_roundw
              case rel => exact ⟨i + 1, by omega, by go_num, HJn, HGn⟩
              case measure => simp [intOf]; omega
            · clear HGp
              obtain ⟨rfl, hq⟩ := hq
              have HQ := hide9 hq
              clear hq
              go_wp2
              go_ret
              exact GdE.mk _ (.inr ⟨rfl, HQ.out⟩)
          · have q5 : Ug1u0.cell? ⟨b, o + 5, none⟩ = some (.slice (some ⟨b2, o2, none⟩) t.ks.length ck) := (HG.out.kp.cell (p := ⟨b, o + 5, none⟩) HSb.out).trans Hc.out
            go_simp
            refine hK.out _ _ (Nat.zero_le _) (fun hHeld2 => ?_)
            clear hK K hHeld
            have hHeld := hHeld2
            clear hHeld2
            (try simp only [Act.put, List.setIfInBounds_toArray, List.set_cons_zero, List.set_cons_succ])
            clear q5
            refine tkW 8 (some 29) (v := ?_) ?_ hHeld ?_
            rotate_left
            · (intro ww hSw; (try dsimp only at hSw); go_simp; try with_reducible rfl)
            refine wpAnyH_ready (rs := [0]) (by kernel_rfl) (by simp) ?_
            refine AllReadyH.cons (o := ⟨some 21, _, _, _, _, _⟩) rfl (fun K hK => ?_) AllReadyH.nil
            have q0 := HG.out.cg
            go_simp
            refine hK.out _ _ (Nat.zero_le _) (fun hHeld2 => ?_)
            clear hK K hHeld
            have hHeld := hHeld2
            clear hHeld2
            (try simp only [Act.put, List.setIfInBounds_toArray, List.set_cons_zero, List.set_cons_succ])
            clear q0
            refine wpAnyH_ready (rs := [9]) (by kernel_rfl) (by simp) ?_
            refine AllReadyH.cons (o := ⟨some 30, _, _, _, _, _⟩) rfl (fun K hK => ?_) AllReadyH.nil
            have hcl := callsIn_wide.1 (ih 0 x b2 (o2 + i * 6) (d + 1) _ _ Hx.out.1 Hx.out.2.1 Hx.out.2.2.1 Hx.out.2.2.2.1 Hx.out.2.2.2.2 HG.out HJk.out)
            rw [Hw2.out] at hcl
            have Hcl := hide9 hcl
            clear hcl
            go_simp
            refine Hcl.out.mono ?_
            clear Hcl
            rintro e Ug1u6 ⟨bv, rfl, hgp⟩
            have HGp : Hid (GdP S N l w0 yb gb xs J Jx (k + 1 + szs (t.ks.take i) + x.sz) bv Ug1u6) := hgp
            have hS9 : 0 ≤ Ug1u6.heap.size := Nat.zero_le _
            clear hgp HG HJk
            (try go_wp2_with fail)
            refine hK.out _ _ (hS9) (fun hHeld2 => ?_)
            clear hK K hHeld
            have hHeld := hHeld2
            clear hHeld2
            (try simp only [Act.put, List.setIfInBounds_toArray, List.set_cons_zero, List.set_cons_succ])
            clear hS9
            refine tkW 10 (some 31) (v := ?_) ?_ hHeld ?_
            rotate_left
            · (intro ww _; go_simp; try with_reducible rfl)
            refine wpAnyH_done (by kernel_rfl) ?_ _
            clear hHeld
            rcases HGp.out with hq | hq
            · clear HGp
              obtain ⟨rfl, hj, hg⟩ := hq
              have n1 : IntKind.i64.wrap ((i : Int) + 1) = (i : Int) + 1 := by rw [IntKind.wrap_i64]; omega
              have HJn : Hid (J (k + 1 + szs (t.ks.take (i + 1))) Ug1u6) := (by show J _ _; rw [Hxs.out, ← Nat.add_assoc]; exact hj)
              have HGn : Hid (GdS S N l w0 yb gb Ug1u6) := hg
              clear hj hg
              go_wp2
              go_roundw
              case rel => exact ⟨i + 1, by omega, by go_num, HJn, HGn⟩
              case measure => simp [intOf]; omega
            · clear HGp
              obtain ⟨rfl, hq⟩ := hq
              have HQ := hide9 hq
              clear hq
              go_wp2
              go_ret
              exact GdE.mk _ (.inr ⟨rfl, HQ.out⟩)
        · have HE : Hid (J (k + t.sz) wr ∧ GdS S N l w0 yb gb wr) := (by have h1 := HJk.out; have e : i = t.ks.length := (by omega); rw [e, List.take_length] at h1; rw [t.sz_eq, ← Nat.add_assoc]; exact ⟨h1, HG.out⟩)
          have k1 : ¬ (i : Int) < (t.ks.length : Int) := by omega
          have k2 : decide ((i : Int) < (t.ks.length : Int)) = false := decide_eq_false k1
          clear HJk HG
          go_wp2
          gi_wp2
          go_ret
          exact GdE.mk _ (.inl ⟨rfl, HE.out.1, HE.out.2⟩)
    · have HX := hide9 hx3
      clear hx3
      gi_wp2
      go_ret
      exact GdE.mk _ (.inr ⟨rfl, _, Hk0.out, HX.out⟩)

end Go.Proofs.Ytljmlbidbacdjab
