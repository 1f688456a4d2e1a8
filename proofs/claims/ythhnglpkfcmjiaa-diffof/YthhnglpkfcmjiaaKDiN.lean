/- The iterator over the places at which a tree's nodes stand. -/
import Derived.Test.YthhnglpkfcmjiaaKDiR
import Derived.Test.YthhnglpkfcmjiaaKVtO
namespace Go.Proofs.Ythhnglpkfcmjiaa
open Go.RowKit Go.Shelf
set_option linter.unusedVariables false
set_option linter.unusedSimpArgs false
attribute [local go_sem] Oper.semAt_some
theorem row4 {W : World} {b : Nat} {x0 x1 x2 x3 : Value} {ty : TypeId} (h : W.heap[b]? = some (.cells #[x0, x1, x2, x3] ty)) : W.cell? ⟨b, 0, none⟩ = some x0 ∧ W.cell? ⟨b, 1, none⟩ = some x1 ∧ W.cell? ⟨b, 2, none⟩ = some x2 ∧ W.cell? ⟨b, 3, none⟩ = some x3 := by
  refine ⟨?_, ?_, ?_, ?_⟩ <;> (rw [cell_of_row W b _ _ _ _ h]; rfl)
/-- A node's place: beneath whom, the how manieth, where it lies, what it is. -/
structure Sd where
  a : St
  i : Nat
  b : Nat
  o : Nat
  t : VT
mutual
def flatS (w : World) : VT → St → Nat → Nat → Nat → List Sd
  | .node k tg tx a ks, u, i, b, o => ⟨u, i, b, o, .node k tg tx a ks⟩ :: flatsS w ks k 0 (kbo w b o).1 (kbo w b o).2
def flatsS (w : World) : List VT → St → Nat → Nat → Nat → List Sd
  | [], _, _, _, _ => []
  | t :: r, u, i, b, o => flatS w t u i b o ++ flatsS w r u (i + 1) b (o + 6)
end
theorem flatS_eq (w : World) (t : VT) (u : St) (i b o : Nat) : flatS w t u i b o = ⟨u, i, b, o, t⟩ :: flatsS w t.ks t.k 0 (kbo w b o).1 (kbo w b o).2 := by cases t; simp only [flatS, VT.ks, VT.k]
theorem flatS_len_n (w : World) : ∀ (n : Nat), (∀ t u i b o, VT.sz t ≤ n → (flatS w t u i b o).length = t.sz) ∧ (∀ l u i b o, szs l ≤ n → (flatsS w l u i b o).length = szs l)
  | 0 => ⟨fun t _ _ _ _ h => by have := t.sz_pos; omega, fun l _ _ _ _ h => by
      cases l with
      | nil => simp [flatsS, szs]
      | cons x r => have := x.sz_pos; rw [szs] at h; omega⟩
  | n + 1 => by
    have ih := flatS_len_n w n
    have h1 : ∀ t u i b o, VT.sz t ≤ n + 1 → (flatS w t u i b o).length = t.sz := fun t u i b o h => by
      rw [flatS_eq, List.length_cons, ih.2 _ _ _ _ _ (by have := t.sz_eq; omega), t.sz_eq]; omega
    refine ⟨h1, fun l => ?_⟩
    induction l with
    | nil => intro u i b o _; simp [flatsS, szs]
    | cons x r ihr =>
      intro u i b o h
      rw [szs] at h
      rw [flatsS, List.length_append, h1 x u i b o (by omega), ihr u (i + 1) b (o + 6) (by omega), szs]
theorem flatS_len (w : World) (t : VT) (u : St) (i b o : Nat) : (flatS w t u i b o).length = t.sz := (flatS_len_n w t.sz).1 t u i b o (Nat.le_refl _)
theorem flatsS_len (w : World) (l : List VT) (u : St) (i b o : Nat) : (flatsS w l u i b o).length = szs l := (flatS_len_n w (szs l)).2 l u i b o (Nat.le_refl _)
theorem flatsS_append (w : World) : ∀ (l m : List VT) (u : St) (i b o : Nat), flatsS w (l ++ m) u i b o = flatsS w l u i b o ++ flatsS w m u (i + l.length) b (o + l.length * 6)
  | [], m, u, i, b, o => by simp [flatsS]
  | x :: r, m, u, i, b, o => by
    rw [List.cons_append, flatsS, flatsS, flatsS_append w r m u (i + 1) b (o + 6), List.append_assoc, List.length_cons, show o + 6 + r.length * 6 = o + (r.length + 1) * 6 by omega, show i + 1 + r.length = i + (r.length + 1) by omega]
/-- The list has these at place k. -/
def SegS (xs : List Sd) (k : Nat) (ys : List Sd) : Prop := ys <+: xs.drop k
theorem SegS.head {xs ys : List Sd} {k : Nat} {y : Sd} (h : SegS xs k (y :: ys)) : ∃ hk : k < xs.length, xs[k] = y := by
  obtain ⟨r, h⟩ := h
  have h2 : k < xs.length := by
    rcases Nat.lt_or_ge k xs.length with q | q
    · exact q
    · rw [List.drop_eq_nil_of_le q] at h; simp at h
  refine ⟨h2, ?_⟩
  rw [List.drop_eq_getElem_cons h2] at h
  simp only [List.cons_append, List.cons.injEq] at h
  exact h.1.symm
theorem SegS.left {xs ys zs : List Sd} {k : Nat} (h : SegS xs k (ys ++ zs)) : SegS xs k ys := by
  obtain ⟨r, h⟩ := h
  exact ⟨zs ++ r, by rw [← List.append_assoc]; exact h⟩
theorem SegS.right {xs ys zs : List Sd} {k : Nat} (h : SegS xs k (ys ++ zs)) : SegS xs (k + ys.length) zs := by
  obtain ⟨r, h⟩ := h
  refine ⟨r, ?_⟩
  rw [← List.drop_drop, ← h, List.append_assoc, List.drop_left]
theorem SegS.kid {w : World} {xs : List Sd} {k : Nat} {u : St} {b o : Nat} {l : List VT} (h : SegS xs k (flatsS w l u 0 b o)) {i : Nat} (hi : i < l.length) : SegS xs (k + szs (l.take i)) (flatS w l[i] u i b (o + i * 6)) := by
  have e : l = l.take i ++ l[i] :: l.drop (i + 1) := by rw [List.getElem_cons_drop, List.take_append_drop]
  rw [e, flatsS_append] at h
  have h2 := h.right
  rw [flatsS_len, List.length_take, Nat.min_eq_left (by omega), flatsS, Nat.zero_add] at h2
  exact h2.left
/-- What a round keeps: the blocks of S, and the boxes of functions and places that are new since N. -/
def KpS (S : Nat → Prop) (N : Nat) (W W' : World) : Prop := W.heap.size ≤ W'.heap.size ∧ ∀ k, (S k ∨ (N ≤ k ∧ ∃ c f ty, W.heap[k]? = some (.cells c ty f) ∧ (ty = 86 ∨ ty = 64))) → W'.heap[k]? = W.heap[k]?
theorem KpS.trans {S : Nat → Prop} {N : Nat} {A B C : World} (h : KpS S N A B) (k : KpS S N B C) : KpS S N A C := by
  refine ⟨Nat.le_trans h.1 k.1, fun j hj => ?_⟩
  have e := h.2 j hj
  refine (k.2 j ?_).trans e
  rcases hj with hj | ⟨hj, c, f, ty, hc, ht⟩
  · exact .inl hj
  · exact .inr ⟨hj, c, f, ty, e.trans hc, ht⟩
theorem KpS.refl (S : Nat → Prop) (N : Nat) (A : World) : KpS S N A A := ⟨Nat.le_refl _, fun _ _ => rfl⟩
theorem KpS.keeps {S : Nat → Prop} {N : Nat} {A B : World} (h : KpS S N A B) : KeepsS S A B := ⟨h.1, fun k hk => h.2 k (.inl hk)⟩
theorem KpS.of_below {S : Nat → Prop} {N : Nat} {A B : World} (hb : Below A.heap.size A B) (hS : ∀ k, S k → k < A.heap.size) : KpS S N A B := ⟨hb.size, fun k hk => hb.block k (hk.elim (hS k) fun ⟨_, c, f, ty, h, _⟩ => row_lt h)⟩
theorem KpS.obj {S : Nat → Prop} {N : Nat} {W : World} {l : Nat} {o o' : Obj} (hS : ¬ S l) (ho : W.heap[l]? = some o) (hc : o.isCells = false) : KpS S N W (W.putObj l o') := by
  refine ⟨by simp [World.putObj], fun k hk => ?_⟩
  have hne : k ≠ l := fun e => by
    rcases hk with hk | ⟨_, c, f, ty, hq, _⟩
    · exact hS (e ▸ hk)
    · rw [e, ho] at hq
      injection hq with hq
      rw [hq] at hc
      cases hc
  simp [World.putObj, Array.getElem?_setIfInBounds_ne (fun e => hne e.symm)]
/-- What stands while the places are gone over. -/
structure GsS (S : Nat → Prop) (N l : Nat) (w0 : World) (yb gb : Nat) (W : World) : Prop where
  kp : KeepsS S w0 W
  sl : ∀ k, S k → k < w0.heap.size
  y : W.heap[yb]? = some (.cells #[.func (.yield l) #[] #[]] 86)
  g : W.heap[gb]? = some (.cells #[.func (.func 53) #[] #[.pointer (some ⟨yb, 0, none⟩), .pointer (some ⟨gb, 0, none⟩)]] 86)
  hi : N ≤ yb ∧ N ≤ gb
section
variable {S : Nat → Prop} {N l : Nat} {w0 W W' : World} {yb gb : Nat}
theorem GsS.below (h : GsS S N l w0 yb gb W) (hb : Below W.heap.size W W') : GsS S N l w0 yb gb W' := ⟨h.kp.trans (KeepsS.of_below hb fun k hk => Nat.lt_of_lt_of_le (h.sl k hk) h.kp.1), h.sl, (hb.block _ (row_lt h.y)).trans h.y, (hb.block _ (row_lt h.g)).trans h.g, h.hi⟩
theorem GsS.round (h : GsS S N l w0 yb gb W) (hk : KpS S N W W') : GsS S N l w0 yb gb W' := ⟨h.kp.trans hk.keeps, h.sl, (hk.2 _ (.inr ⟨h.hi.1, _, _, _, h.y, .inl rfl⟩)).trans h.y, (hk.2 _ (.inr ⟨h.hi.2, _, _, _, h.g, .inl rfl⟩)).trans h.g, h.hi⟩
theorem GsS.cy (h : GsS S N l w0 yb gb W) : W.cell? ⟨yb, 0, none⟩ = some (.func (.yield l) #[] #[]) := by rw [cell_of_row W yb 0 _ _ _ h.y]; rfl
theorem GsS.cg (h : GsS S N l w0 yb gb W) : W.cell? ⟨gb, 0, none⟩ = some (.func (.func 53) #[] #[.pointer (some ⟨yb, 0, none⟩), .pointer (some ⟨gb, 0, none⟩)]) := by rw [cell_of_row W gb 0 _ _ _ h.g]; rfl
theorem GsS.start (hk : KeepsS S w0 W) (hS : ∀ k, S k → k < w0.heap.size) (hN : N ≤ W.heap.size) : GsS S N l w0 W.heap.size (W.heap.size + 1) ((W.alloc (.cells #[.func (.yield l) #[] #[]] 86)).alloc (.cells #[.func (.func 53) #[] #[.pointer (some ⟨W.heap.size, 0, none⟩), .pointer (some ⟨W.heap.size + 1, 0, none⟩)]] 86)) ∧ Below W.heap.size W ((W.alloc (.cells #[.func (.yield l) #[] #[]] 86)).alloc (.cells #[.func (.func 53) #[] #[.pointer (some ⟨W.heap.size, 0, none⟩), .pointer (some ⟨W.heap.size + 1, 0, none⟩)]] 86)) := by
  have hb : Below W.heap.size W ((W.alloc (.cells #[.func (.yield l) #[] #[]] 86)).alloc (.cells #[.func (.func 53) #[] #[.pointer (some ⟨W.heap.size, 0, none⟩), .pointer (some ⟨W.heap.size + 1, 0, none⟩)]] 86)) := ((Below.refl _ _).alloc (Nat.le_refl _) _).alloc (by simp) _
  refine ⟨⟨hk.trans (KeepsS.of_below hb fun k q => Nat.lt_of_lt_of_le (hS k q) hk.1), hS, ?_, ?_, hN, by omega⟩, hb⟩
  · rw [Below.heap_alloc _ _ _ (by simp)]; exact heap_alloc_new W _
  · have h9 := heap_alloc_new (W.alloc (.cells #[.func (.yield l) #[] #[]] 86)) (.cells #[.func (.func 53) #[] #[.pointer (some ⟨W.heap.size, 0, none⟩), .pointer (some ⟨W.heap.size + 1, 0, none⟩)]] 86)
    rw [show (W.alloc (.cells #[.func (.yield l) #[] #[]] 86)).heap.size = W.heap.size + 1 by simp] at h9
    exact h9
end
/-- A place as yield's argument. -/
def encS (x : Sd) : Array Value := #[.agg #[.pointer (some ⟨x.b, x.o, none⟩), .int .i64 x.a.1, .int .i64 x.a.2, .int .i64 (x.i : Int)]]
/-- How going down ends. -/
def GsP (S : Nat → Prop) (N : Nat) (W : World) (xs : List Sd) (J Jx : Nat → World → Prop) (k : Nat) (bv : Bool) (W' : World) : Prop := KpS S N W W' ∧ ((bv = true ∧ J k W') ∨ (bv = false ∧ ∃ k', k' ≤ xs.length ∧ Jx k' W'))
def GsE (S : Nat → Prop) (N : Nat) (W : World) (xs : List Sd) (J Jx : Nat → World → Prop) (k : Nat) (e : Ending) (W' : World) : Prop := ∃ bv, e = .returned (.bool bv) ∧ GsP S N W xs J Jx k bv W'
theorem GsE.mk {S : Nat → Prop} {N : Nat} {W : World} {xs : List Sd} {J Jx : Nat → World → Prop} {k : Nat} {W' : World} (bv : Bool) (h : GsP S N W xs J Jx k bv W') : GsE S N W xs J Jx k (.returned (.bool bv)) W' := ⟨bv, rfl, h⟩
set_option maxRecDepth 100000 in
set_option maxHeartbeats 16000000 in
theorem spot_n (G S : Nat → Prop) (hGS : ∀ k, G k → S k) (N l yb gb : Nat) (w0 : World) (xs : List Sd) (J Jx : Nat → World → Prop) (hJ : ∀ (k : Nat) (A B : World), J k A → Below A.heap.size A B → J k B) (hY : ∀ (n k : Nat) (h : k < xs.length) (W1 : World), J k W1 → YieldAt Fence.wide n Try.prog l (encS xs[k]) W1 fun e W' => (e = .returned (.bool true) ∧ J (k + 1) W' ∧ KpS S N W1 W') ∨ (e = .returned (.bool false) ∧ Jx (k + 1) W' ∧ KpS S N W1 W')) (m : Nat) :
    ∀ (n : Nat) (t : VT) (b o : Nat) (u : St) (i k : Nat) (W : World), t.sz ≤ m → VAt G w0 t b o → S b → SegS xs k (flatS w0 t u i b o) → GsS S N l w0 yb gb W → J k W →
    CallsIn Fence.wide n Try.prog 53 #[.agg #[.pointer (some ⟨b, o, none⟩), .int .i64 u.1, .int .i64 u.2, .int .i64 (i : Int)], .pointer (some ⟨yb, 0, none⟩), .pointer (some ⟨gb, 0, none⟩)] W fun e W' => GsE S N W xs J Jx (k + t.sz) e W' := by
  induction m with
  | zero => intro _ t _ _ _ _ _ _ h; have := t.sz_pos; omega
  | succ m ih =>
    intro n t b o u i k W hm hv hSb hsg hg hj
    obtain ⟨hk0, exk⟩ := SegS.head (by rw [flatS_eq] at hsg; exact hsg)
    have hsk : SegS xs (k + 1) (flatsS w0 t.ks t.k 0 (kbo w0 b o).1 (kbo w0 b o).2) := (by rw [flatS_eq] at hsg; exact SegS.right (ys := [⟨u, i, b, o, t⟩]) hsg)
    have hb1 : Below W.heap.size W (W.alloc (.cells #[.pointer (some ⟨b, o, none⟩), .int .i64 u.1, .int .i64 u.2, .int .i64 (i : Int)] 64)) := ((Below.refl _ _).alloc (Nat.le_refl _) _)
    have HB1 : Hid ((W.alloc (.cells #[.pointer (some ⟨b, o, none⟩), .int .i64 u.1, .int .i64 u.2, .int .i64 (i : Int)] 64)).heap[W.heap.size]? = some (.cells #[.pointer (some ⟨b, o, none⟩), .int .i64 u.1, .int .i64 u.2, .int .i64 (i : Int)] 64)) := heap_alloc_new _ _
    have Hsb0 : Hid (N ≤ W.heap.size) := (by show _ ≤ _; have := row_lt hg.y; have := hg.hi; omega)
    have HG1 : Hid (GsS S N l w0 yb gb (W.alloc (.cells #[.pointer (some ⟨b, o, none⟩), .int .i64 u.1, .int .i64 u.2, .int .i64 (i : Int)] 64))) := hg.below hb1
    have HK1 : Hid (KpS S N W (W.alloc (.cells #[.pointer (some ⟨b, o, none⟩), .int .i64 u.1, .int .i64 u.2, .int .i64 (i : Int)] 64))) := KpS.of_below hb1 (fun k q => Nat.lt_of_lt_of_le (hg.sl k q) hg.kp.1)
    have hyk := hY (n - 1) k hk0 (W.alloc (.cells #[.pointer (some ⟨b, o, none⟩), .int .i64 u.1, .int .i64 u.2, .int .i64 (i : Int)] 64)) (hJ _ _ _ hj hb1)
    rw [exk] at hyk
    obtain ⟨fn, tmps, assign, body, hy, hRd⟩ := hyk
    simp only [encS] at hy
    have cy := HG1.out.cy
    obtain ⟨z0, z1, z2, z3⟩ := row4 HB1.out
    have HV : Hid (VAt G w0 t b o) := hv
    have HSk : Hid (SegS xs (k + 1) (flatsS w0 t.ks t.k 0 (kbo w0 b o).1 (kbo w0 b o).2)) := hsk
    have HSb : Hid (S b) := hSb
    have Hk0 : Hid (k + 1 ≤ xs.length) := hk0
    have Hm : Hid (t.sz ≤ m + 1) := hm
    clear hg hv hsg hsk hj hm exk hb1
    refine callsIn_of_wp Try.func53 rfl trivial ?_ rfl
    simp only [Try.ntmps53, List.size_toArray, List.length_cons, List.length_nil, Nat.reduceAdd, Nat.reduceSub, Array.replicate_succ, Array.replicate_zero, List.push_toArray, List.append_toArray, List.nil_append, List.cons_append]
    gi_wp2
    refine ⟨fun h => (by cases h), hRd.mono ?_⟩
    clear hRd hy cy z0 z1 z2 z3
    rintro e W3 hq3
    obtain ⟨sb, esb⟩ : ∃ n, n = W.heap.size := ⟨_, rfl⟩
    rw [← esb] at HB1 Hsb0
    (try rw [← esb])
    have Hsb : Hid (N ≤ sb) := Hsb0
    clear Hsb0 esb
    rcases hq3 with ⟨rfl, hJ3, hk3⟩ | ⟨rfl, hx3, hk3⟩
    · have HG3 : Hid (GsS S N l w0 yb gb W3) := HG1.out.round hk3
      have HB3 : Hid (W3.heap[sb]? = some (.cells #[.pointer (some ⟨b, o, none⟩), .int .i64 u.1, .int .i64 u.2, .int .i64 (i : Int)] 64)) := (hk3.2 _ (.inr ⟨Hsb.out, _, _, _, HB1.out, .inr rfl⟩)).trans HB1.out
      have HK3 : Hid (KpS S N W W3) := HK1.out.trans hk3
      have HJ3 : Hid (J (k + 1) W3) := hJ3
      clear hJ3 hk3 HG1 HB1 HK1
      obtain ⟨aa, ca, ak, ck, ck0, ck1, _, _, _, c5, f0⟩ := HV.out.cells
      have hlk := f0.ks.len
      have c50 := c5
      have Hkc : Hid (w0.cell? ⟨b, o, none⟩ = some (.int .i64 t.k.1) ∧ w0.cell? ⟨b, o + 1, none⟩ = some (.int .i64 t.k.2)) := ⟨ck0, ck1⟩
      have c53 := (HG3.out.kp.cell (p := ⟨b, o + 5, none⟩) HSb.out).trans c5
      clear f0 c5 ck0 ck1
      obtain ⟨z0, z1, z2, z3⟩ := row4 HB3.out
      gi_wp2
      clear z0 z1 z2 z3
      refine wpIn_wide.2 ?_
      go_loopw [16] (fun iv wr => ∃ (j : Nat), j ≤ t.ks.length ∧ iv = .int .i64 (j : Int) ∧ Hid (J (k + 1 + szs (t.ks.take j)) wr) ∧ Hid (GsS S N l w0 yb gb wr) ∧ Hid (wr.heap[sb]? = some (.cells #[.pointer (some ⟨b, o, none⟩), .int .i64 u.1, .int .i64 u.2, .int .i64 (i : Int)] 64)) ∧ Hid (KpS S N W wr)) (fun iv _ => t.ks.length - (intOf iv).toNat)
      case atStart => exact ⟨0, Nat.zero_le _, rfl, HJ3, HG3, HB3, HK3⟩
      case round =>
        clear c53 HG3 HJ3 HB3 HK3
        obtain ⟨j, hi, rfl, HJk, HG, HB, HKp⟩ := hrel
        by_cases hlt : j < t.ks.length
        · obtain ⟨b2, o2, ck2, ekb, hgb, hl2, c52, hv2⟩ := HV.out.kbo hlt
          rw [c50] at c52
          injection c52 with c52
          injection c52 with c52 _ c53
          subst c52
          clear c53
          have hsx := HSk.out.kid hlt
          rw [ekb] at hsx
          have hszx := VT.kid hlt
          have htk := szs_take hlt
          obtain ⟨x, ex⟩ : ∃ x, x = t.ks[j] := ⟨_, rfl⟩
          rw [← ex] at hv2 hsx hszx htk
          have Hx : Hid (x.sz ≤ m ∧ True ∧ VAt G w0 x b2 (o2 + j * 6) ∧ S b2 ∧ SegS xs (k + 1 + szs (t.ks.take j)) (flatS w0 x t.k j b2 (o2 + j * 6))) := ⟨by have := Hm.out; omega, trivial, hv2, hGS b2 hgb, hsx⟩
          have Hxs : Hid (szs (t.ks.take (j + 1)) = szs (t.ks.take j) + x.sz) := htk
          have Hc : Hid (w0.cell? ⟨b, o + 5, none⟩ = some (.slice (some ⟨b2, o2, none⟩) t.ks.length ck)) := c50
          have k1 : (j : Int) < (t.ks.length : Int) := by omega
          have k0 : (0 : Int) ≤ (j : Int) := by omega
          clear ekb hgb hl2 hv2 hsx hszx htk ex
          go_upto_region 6 with fail
          have HB0 : Hid (wr.heap[sb]? = some (.cells #[.pointer (some ⟨b, o, none⟩), .int .i64 u.1, .int .i64 u.2, .int .i64 (i : Int)] 64)) := HB
          have HG0 : Hid (GsS S N l w0 yb gb wr) := HG
          refine wp_region_held_drew (S := fun W' => KeepsS (fun k => S k ∨ k = sb ∨ k = gb) wr W') (by kernel_rfl) (KeepsS.of_below (Below.refl wr.heap.size wr).drew (fun k q => by rcases q with q | rfl | rfl; exact Nat.lt_of_lt_of_le (HG.out.sl k q) HG.out.kp.1; exact row_lt HB.out; exact row_lt HG.out.g)) (fun hHeld => ?_)
          obtain ⟨Ug1u0, eW⟩ : ∃ X, X = wr.drew := ⟨_, rfl⟩
          have hb : Below wr.heap.size wr Ug1u0 := by rw [eW]; exact (Below.refl _ _).drew
          replace HG : Hid (GsS S N l w0 yb gb Ug1u0) := HG.out.below hb
          replace HJk : Hid (J (k + 1 + szs (t.ks.take j)) Ug1u0) := hJ _ _ _ HJk.out hb
          replace HB : Hid (Ug1u0.heap[sb]? = some (.cells #[.pointer (some ⟨b, o, none⟩), .int .i64 u.1, .int .i64 u.2, .int .i64 (i : Int)] 64)) := (hb.block _ (row_lt HB.out)).trans HB.out
          replace HKp : Hid (KpS S N W Ug1u0) := HKp.out.trans (KpS.of_below hb (fun k q => Nat.lt_of_lt_of_le (HG0.out.sl k q) HG0.out.kp.1))
          rw [← eW] at hHeld ⊢
          clear eW hb
          refine tkW 0 (some 19) (v := ?_) ?_ hHeld ?_
          rotate_left
          · (intro ww hSw; (try dsimp only at hSw); have q0 : ww.cell? ⟨gb, 0, none⟩ = some (.func (.func 53) #[] #[.pointer (some ⟨yb, 0, none⟩), .pointer (some ⟨gb, 0, none⟩)]) := (hSw.cell (p := ⟨gb, 0, none⟩) (.inr (.inr rfl))).trans HG0.out.cg; go_simp; try with_reducible rfl)
          refine tkW 1 (some 20) (v := ?_) ?_ hHeld ?_
          rotate_left
          · (intro ww _; go_simp; try with_reducible rfl)
          refine tkW 2 (some 21) (v := ?_) ?_ hHeld ?_
          rotate_left
          · (intro ww hSw; (try dsimp only at hSw); obtain ⟨z0, z1, z2, z3⟩ := row4 ((hSw.2 sb (.inr (.inl rfl))).trans HB0.out); go_simp; try with_reducible rfl)
          refine tkW 3 (some 22) (v := ?_) ?_ hHeld ?_
          rotate_left
          · (intro ww hSw; (try dsimp only at hSw); go_simp; try with_reducible rfl)
          refine tkW 4 (some 23) (v := ?_) ?_ hHeld ?_
          rotate_left
          · (intro ww _; go_simp; try with_reducible rfl)
          refine tkW 5 (some 24) (v := ?_) ?_ hHeld ?_
          rotate_left
          · (intro ww hSw; (try dsimp only at hSw); have q5 : ww.cell? ⟨b, o + 5, none⟩ = some (.slice (some ⟨b2, o2, none⟩) t.ks.length ck) := (hSw.cell (p := ⟨b, o + 5, none⟩) (.inl HSb.out)).trans ((HG0.out.kp.cell (p := ⟨b, o + 5, none⟩) HSb.out).trans Hc.out); go_simp; try with_reducible rfl)
          refine tkW 6 (some 25) (v := ?_) ?_ hHeld ?_
          rotate_left
          · (intro ww _; go_simp; try with_reducible rfl)
          refine tkW 7 (some 26) (v := ?_) ?_ hHeld ?_
          rotate_left
          · (intro ww hSw; (try dsimp only at hSw); go_simp; try with_reducible rfl)
          refine tkW 8 (some 27) (v := ?_) ?_ hHeld ?_
          rotate_left
          · (intro ww _; go_simp; try with_reducible rfl)
          refine tkW 9 (some 28) (v := ?_) ?_ hHeld ?_
          rotate_left
          · (intro ww hSw; (try dsimp only at hSw); obtain ⟨z0, z1, z2, z3⟩ := row4 ((hSw.2 sb (.inr (.inl rfl))).trans HB0.out); go_simp; try with_reducible rfl)
          refine tkW 10 (some 29) (v := ?_) ?_ hHeld ?_
          rotate_left
          · (intro ww hSw; (try dsimp only at hSw); go_simp; try with_reducible rfl)
          refine tkW 11 (some 30) (v := ?_) ?_ hHeld ?_
          rotate_left
          · (intro ww _; go_simp; try with_reducible rfl)
          refine tkW 12 (some 31) (v := ?_) ?_ hHeld ?_
          rotate_left
          · (intro ww hSw; (try dsimp only at hSw); have q6 : ww.cell? ⟨b, o, none⟩ = some (.int .i64 t.k.1) := (hSw.cell (p := ⟨b, o, none⟩) (.inl HSb.out)).trans ((HG0.out.kp.cell (p := ⟨b, o, none⟩) HSb.out).trans Hkc.out.1); have q7 : ww.cell? ⟨b, o + 1, none⟩ = some (.int .i64 t.k.2) := (hSw.cell (p := ⟨b, o + 1, none⟩) (.inl HSb.out)).trans ((HG0.out.kp.cell (p := ⟨b, o + 1, none⟩) HSb.out).trans Hkc.out.2); go_simp; try with_reducible rfl)
          refine tkW 13 (some 32) (v := ?_) ?_ hHeld ?_
          rotate_left
          · (intro ww _; go_simp; try with_reducible rfl)
          refine tkW 14 (some 33) (v := ?_) ?_ hHeld ?_
          rotate_left
          · (intro ww hSw; (try dsimp only at hSw); go_simp; try with_reducible rfl)
          refine wpAnyH_ready (rs := [15]) (by kernel_rfl) (by simp) ?_
          refine AllReadyH.cons (o := ⟨some 34, _, _, _, _, _⟩) rfl (fun K hK => ?_) AllReadyH.nil
          have hcl := callsIn_wide.1 (ih 0 x b2 (o2 + j * 6) t.k j _ _ Hx.out.1 Hx.out.2.2.1 Hx.out.2.2.2.1 Hx.out.2.2.2.2 HG.out HJk.out)
          have Hcl := hide9 hcl
          clear hcl
          go_simp
          refine Hcl.out.mono ?_
          clear Hcl
          rintro e Ug1u1 ⟨bv, rfl, hkp0, hgp⟩
          have HGp : Hid ((bv = true ∧ J (k + 1 + szs (t.ks.take j) + x.sz) Ug1u1) ∨ (bv = false ∧ ∃ k', k' ≤ xs.length ∧ Jx k' Ug1u1)) := hgp
          have hS9 : KeepsS (fun k => S k ∨ k = sb ∨ k = gb) wr Ug1u1 := hHeld.trans ⟨hkp0.1, fun k q => by rcases q with q | rfl | rfl; exact hkp0.2 k (.inl q); exact hkp0.2 _ (.inr ⟨Hsb.out, _, _, _, HB.out, .inr rfl⟩); exact hkp0.2 _ (.inr ⟨HG.out.hi.2, _, _, _, HG.out.g, .inl rfl⟩)⟩
          replace HB : Hid (Ug1u1.heap[sb]? = some (.cells #[.pointer (some ⟨b, o, none⟩), .int .i64 u.1, .int .i64 u.2, .int .i64 (i : Int)] 64)) := (hkp0.2 _ (.inr ⟨Hsb.out, _, _, _, HB.out, .inr rfl⟩)).trans HB.out
          replace HG : Hid (GsS S N l w0 yb gb Ug1u1) := HG.out.round hkp0
          replace HKp : Hid (KpS S N W Ug1u1) := HKp.out.trans hkp0
          clear hgp HJk hkp0
          (try go_wp2_with fail)
          refine hK.out _ _ (hS9) (fun hHeld2 => ?_)
          clear hK K hHeld
          have hHeld := hHeld2
          clear hHeld2
          (try simp only [Act.put, List.setIfInBounds_toArray, List.set_cons_zero, List.set_cons_succ])
          clear hS9
          refine tkW 16 (some 35) (v := ?_) ?_ hHeld ?_
          rotate_left
          · (intro ww _; go_simp; try with_reducible rfl)
          refine wpAnyH_done (by kernel_rfl) ?_ _
          clear hHeld
          rcases HGp.out with hq | hq
          · clear HGp
            obtain ⟨rfl, hj⟩ := hq
            have n1 : IntKind.i64.wrap ((j : Int) + 1) = (j : Int) + 1 := by rw [IntKind.wrap_i64]; omega
            have HJn : Hid (J (k + 1 + szs (t.ks.take (j + 1))) Ug1u1) := (by show J _ _; rw [Hxs.out, ← Nat.add_assoc]; exact hj)
            clear hj
            go_wp2
            go_roundw
            case rel => exact ⟨j + 1, by omega, by go_num, HJn, HG, HB, HKp⟩
            case measure => simp [intOf]; omega
          · clear HGp
            obtain ⟨rfl, hq⟩ := hq
            have HQ := hide9 hq
            clear hq
            go_wp2
            go_ret
            exact GsE.mk _ ⟨HKp.out, .inr ⟨rfl, HQ.out⟩⟩
        · have HE : Hid (J (k + t.sz) wr) := (by have h1 := HJk.out; have e : j = t.ks.length := (by omega); rw [e, List.take_length] at h1; show J _ _; rw [t.sz_eq, ← Nat.add_assoc]; exact h1)
          have k1 : ¬ (j : Int) < (t.ks.length : Int) := by omega
          have k2 : decide ((j : Int) < (t.ks.length : Int)) = false := decide_eq_false k1
          clear HJk HG
          go_wp2
          gi_wp2
          go_ret
          exact GsE.mk _ ⟨HKp.out, .inl ⟨rfl, HE.out⟩⟩
    · have HK3 : Hid (KpS S N W W3) := HK1.out.trans hk3
      have HX := hide9 hx3
      clear hx3
      gi_wp2
      go_ret
      exact GsE.mk _ ⟨HK3.out, .inr ⟨rfl, _, Hk0.out, HX.out⟩⟩
end Go.Proofs.Ythhnglpkfcmjiaa
