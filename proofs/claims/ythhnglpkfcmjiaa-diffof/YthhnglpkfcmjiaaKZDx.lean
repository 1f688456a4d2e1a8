/- Of: the patch between two trees. -/
import Derived.Test.YthhnglpkfcmjiaaKDiC
import Derived.Test.YthhnglpkfcmjiaaKDiT
import Derived.Test.YthhnglpkfcmjiaaKZDv
import Derived.Test.YthhnglpkfcmjiaaKPlainLi
import Derived.Test.YthhnglpkfcmjiaaKZDw
import Derived.Test.YthhnglpkfcmjiaaKZDl
import Derived.WideLaws
import Derived.Test.YthhnglpkfcmjiaaKVtQ
namespace Go.Proofs.Ythhnglpkfcmjiaa
open Go.RowKit Go.Shelf
set_option linter.unusedVariables false
set_option linter.unusedSimpArgs false
attribute [local go_sem] Oper.semAt_some
/-- The steps of a node of the second tree: its own, its kids'. -/
def ofS (A : List Sd) (x : VT) : List Pa := wrL A x ++ plL A (shL A x) x.k (0, 0) x.ks
def lvL (A B : List Sd) : List Pa := eaL (tkL A B) 1 A ++ eaL (gnL A B) 2 A
/-- The patch between two trees. -/
def ofL (A B : List Sd) : List Pa := lvL A B ++ B.flatMap fun x => ofS A x.t
theorem ofS_len {A : List Sd} {x : VT} (hA : ∀ y ∈ A, y.t.at_.length ≤ 4096) (hx : x.at_.length ≤ 4096 ∧ x.ks.length ≤ 8192) : (wrL A x).length ≤ 8194 ∧ (plL A (shL A x) x.k (0, 0) x.ks).length ≤ 16384 := by
  have ho : (oldD A x).at_.length ≤ 4096 := by
    unfold oldD
    cases h9 : getP skU A x.k with
    | none => exact Nat.zero_le _
    | some y => exact hA y (getP_key h9).1
  have h1 := wrA_len x.k _ (oldD A x).at_ x.at_ (Nat.le_refl _)
  have h2 := tgR_len A x
  have h3 := txR_len A x
  have h4 := plL_len A (shL A x) x.k (0, 0) x.ks
  unfold wrL
  rw [List.length_append, List.length_append]
  omega
theorem lvL_len (A B : List Sd) : (lvL A B).length ≤ 2 * A.length := by
  unfold lvL
  rw [List.length_append]
  have h1 := eaL_len (tkL A B) 1 A
  have h2 := eaL_len (gnL A B) 2 A
  omega
theorem ofP_len {A : List Sd} (hA : ∀ y ∈ A, y.t.at_.length ≤ 4096) : ∀ (l : List Sd), (∀ x ∈ l, x.t.at_.length ≤ 4096 ∧ x.t.ks.length ≤ 8192) → (l.flatMap fun x => ofS A x.t).length ≤ 24578 * l.length
  | [], _ => by simp
  | x :: r, h => by
    have h1 := ofP_len hA r fun y hy => h y (List.mem_cons_of_mem _ hy)
    have h2 := ofS_len hA (h x (List.mem_cons_self ..))
    rw [List.flatMap_cons, List.length_append, List.length_cons]
    unfold ofS
    rw [List.length_append]
    unfold ofS at h1
    omega
theorem row_vat {G : Nat → Prop} {w : World} {t : VT} {b : Nat} {a : Option Addr} {c : Nat} {k : Option Addr} {d : Nat} (h : w.heap[b]? = some (.cells #[.int .i64 t.k.1, .int .i64 t.k.2, .string t.tg, .string t.tx, .slice a t.at_.length c, .slice k t.ks.length d] 27)) (hf : FdIs G w (.slice a t.at_.length c) (.slice k t.ks.length d) t.at_ t.ks) : VAt G w t b 0 := by
  refine VAt_iff.2 ⟨_, _, fun j u hj => ?_, hf⟩
  rw [cell_of_row _ _ _ _ _ _ h]
  rw [Nat.zero_add]
  rw [show ((#[.int .i64 t.k.1, .int .i64 t.k.2, .string t.tg, .string t.tx, .slice a t.at_.length c, .slice k t.ks.length d] : Array Value)) = (ndC t.k t.tg t.tx (.slice a t.at_.length c) (.slice k t.ks.length d)).toArray from rfl, List.getElem?_toArray]
  exact hj
theorem B1.ofD {b k : Nat} {v u : Value} {t s : TypeId} (h : B1 b v t k = some (u, s)) : k = b ∧ u = v ∧ s = t := by
  unfold B1 at h
  by_cases e : k = b
  · rw [if_pos e] at h; injection h with h; injection h with h1 h2; exact ⟨e, h1.symm, h2.symm⟩
  · rw [if_neg e] at h; cases h
/-- What Of answers. -/
def OfP (a b : VT) (w : World) (v : Value) (c : Int) (w' : World) : Prop := if whyD a b = 0 then c = 0 ∧ ∃ (X : World) (Ba Bb : Nat), OwnPa w.heap.size w' v (ofL (flatS X a (0, 0) 0 Ba 0) (flatS X b (0, 0) 0 Bb 0)) else c = whyD a b ∧ v = .slice none 0 0
/-- What stands in a round of Of: the row of steps in its box, apart from all that was there ahead of it. -/
structure OfS (w W2 : World) (N0 : Nat) (S : Nat → Prop) (ob : Nat) (v : Value) (L : List Pa) (W U : World) : Prop where
  dg : DgS w W2 S (B1 ob v 31) M0 U
  ow : OwnPa N0 U v L
  lo : w.heap.size ≤ N0 ∧ ∀ k, S k → k < N0
  kf : KeepsFrom W2.heap.size W U
  kn : KpS S W2.heap.size W U
section
variable {w W2 W U U' : World} {N0 : Nat} {S : Nat → Prop} {ob : Nat} {v v' : Value} {L L' : List Pa}
theorem OfS.below (h : OfS w W2 N0 S ob (v) (L) W U) (hb : Below U.heap.size U U') : OfS w W2 N0 S ob (v) (L) W U' := ⟨h.dg.below hb, OwnE.below h.ow hb, h.lo, h.kf.trans (keepsFrom_below hb), h.kn.trans (h.dg.kp0 hb)⟩
theorem own_ne {B : Nat} {W : World} {v : Value} {D : List Pa} (h : OwnPa B W v D) {k : Nat} {c : Array Value} {T : TypeId} (hk : W.heap[k]? = some (.cells c T)) (hT : T ≠ 45) : v.ownBlock ≠ some k := fun e => by
  obtain ⟨c2, h2⟩ := own_cellsE h e
  rw [hk] at h2
  injection h2 with h2
  injection h2 with _ h3 _
  exact hT h3
/-- The row has grown, and is not in its box yet. -/
theorem OfS.mid (h : OfS w W2 N0 S ob (v) (L) W U) (hg : U.grownBy U' v.ownBlock) : DgS w W2 S (B1 ob v 31) M0 U' ∧ KpS S W2.heap.size U U' ∧ KeepsFrom W2.heap.size U U' := by
  have hb := h.dg.rn.box ob v 31 (B1.at _ _ _)
  have hne := own_ne h.ow hb (by decide)
  refine ⟨h.dg.grownR hg fun r e => ?_, KpS.grown hg (fun k q => Nat.lt_of_lt_of_le (h.dg.rn.sl k q) h.dg.rn.kp.1) fun g e => ⟨fun q => ?_, .inr fun c f ty hc => ?_⟩, keepsFrom_ownE h.ow hg⟩
  · have h1 := (OwnE.lt h.ow r e).1
    exact ⟨Nat.le_trans h.lo.1 h1, fun q => by have := h.lo.2 r q; omega, if_neg (fun e2 => hne (by rw [← e2]; exact e)), rfl⟩
  · have h1 := (OwnE.lt h.ow g e).1
    have := h.lo.2 g q
    omega
  · obtain ⟨c2, h2⟩ := own_cellsE h.ow e
    rw [hc] at h2
    injection h2 with h2
    injection h2 with _ h3 _
    rw [h3]
    exact ⟨by decide, by decide⟩
theorem OfS.push (h : OfS w W2 N0 S ob (v) (L) W U) (hg : U.grownBy U' v.ownBlock) (ho : OwnPa N0 U' v' L') : OfS w W2 N0 S ob (v') (L') W (U'.setCell ⟨ob, 0, none⟩ v') := by
  obtain ⟨h1, h2, h3⟩ := h.mid hg
  have h9 := h1.set (B1.at _ _ _) v'
  rw [B1.set] at h9
  have hb := h1.rn.box ob v 31 (B1.at _ _ _)
  have hne := own_ne ho hb (by decide)
  exact ⟨h9, OwnE.keep ho fun k e => RowKit.Below.heap_setCell _ _ _ _ (fun (q : k = ob) => hne (by rw [← q]; exact e)), h.lo, (h.kf.trans h3).trans (keepsFrom_set _ _ _), (h.kn.trans h2).trans (h1.kpB (B1.at _ _ _) v')⟩
end
set_option maxRecDepth 100000 in
set_option maxHeartbeats 8000000 in
theorem of_in (n0 : Nat) (hn : 6 ≤ n0) (G : Nat → Prop) (a b : VT) (va vb : Value) (w : World) (ha : VIs G w va a) (hb : VIs G w vb b) (hsa : a.sz ≤ 1048576) (hba : BnA a) (hsb : b.sz ≤ 1048576) (hbb : BnA b)
    (hwy : whyD a b = 0 → ((flT a).map VT.k).Nodup ∧ (a.sz ≤ 8192 ∧ b.sz ≤ 8192) ∧ (∀ x ∈ flT a, x.at_.length ≤ 4096) ∧ (∀ x ∈ flT b, x.at_.length ≤ 4096 ∧ x.ks.length ≤ 8192)) :
    CallsIn Fence.wide n0 Try.prog 12 #[va, vb] w fun e w' => ∃ v c, e = .returned (.tuple #[v, .int .i64 c]) ∧ OfP a b w v c w' ∧ Below w.heap.size w w' := by
  obtain ⟨aa, ca, ak, da, e1, fa⟩ := ha.form
  obtain ⟨ba, cb, bk, db, e2, fb⟩ := hb.form
  subst e1 e2
  obtain ⟨W0, eW⟩ : ∃ X, X = (w.alloc (.cells #[.int .i64 a.k.1, .int .i64 a.k.2, .string a.tg, .string a.tx, .slice aa a.at_.length ca, .slice ak a.ks.length da] 27)).alloc (.cells #[.int .i64 b.k.1, .int .i64 b.k.2, .string b.tg, .string b.tx, .slice ba b.at_.length cb, .slice bk b.ks.length db] 27) := ⟨_, rfl⟩
  have hb0 : Below w.heap.size w W0 := (by rw [eW]; exact ((Below.refl _ _).alloc (Nat.le_refl _) _).alloc (by simp) _)
  have HR1 : Hid (W0.heap[w.heap.size]? = some (.cells #[.int .i64 a.k.1, .int .i64 a.k.2, .string a.tg, .string a.tx, .slice aa a.at_.length ca, .slice ak a.ks.length da] 27)) := (by show _ = _; rw [eW, Below.heap_alloc _ _ _ (by simp)]; exact heap_alloc_new _ _)
  have HR2 : Hid (W0.heap[w.heap.size + 1]? = some (.cells #[.int .i64 b.k.1, .int .i64 b.k.2, .string b.tg, .string b.tx, .slice ba b.at_.length cb, .slice bk b.ks.length db] 27)) := (by show _ = _; rw [eW]; have h9 := heap_alloc_new (w.alloc (.cells #[.int .i64 a.k.1, .int .i64 a.k.2, .string a.tg, .string a.tx, .slice aa a.at_.length ca, .slice ak a.ks.length da] 27)) (.cells #[.int .i64 b.k.1, .int .i64 b.k.2, .string b.tg, .string b.tx, .slice ba b.at_.length cb, .slice bk b.ks.length db] 27); rw [show (w.alloc (.cells #[.int .i64 a.k.1, .int .i64 a.k.2, .string a.tg, .string a.tx, .slice aa a.at_.length ca, .slice ak a.ks.length da] 27)).heap.size = w.heap.size + 1 by simp] at h9; exact h9)
  have HA : Hid (VIs G W0 (.agg #[.int .i64 a.k.1, .int .i64 a.k.2, .string a.tg, .string a.tx, .slice aa a.at_.length ca, .slice ak a.ks.length da]) a) := ha.below hb0
  have HB : Hid (VIs G W0 (.agg #[.int .i64 b.k.1, .int .i64 b.k.2, .string b.tg, .string b.tx, .slice ba b.at_.length cb, .slice bk b.ks.length db]) b) := hb.below hb0
  have HE := hide9 eW
  have HL := hide9 hb0
  clear eW hb0 ha hb
  have HFa : Hid (FdIs G W0 (.slice aa a.at_.length ca) (.slice ak a.ks.length da) a.at_ a.ks) := fa.below HL.out
  have HFb : Hid (FdIs G W0 (.slice ba b.at_.length cb) (.slice bk b.ks.length db) b.at_ b.ks) := fb.below HL.out
  have HW := hide9 hwy
  clear fa fb hwy
  have hro : Fence.wide.round = none := rfl
  have h1n : 1 ≤ n0 := by omega
  refine callsIn_of_wp_marksD Try.func12 rfl trivial ?_ hro
  simp only [Try.ntmps12, List.size_toArray, List.length_cons, List.length_nil, Nat.reduceAdd, Nat.reduceSub, Array.replicate_succ, Array.replicate_zero, List.push_toArray, List.append_toArray, List.nil_append, List.cons_append]
  obtain ⟨y0, y1, y2, y3, y4, y5⟩ := row6d HR1.out
  obtain ⟨z0, z1, z2, z3, z4, z5⟩ := row6d HR2.out
  rw [HE.out] at y0 y1 y2 y3 y4 y5 z0 z1 z2 z3 z4 z5
  gi_wp2_with fail
  clear y0 y1 y2 y3 y4 y5 z0 z1 z2 z3 z4 z5
  rw [← HE.out]
  clear HE
  refine ⟨trivial, ?_⟩
  refine (callsIn_wide.2 (dcheck_any G a b _ _ _ HA.out HB.out hsa hba hsb hbb)).mono ?_
  rintro e w1 ⟨rfl, hb1⟩
  obtain ⟨cy, ecy⟩ : ∃ x, x = whyD a b := ⟨_, rfl⟩
  rw [← ecy]
  have Hcy := hide9 ecy
  clear ecy HA HB
  replace HL := hide9 (HL.out.trans (hb1.mono HL.out.size))
  have Ha1 : Hid (VAt G w1 a w.heap.size 0) := row_vat ((hb1.block _ (row_lt HR1.out)).trans HR1.out) (HFa.out.below hb1)
  have Hb1 : Hid (VAt G w1 b (w.heap.size + 1) 0) := row_vat ((hb1.block _ (row_lt HR2.out)).trans HR2.out) (HFb.out.below hb1)
  clear hb1 HR1 HR2 HFa HFb
  by_cases hy : cy = 0
  · subst hy
    have Hwy : Hid (whyD a b = 0) := Hcy.out.symm
    clear Hcy
    obtain ⟨hra, hsa2, hat, hbt⟩ := HW.out Hwy.out
    have Hra := hide9 hra
    have Hsa2 := hide9 hsa2
    have Hat := hide9 hat
    have Hbt := hide9 hbt
    clear hra hsa2 hat hbt HW
    gi_wp2_with fail
    refine ⟨trivial, ?_⟩
    refine (spotsOf_in (n0 - 1) (by omega) G a w.heap.size _ Ha1.out Hra.out).mono ?_
    rintro e V1 ⟨mb, rfl, hm, hmb, hb2⟩
    obtain ⟨X1, eX1⟩ : ∃ X, X = V1.alloc (.cells #[.map (some mb)] 56) := ⟨_, rfl⟩
    have hx1 : Below V1.heap.size V1 X1 := (by rw [eX1]; exact (Below.refl _ _).alloc (Nat.le_refl _) _)
    have hb12 : Below w1.heap.size w1 X1 := hb2.trans (hx1.mono hb2.size)
    obtain ⟨vb, evb⟩ : ∃ n, n = V1.heap.size := ⟨_, rfl⟩
    have hV : X1.heap[vb]? = some (.cells #[.map (some mb)] 56) := (by rw [eX1, evb]; exact heap_alloc_new _ _)
    have hm1 : MpS X1 mb (flatS w1 a (0, 0) 0 w.heap.size 0) := hm.keep (hx1.block _ hm.lt)
    obtain ⟨A, eA⟩ : ∃ l, l = flatS X1 a (0, 0) 0 w.heap.size 0 := ⟨_, rfl⟩
    rw [← flatS_same Ha1.out hb12 (0, 0) 0, ← eA] at hm1
    obtain ⟨B, eB⟩ : ∃ l, l = flatS X1 b (0, 0) 0 (w.heap.size + 1) 0 := ⟨_, rfl⟩
    have va1 := Ha1.out.below hb12 (cell_lt Ha1.out.cells9)
    have vb1 := Hb1.out.below hb12 (cell_lt Hb1.out.cells9)
    have hndA : (A.map skU).Nodup := (by have h1 := flatS_t X1 a (0, 0) 0 w.heap.size 0; rw [← eA] at h1; have h2 := Hra.out; rw [← h1, List.map_map] at h2; exact h2)
    have HL1 : Hid (Below w.heap.size w X1) := HL.out.trans (hb12.mono HL.out.size)
    have HEx := hide9 (And.intro eX1 evb)
    have HV := hide9 hV
    have Hm1 := hide9 hm1
    have HEA := hide9 eA
    have HEB := hide9 eB
    have Hva1 := hide9 va1
    have Hvb1 := hide9 vb1
    have HndA := hide9 hndA
    have Hmb : Hid (w1.heap.size ≤ mb) := hmb
    clear hx1 hb12 hV hm1 eX1 evb eA eB va1 vb1 hndA hm hmb hb2 HL Ha1 Hb1
    have q9 : (V1.alloc (.cells #[.map (some mb)] 56)).cell? ⟨V1.heap.size, 0, none⟩ = some (.map (some mb)) := (by rw [← HEx.out.1, ← HEx.out.2, cell_of_row _ _ _ _ _ _ HV.out]; rfl)
    gi_wp2_with fail
    clear q9
    rw [← HEx.out.1, ← HEx.out.2]
    clear HEx
    refine ⟨trivial, ?_⟩
    refine (leave_in (n0 - 1) (by omega) G G A B mb a b w.heap.size (w.heap.size + 1) _ Hm1.out HEA.out HEB.out Hva1.out Hvb1.out HndA.out (Nat.le_trans Hsa2.out.1 (by decide))).mono ?_
    rintro e V2 ⟨lv, rfl, ho1, hb3⟩
    have ho2 : OwnPa X1.heap.size V2 lv (lvL A B) := ho1
    clear ho1
    obtain ⟨LL, eLL⟩ : ∃ l, l = lvL A B := ⟨_, rfl⟩
    rw [← eLL] at ho2
    have HLL := hide9 eLL
    clear eLL
    obtain ⟨la, lc, el⟩ := OwnE.form ho2
    subst el
    have Hb3 := hide9 hb3
    have Ho2 : Hid (OwnPa X1.heap.size V2 (.slice la LL.length lc) LL) := ho2
    clear ho2 hb3
    have q8 : (V2.alloc (.cells #[.slice la LL.length lc] 31)).cell? ⟨V2.heap.size, 0, none⟩ = some (.slice la LL.length lc) := (by rw [cell_of_row _ _ _ _ _ _ (heap_alloc_new _ _)]; rfl)
    gi_wp2_with fail
    clear q8
    refine ⟨trivial, ?_⟩
    refine (callsIn_wide.2 (spots_any (w.heap.size + 1) _)).mono ?_
    rintro e W2 ⟨rfl, hw2⟩
    obtain ⟨X2, eX2⟩ : ∃ X, X = V2.alloc (.cells #[.slice la LL.length lc] 31) := ⟨_, rfl⟩
    rw [← eX2] at hw2 ⊢
    obtain ⟨ob, eob⟩ : ∃ n, n = V2.heap.size := ⟨_, rfl⟩
    obtain ⟨pb, epb⟩ : ∃ n, n = X2.heap.size := ⟨_, rfl⟩
    rw [← eob, ← epb]
    obtain ⟨N0, eN0⟩ : ∃ n, n = X1.heap.size := ⟨_, rfl⟩
    have hs2 : X2.heap.size = ob + 1 := (by rw [eX2, eob]; simp)
    have hl2 : N0 ≤ ob := (by rw [eN0, eob]; exact Hb3.out.size)
    have hbx2 : Below V2.heap.size V2 X2 := (by rw [eX2]; exact (Below.refl _ _).alloc (Nat.le_refl _) _)
    have hbw2 : Below X2.heap.size X2 W2 := (by rw [hw2]; exact (Below.refl _ _).alloc (Nat.le_refl _) _)
    have hs3 : W2.heap.size = ob + 2 := (by rw [hw2]; simp; omega)
    have hOb : W2.heap[ob]? = some (.cells #[.slice la LL.length lc] 31) := (hbw2.block _ (by omega)).trans (by rw [eX2, eob]; exact heap_alloc_new _ _)
    have hPb : W2.heap[pb]? = some (.cells #[.pointer (some ⟨w.heap.size + 1, 0, none⟩)] 58) := (by rw [hw2, epb]; exact heap_alloc_new _ _)
    have hb1w : Below X1.heap.size X1 W2 := Hb3.out.trans ((hbx2.trans (hbw2.mono hbx2.size)).mono Hb3.out.size)
    obtain ⟨S, eS⟩ : ∃ S : Nat → Prop, S = fun k => k < N0 := ⟨_, rfl⟩
    have hSl : ∀ k, S k → k < W2.heap.size := fun k q => by (rw [eS] at q; have q9 : k < N0 := q; omega)
    have hS0 : ∀ k, k < X1.heap.size → S k := fun k q => by (rw [eS]; show k < N0; omega)
    have hS1 : ∀ k, S k → k < N0 := fun k q => by (rw [eS] at q; exact q)
    have hva := Hva1.out.turn (w' := W2) hb1w.size (fun k q l => ⟨hS0 k l, hb1w.block k l⟩) (hb1w.block _ (cell_lt Hva1.out.cells9))
    have hvb := Hvb1.out.turn (w' := W2) hb1w.size (fun k q l => ⟨hS0 k l, hb1w.block k l⟩) (hb1w.block _ (cell_lt Hvb1.out.cells9))
    have hSa := hS0 _ (cell_lt Hva1.out.cells9)
    have hSb := hS0 _ (cell_lt Hvb1.out.cells9)
    have hAs := flatS_same Hva1.out hb1w (0, 0) 0
    rw [← HEA.out] at hAs
    have hBs := flatS_same Hvb1.out hb1w (0, 0) 0
    rw [← HEB.out] at hBs
    have HSq := spots_seq (n0 - 1) S W2.heap.size pb (w.heap.size + 1) b W2 hSl (Nat.le_refl _) (by rw [cell_of_row _ _ _ _ _ _ hPb]; rfl) hvb hSb
    rw [hBs] at HSq
    have HAt : Hid (∀ y ∈ A, (VAt S W2 y.t y.b y.o ∧ S y.b) ∧ y.t.at_.length ≤ 4096) := (fun y hy => ⟨(by rw [← hAs] at hy; exact flatS_at hva hSa y hy), Hat.out y.t (by rw [← flatS_t X1 a (0, 0) 0 w.heap.size 0, ← HEA.out]; exact List.mem_map.2 ⟨y, hy, rfl⟩)⟩)
    have HBt : Hid (∀ x ∈ B, (VAt S W2 x.t x.b x.o ∧ S x.b) ∧ x.t.at_.length ≤ 4096 ∧ x.t.ks.length ≤ 8192) := (fun y hy => ⟨(by rw [← hBs] at hy; exact flatS_at hvb hSb y hy), Hbt.out y.t (by rw [← flatS_t X1 b (0, 0) 0 (w.heap.size + 1) 0, ← HEB.out]; exact List.mem_map.2 ⟨y, hy, rfl⟩)⟩)
    have HMp : Hid (S mb ∧ MpS W2 mb A) := ⟨hS0 _ Hm1.out.lt, Hm1.out.keep (hb1w.block _ Hm1.out.lt)⟩
    have HVb : Hid (S vb ∧ W2.cell? ⟨vb, 0, none⟩ = some (.map (some mb))) := ⟨hS0 _ (row_lt HV.out), by rw [World.cell?_of_block (hb1w.block _ (row_lt HV.out)), cell_of_row _ _ _ _ _ _ HV.out]; rfl⟩
    have HN : Hid (N0 ≤ W2.heap.size) := (by show _ ≤ _; omega)
    have HLo : Hid (w.heap.size ≤ N0 ∧ ∀ k, S k → k < N0) := ⟨(by rw [eN0]; exact HL1.out.size), hS1⟩
    have HLN : Hid (LL.length ≤ 16384 ∧ B.length ≤ 8192) := ⟨(by rw [HLL.out]; have h1 := lvL_len A B; have h2 : A.length = a.sz := (by rw [HEA.out, flatS_len]); have := Hsa2.out.1; omega), (by rw [HEB.out, flatS_len]; exact Hsa2.out.2)⟩
    have hbW : Below w.heap.size w W2 := HL1.out.trans (hb1w.mono HL1.out.size)
    have HA0 : DgS w W2 S (B1 ob (.slice la LL.length lc) 31) M0 W2 := ⟨⟨fun k v t e => (by obtain ⟨rfl, rfl, rfl⟩ := B1.ofD e; exact hOb), hbW, KeepsS.refl _ _, hSl, fun k v t e => (by obtain ⟨rfl, rfl, rfl⟩ := B1.ofD e; exact ⟨fun q => by have := hS1 _ q; omega, by have := HLo.out.1; omega, by omega⟩), hbW.size⟩, fun _ _ e => (by cases e), fun _ _ e => (by cases e)⟩
    have HOw0 : OwnPa N0 W2 (.slice la LL.length lc) LL := (by rw [eN0]; exact OwnE.below (OwnE.below Ho2.out hbx2) hbw2)
    have HHB : Hid (ofL A B = LL ++ B.flatMap fun x => ofS A x.t) := (by show _ = _; rw [HLL.out]; rfl)
    clear hAs hBs hva hvb hSa hSb hS0 hS1 eS hb1w hPb hOb hbw2 hbx2 hbW hs2 hs3 hl2 eX2 eob epb eN0 hw2 Hb3 Ho2 HV Hm1 Hva1 Hvb1 HL1 HLL
    gi_wp2
    refine range_K h1n (gf := 52) (lb := #[.pointer (some ⟨pb, 0, none⟩)]) rfl (enters_of Try.func52 (by kernel_rfl) rfl) HSq KpS.trans (fun W l o o' hl ho hc _ => KpS.obj (fun q => by have := hSl l q; omega) ho hc) (Below.refl _ _) (fun _ => rfl)
      (fun k W => ∃ v, DgS w W2 S (B1 ob v 31) M0 W ∧ OwnPa N0 W v (LL ++ (B.take k).flatMap fun x => ofS A x.t)) (fun _ _ _ => False)
      (fun k A9 B9 row ⟨v, h1, h2⟩ hg hr => ⟨v, h1.grown hg hr, OwnE.keep h2 fun j e => (by obtain ⟨c, hc⟩ := own_cellsE h2 e; exact (row_own hc hg (fun r q => (hr r q).2)).trans hc.symm)⟩) (fun c k A9 B9 row hf hg hr => hf.elim) ⟨_, HA0, (by rw [List.take_zero, List.flatMap_nil, List.append_nil]; exact HOw0)⟩
      (fun x a' W => ∃ sb, SbX W2 sb x W ∧ a' = { tmps := #[.agg #[.int .i64 a.k.1, .int .i64 a.k.2, .string a.tg, .string a.tx, .slice aa a.at_.length ca, .slice ak a.ks.length da], .agg #[.int .i64 b.k.1, .int .i64 b.k.2, .string b.tg, .string b.tx, .slice ba b.at_.length cb, .slice bk b.ks.length db], .pointer (some ⟨w.heap.size, 0, none⟩), .pointer (some ⟨w.heap.size + 1, 0, none⟩), .slice none 0 0, .int .i64 0, .int .i64 0, .pointer (some ⟨vb, 0, none⟩), .pointer (some ⟨ob, 0, none⟩), .pointer (some ⟨sb, 0, none⟩), .agg #[.int .i64 a.k.1, .int .i64 a.k.2, .string a.tg, .string a.tx, .slice aa a.at_.length ca, .slice ak a.ks.length da], .agg #[.int .i64 b.k.1, .int .i64 b.k.2, .string b.tg, .string b.tx, .slice ba b.at_.length cb, .slice bk b.ks.length db], .int .i64 0, .int .i64 0, .bool false, undef, .map (some mb), .map (some mb), .slice la LL.length lc, .func (.func 52) #[] #[.pointer (some ⟨pb, 0, none⟩)], .agg #[.pointer (some ⟨x.b, x.o, none⟩), .int .i64 x.a.1, .int .i64 x.a.2, .int .i64 (x.i : Int)], undef, undef, undef, undef, undef, undef, undef, undef, undef, undef, undef, undef, undef], defers := [] }) (fun x a' u A B row ⟨sb, h1, h5⟩ hg hr => ⟨sb, h1.grown hg (fun r e => (hr r e).2), h5⟩) ?assign ?body ?done ?stop
    clear HA0 HOw0
    case assign =>
      rintro l k hk W K ⟨v, hA, hO⟩ hK
      obtain ⟨x, ex⟩ : ∃ x, x = B[k] := ⟨_, rfl⟩
      rw [← ex] at hK ⊢
      clear ex
      have Hz : Hid ((W.alloc (.cells #[.pointer none, .int .i64 0, .int .i64 0, .int .i64 0] 64)).heap[W.heap.size]? = some (.cells #[.pointer none, .int .i64 0, .int .i64 0, .int .i64 0] 64)) := heap_alloc_new _ _
      obtain ⟨Wn, eW⟩ : ∃ X, X = (W.alloc (.cells #[.pointer none, .int .i64 0, .int .i64 0, .int .i64 0] 64)).setRow W.heap.size #[.pointer (some ⟨x.b, x.o, none⟩), .int .i64 x.a.1, .int .i64 x.a.2, .int .i64 (x.i : Int)] := ⟨_, rfl⟩
      have hb : Below W.heap.size W Wn := (by rw [eW]; exact ((Below.refl _ _).alloc (Nat.le_refl _) _).grown (grown_setRow _ _ _) (by simp) (fun k e => by cases e; exact Nat.le_refl _))
      obtain ⟨sb, esb⟩ : ∃ n, n = W.heap.size := ⟨_, rfl⟩
      have hsx : SbX W2 sb x Wn := ⟨by rw [eW, esb]; exact setRow_same Hz.out, by rw [esb]; exact hA.rn.kp.1⟩
      have HFin : Hid (∀ a' : Act, _ → K a' Wn) := fun a' ha => hK a' Wn (keepsFrom_below hb) (hA.kp0 hb) (⟨v, hA.below hb, OwnE.below hO hb⟩) ⟨sb, hsx, ha⟩
      have HEw := hide9 (And.intro eW esb)
      clear hK hb hsx eW esb hA hO
      simp only [encS] at *
      gi_wp2_with (refine wpListIn_store_rowS rfl 64 (.tmp 9) (.tmp 20) rfl W.heap.size 64 #[.pointer none, .int .i64 0, .int .i64 0, .int .i64 0] #[.pointer (some ⟨x.b, x.o, none⟩), .int .i64 x.a.1, .int .i64 x.a.2, .int .i64 (x.i : Int)] rfl rfl Hz.out sizeSp rfl (by simp [Value.oneCell']) ?_)
      rw [← HEw.out.1, ← HEw.out.2]
      exact HFin.out _ rfl
    case body =>
      rintro l k hk a' W hlD ⟨v, hdg, how⟩ ⟨sb, hsx, rfl⟩
      have hx9 := HBt.out B[k] (List.getElem_mem hk)
      have hD : (LL ++ (B.take (k + 1)).flatMap fun x => ofS A x.t) = (LL ++ (B.take k).flatMap fun x => ofS A x.t) ++ ofS A B[k].t := (by rw [List.take_succ_eq_append_getElem hk, List.flatMap_append, List.append_assoc]; simp)
      have hLl : (LL ++ (B.take k).flatMap fun x => ofS A x.t).length ≤ 201359360 := (by rw [List.length_append]; have h1 := ofP_len (A := A) (fun y hy => (HAt.out y hy).2) (B.take k) (fun x hx => (HBt.out x (List.mem_of_mem_take hx)).2); rw [List.length_take] at h1; have := HLN.out; have h7 : min k B.length ≤ 8192 := (by omega); omega)
      obtain ⟨R, eR⟩ : ∃ R, R = (LL ++ (B.take k).flatMap fun x => ofS A x.t) := ⟨_, rfl⟩
      rw [← eR] at how hD hLl
      obtain ⟨x, ex⟩ : ∃ x, x = B[k] := ⟨_, rfl⟩
      rw [← ex] at hx9 hD hsx
      obtain ⟨va, vc, ev⟩ := OwnE.form how
      subst ev
      have HC : Hid (OfS w W2 N0 S ob (.slice va R.length vc) (R) W W) := ⟨hdg, how, HLo.out, KeepsFrom.refl _ _, KpS.refl _ _ _⟩
      have HSb : Hid (SbX W2 sb x W) := hsx
      have HX := hide9 hx9
      have HD := hide9 hD
      have HRl : Hid (R.length ≤ 201359360) := hLl
      have HLs := hide9 (ofS_len (A := A) (x := x.t) (fun y hy => (HAt.out y hy).2) hx9.2)
      clear hx9 hD eR ex hdg how hsx hLl
      gi_wp2
      have HC0 : Hid (OfS w W2 N0 S ob (.slice va R.length vc) (R) W W) := HC
      have HSb0 : Hid (SbX W2 sb x W) := HSb
      have hDg : Hid (DgS w W2 S (B1 ob (.slice va R.length vc) 31) M0 W) := HC.out.dg
      refine region_round_held (S := fun W' => KeepsS (fun k => S k ∨ k = sb) W W') l (by kernel_rfl) (by kernel_rfl) (lets_then (lets_block lets_roundK)) (KeepsS.of_below (Below.refl W.heap.size W).drew (fun k q => by rcases q with q | rfl; exact Nat.lt_of_lt_of_le (HC0.out.dg.rn.sl k q) HC0.out.dg.rn.kp.1; exact row_lt HSb0.out.1)) (fun hHeld => ?_)
      obtain ⟨Uf1u0, eW⟩ : ∃ X, X = W.drew := ⟨_, rfl⟩
      have hb : Below W.heap.size W Uf1u0 := by rw [eW]; exact (Below.refl _ _).drew
      replace HC : Hid (OfS w W2 N0 S ob (.slice va R.length vc) (R) W Uf1u0) := HC.out.below hb
      replace HSb : Hid (SbX W2 sb x Uf1u0) := HSb.out.below hb
      replace hDg : Hid (DgS w W2 S (B1 ob (.slice va R.length vc) 31) M0 Uf1u0) := hDg.out.below hb
      rw [← eW] at hHeld ⊢
      clear eW hb
      refine tkW 1 (some 22) (v := ?_) ?_ hHeld ?_
      rotate_left
      · (intro ww hSw; (try dsimp only at hSw); have q0 : ww.cell? ⟨vb, 0, none⟩ = some (.map (some mb)) := (hSw.cell (p := ⟨vb, 0, none⟩) (.inl HVb.out.1)).trans ((HC0.out.dg.rn.kp.cell (p := ⟨vb, 0, none⟩) HVb.out.1).trans HVb.out.2); go_simp; try with_reducible rfl)
      refine tkW 2 (some 23) (v := ?_) ?_ hHeld ?_
      rotate_left
      · (intro ww _; go_simp; try with_reducible rfl)
      refine tkW 3 (some 24) (v := ?_) ?_ hHeld ?_
      rotate_left
      · (intro ww hSw; (try dsimp only at hSw); obtain ⟨z0, z1, z2, z3⟩ := row4 ((hSw.2 sb (.inr rfl)).trans HSb0.out.1); go_simp; try with_reducible rfl)
      refine wpAnyH_ready (rs := [0, 4]) (by kernel_rfl) (by simp) ?_
      refine AllReadyH.cons (o := ⟨some 21, _, _, _, _, _⟩) rfl (fun K hK => ?_) (AllReadyH.cons (o := ⟨some 25, _, _, _, _, _⟩) rfl (fun K hK => ?_) AllReadyH.nil)
      · have q0 := hDg.out.rn.cell (B1.at _ _ _)
        go_simp
        refine hK.out _ _ (hHeld) (fun hHeld2 => ?_)
        clear hK K hHeld
        have hHeld := hHeld2
        clear hHeld2
        (try simp only [Act.put, List.setIfInBounds_toArray, List.set_cons_zero, List.set_cons_succ])
        clear q0
        refine wpAnyH_ready (rs := [4]) (by kernel_rfl) (by simp) ?_
        refine AllReadyH.cons (o := ⟨some 25, _, _, _, _, _⟩) rfl (fun K hK => ?_) AllReadyH.nil
        go_simp
        refine (write_any S A mb x.b x.o x.t _ (HMp.out.2.keep (HC.out.dg.rn.kp.2 mb HMp.out.1)) (fun y hy => ⟨(HAt.out y hy).1.1.turn HC.out.dg.rn.kp.1 (fun k q l => ⟨q, HC.out.dg.rn.kp.2 k q⟩) (HC.out.dg.rn.kp.2 _ (HAt.out y hy).1.2), Nat.le_trans (HAt.out y hy).2 (by decide)⟩) (HX.out.1.1.turn HC.out.dg.rn.kp.1 (fun k q l => ⟨q, HC.out.dg.rn.kp.2 k q⟩) (HC.out.dg.rn.kp.2 _ HX.out.1.2)) (Nat.le_trans HX.out.2.1 (by decide))).mono ?_
        rintro e Uf1u2 ⟨av, rfl, ho9, hb⟩
        have hkp : KeepsS (fun k => S k ∨ k = sb) W Uf1u2 := hHeld.trans (KeepsS.of_below hb (fun j q => by rcases q with q | rfl; exact Nat.lt_of_lt_of_le (HC.out.dg.rn.sl j q) HC.out.dg.rn.kp.1; exact row_lt HSb.out.1))
        have HO : Hid (OwnPa N0 Uf1u2 av (wrL A x.t)) := OwnE.low ho9 (Nat.le_trans HN.out HC.out.dg.rn.kp.1)
        replace HC := hide9 (HC.out.below hb)
        replace hDg := hide9 HC.out.dg
        replace HSb := hide9 (HSb.out.below hb)
        clear ho9 hb
        (try go_wp2_with fail)
        refine hK.out _ _ (hkp) (fun hHeld2 => ?_)
        clear hK K hHeld
        have hHeld := hHeld2
        clear hHeld2
        (try simp only [Act.put, List.setIfInBounds_toArray, List.set_cons_zero, List.set_cons_succ])
        clear hkp
        refine wpAnyH_ready (rs := [5]) (by kernel_rfl) (by simp) ?_
        refine AllReadyH.cons (o := ⟨some 26, _, _, _, _, _⟩) rfl (fun K hK => ?_) AllReadyH.nil
        refine step_appPs rfl _ _ (by rfl) N0 (.slice va R.length vc) av (R) (wrL A x.t) (by rfl) HC.out.ow (by rfl) (OwnE.lsE pzLen HO.out (Nat.le_trans (HLs.out.1) (by decide)) (fun _ _ => trivial : ∀ k, _ → (fun _ => True) k)) (by have h9 := HLs.out.1; have := HRl.out; omega) (Nat.le_trans HN.out HC.out.dg.rn.kp.1) ?_
        intro vv Uf1u3 hov hgv
        obtain ⟨Zf, eZ⟩ : ∃ l, l = (R) ++ (wrL A x.t) := ⟨_, rfl⟩
        rw [← eZ] at hov
        have HZf := hide9 eZ
        clear eZ
        obtain ⟨sgf, scf, evv⟩ := OwnE.form hov
        subst evv
        have hC9 := HC.out.push hgv hov
        obtain ⟨hd9, hk9, _⟩ := HC.out.mid hgv
        have hkp : KeepsS (fun k => S k ∨ k = sb) W Uf1u3 := hHeld.trans ⟨hk9.1, fun j q => by rcases q with q | rfl; exact hk9.2 j (.inl q); exact hk9.2 _ (.inr ⟨HSb.out.2, _, _, _, HSb.out.1, .inr rfl⟩)⟩
        replace HSb := hide9 (HSb.out.kp hk9)
        replace hDg := hide9 hd9
        replace HC := hide9 hC9
        clear hov hgv hC9 hd9 hk9 HO
        refine hK.out _ _ (hkp) (fun hHeld2 => ?_)
        clear hK K hHeld
        have hHeld := hHeld2
        clear hHeld2
        (try simp only [Act.put, List.setIfInBounds_toArray, List.set_cons_zero, List.set_cons_succ])
        clear hkp
        refine wpAnyH_ready (rs := [6]) (by kernel_rfl) (by simp) ?_
        refine AllReadyH.cons (o := ⟨none, _, _, _, _, _⟩) rfl (fun K hK => ?_) AllReadyH.nil
        have q0 := hDg.out.rn.cell (B1.at _ _ _)
        have q1 := hDg.out.rn.free (B1.at _ _ _)
        have hkn3 := hDg.out.kpB (B1.at _ _ _) (.slice sgf Zf.length scf)
        have hkp : KeepsS (fun k => S k ∨ k = sb) W (Uf1u3.setCell ⟨ob, 0, none⟩ (.slice sgf Zf.length scf)) := hHeld.trans ⟨hkn3.1, fun j q => by rcases q with q | rfl; exact hkn3.2 j (.inl q); exact hkn3.2 _ (.inr ⟨HSb.out.2, _, _, _, HSb.out.1, .inr rfl⟩)⟩
        replace HSb := hide9 (HSb.out.kp hkn3)
        clear hkn3
        go_simp
        refine hK.out _ _ (hkp) (fun hHeld2 => ?_)
        clear hK K hHeld
        have hHeld := hHeld2
        clear hHeld2
        (try simp only [Act.put, List.setIfInBounds_toArray, List.set_cons_zero, List.set_cons_succ])
        clear q0 q1 hkp hDg
        refine wpAnyH_done (by kernel_rfl) ?_ _
        clear hHeld HC0 HSb0
        gi_wp2
        obtain ⟨WA, eWA⟩ : ∃ X, X = (Uf1u3.setCell ⟨ob, 0, none⟩ (.slice sgf Zf.length scf)) := ⟨_, rfl⟩
        rw [← eWA] at HC HSb ⊢
        replace HRl : Hid (Zf.length ≤ 201367554) := (by have h1 := HRl.out; have h2 := HLs.out.1; show _ ≤ _; rw [HZf.out, List.length_append]; omega)
        clear eWA
        have HC0 : Hid (OfS w W2 N0 S ob (.slice sgf Zf.length scf) (Zf) W WA) := HC
        have HSb0 : Hid (SbX W2 sb x WA) := HSb
        have hDg : Hid (DgS w W2 S (B1 ob (.slice sgf Zf.length scf) 31) M0 WA) := HC.out.dg
        refine region_round_held (S := fun W' => KeepsS (fun k => S k ∨ k = sb) WA W') l (by kernel_rfl) (by kernel_rfl) (lets_block lets_roundK) (KeepsS.of_below (Below.refl WA.heap.size WA).drew (fun k q => by rcases q with q | rfl; exact Nat.lt_of_lt_of_le (HC0.out.dg.rn.sl k q) HC0.out.dg.rn.kp.1; exact row_lt HSb0.out.1)) (fun hHeld => ?_)
        obtain ⟨Ug2u0, eW⟩ : ∃ X, X = WA.drew := ⟨_, rfl⟩
        have hb : Below WA.heap.size WA Ug2u0 := by rw [eW]; exact (Below.refl _ _).drew
        replace HC : Hid (OfS w W2 N0 S ob (.slice sgf Zf.length scf) (Zf) W Ug2u0) := HC.out.below hb
        replace HSb : Hid (SbX W2 sb x Ug2u0) := HSb.out.below hb
        replace hDg : Hid (DgS w W2 S (B1 ob (.slice sgf Zf.length scf) 31) M0 Ug2u0) := hDg.out.below hb
        rw [← eW] at hHeld ⊢
        clear eW hb
        refine tkW 1 (some 28) (v := ?_) ?_ hHeld ?_
        rotate_left
        · (intro ww hSw; (try dsimp only at hSw); have q0 : ww.cell? ⟨vb, 0, none⟩ = some (.map (some mb)) := (hSw.cell (p := ⟨vb, 0, none⟩) (.inl HVb.out.1)).trans ((HC0.out.dg.rn.kp.cell (p := ⟨vb, 0, none⟩) HVb.out.1).trans HVb.out.2); go_simp; try with_reducible rfl)
        refine tkW 2 (some 29) (v := ?_) ?_ hHeld ?_
        rotate_left
        · (intro ww _; go_simp; try with_reducible rfl)
        refine tkW 3 (some 30) (v := ?_) ?_ hHeld ?_
        rotate_left
        · (intro ww hSw; (try dsimp only at hSw); obtain ⟨z0, z1, z2, z3⟩ := row4 ((hSw.2 sb (.inr rfl)).trans HSb0.out.1); go_simp; try with_reducible rfl)
        refine wpAnyH_ready (rs := [0, 4]) (by kernel_rfl) (by simp) ?_
        refine AllReadyH.cons (o := ⟨some 27, _, _, _, _, _⟩) rfl (fun K hK => ?_) (AllReadyH.cons (o := ⟨some 31, _, _, _, _, _⟩) rfl (fun K hK => ?_) AllReadyH.nil)
        · have q0 := hDg.out.rn.cell (B1.at _ _ _)
          go_simp
          refine hK.out _ _ (hHeld) (fun hHeld2 => ?_)
          clear hK K hHeld
          have hHeld := hHeld2
          clear hHeld2
          (try simp only [Act.put, List.setIfInBounds_toArray, List.set_cons_zero, List.set_cons_succ])
          clear q0
          refine wpAnyH_ready (rs := [4]) (by kernel_rfl) (by simp) ?_
          refine AllReadyH.cons (o := ⟨some 31, _, _, _, _, _⟩) rfl (fun K hK => ?_) AllReadyH.nil
          go_simp
          refine (place_any S A mb x.b x.o x.t _ (HMp.out.2.keep (HC.out.dg.rn.kp.2 mb HMp.out.1)) (HX.out.1.1.turn HC.out.dg.rn.kp.1 (fun k q l => ⟨q, HC.out.dg.rn.kp.2 k q⟩) (HC.out.dg.rn.kp.2 _ HX.out.1.2)) (Nat.le_trans HX.out.2.2 (by decide))).mono ?_
          rintro e Ug2u2 ⟨av, rfl, ho9, hb⟩
          have hkp : KeepsS (fun k => S k ∨ k = sb) WA Ug2u2 := hHeld.trans (KeepsS.of_below hb (fun j q => by rcases q with q | rfl; exact Nat.lt_of_lt_of_le (HC.out.dg.rn.sl j q) HC.out.dg.rn.kp.1; exact row_lt HSb.out.1))
          have HO : Hid (OwnPa N0 Ug2u2 av (plL A (shL A x.t) x.t.k (0, 0) x.t.ks)) := OwnE.low ho9 (Nat.le_trans HN.out HC.out.dg.rn.kp.1)
          replace HC := hide9 (HC.out.below hb)
          replace hDg := hide9 HC.out.dg
          replace HSb := hide9 (HSb.out.below hb)
          clear ho9 hb
          (try go_wp2_with fail)
          refine hK.out _ _ (hkp) (fun hHeld2 => ?_)
          clear hK K hHeld
          have hHeld := hHeld2
          clear hHeld2
          (try simp only [Act.put, List.setIfInBounds_toArray, List.set_cons_zero, List.set_cons_succ])
          clear hkp
          refine wpAnyH_ready (rs := [5]) (by kernel_rfl) (by simp) ?_
          refine AllReadyH.cons (o := ⟨some 32, _, _, _, _, _⟩) rfl (fun K hK => ?_) AllReadyH.nil
          refine step_appPs rfl _ _ (by rfl) N0 (.slice sgf Zf.length scf) av (Zf) (plL A (shL A x.t) x.t.k (0, 0) x.t.ks) (by rfl) HC.out.ow (by rfl) (OwnE.lsE pzLen HO.out (Nat.le_trans (HLs.out.2) (by decide)) (fun _ _ => trivial : ∀ k, _ → (fun _ => True) k)) (by have h9 := HLs.out.2; have := HRl.out; omega) (Nat.le_trans HN.out HC.out.dg.rn.kp.1) ?_
          intro vv Ug2u3 hov hgv
          obtain ⟨Zg, eZ⟩ : ∃ l, l = (Zf) ++ (plL A (shL A x.t) x.t.k (0, 0) x.t.ks) := ⟨_, rfl⟩
          rw [← eZ] at hov
          have HZg := hide9 eZ
          clear eZ
          obtain ⟨sgg, scg, evv⟩ := OwnE.form hov
          subst evv
          have hC9 := HC.out.push hgv hov
          obtain ⟨hd9, hk9, _⟩ := HC.out.mid hgv
          have hkp : KeepsS (fun k => S k ∨ k = sb) WA Ug2u3 := hHeld.trans ⟨hk9.1, fun j q => by rcases q with q | rfl; exact hk9.2 j (.inl q); exact hk9.2 _ (.inr ⟨HSb.out.2, _, _, _, HSb.out.1, .inr rfl⟩)⟩
          replace HSb := hide9 (HSb.out.kp hk9)
          replace hDg := hide9 hd9
          replace HC := hide9 hC9
          clear hov hgv hC9 hd9 hk9 HO
          refine hK.out _ _ (hkp) (fun hHeld2 => ?_)
          clear hK K hHeld
          have hHeld := hHeld2
          clear hHeld2
          (try simp only [Act.put, List.setIfInBounds_toArray, List.set_cons_zero, List.set_cons_succ])
          clear hkp
          refine wpAnyH_ready (rs := [6]) (by kernel_rfl) (by simp) ?_
          refine AllReadyH.cons (o := ⟨none, _, _, _, _, _⟩) rfl (fun K hK => ?_) AllReadyH.nil
          have q0 := hDg.out.rn.cell (B1.at _ _ _)
          have q1 := hDg.out.rn.free (B1.at _ _ _)
          have hkn3 := hDg.out.kpB (B1.at _ _ _) (.slice sgg Zg.length scg)
          have hkp : KeepsS (fun k => S k ∨ k = sb) WA (Ug2u3.setCell ⟨ob, 0, none⟩ (.slice sgg Zg.length scg)) := hHeld.trans ⟨hkn3.1, fun j q => by rcases q with q | rfl; exact hkn3.2 j (.inl q); exact hkn3.2 _ (.inr ⟨HSb.out.2, _, _, _, HSb.out.1, .inr rfl⟩)⟩
          replace HSb := hide9 (HSb.out.kp hkn3)
          clear hkn3
          go_simp
          refine hK.out _ _ (hkp) (fun hHeld2 => ?_)
          clear hK K hHeld
          have hHeld := hHeld2
          clear hHeld2
          (try simp only [Act.put, List.setIfInBounds_toArray, List.set_cons_zero, List.set_cons_succ])
          clear q0 q1 hkp hDg
          refine wpAnyH_done (by kernel_rfl) ?_ _
          clear hHeld HC0 HSb0
          gi_wp2
          exact ⟨HC.out.kf, HC.out.kn, _, HC.out.dg, (by rw [HD.out]; unfold ofS; rw [← List.append_assoc, ← HZf.out, ← HZg.out]; exact HC.out.ow)⟩
        · go_simp
          refine (place_any S A mb x.b x.o x.t _ (HMp.out.2.keep (HC.out.dg.rn.kp.2 mb HMp.out.1)) (HX.out.1.1.turn HC.out.dg.rn.kp.1 (fun k q l => ⟨q, HC.out.dg.rn.kp.2 k q⟩) (HC.out.dg.rn.kp.2 _ HX.out.1.2)) (Nat.le_trans HX.out.2.2 (by decide))).mono ?_
          rintro e Ug2u5 ⟨av, rfl, ho9, hb⟩
          have hkp : KeepsS (fun k => S k ∨ k = sb) WA Ug2u5 := hHeld.trans (KeepsS.of_below hb (fun j q => by rcases q with q | rfl; exact Nat.lt_of_lt_of_le (HC.out.dg.rn.sl j q) HC.out.dg.rn.kp.1; exact row_lt HSb.out.1))
          have HO : Hid (OwnPa N0 Ug2u5 av (plL A (shL A x.t) x.t.k (0, 0) x.t.ks)) := OwnE.low ho9 (Nat.le_trans HN.out HC.out.dg.rn.kp.1)
          replace HC := hide9 (HC.out.below hb)
          replace hDg := hide9 HC.out.dg
          replace HSb := hide9 (HSb.out.below hb)
          clear ho9 hb
          (try go_wp2_with fail)
          refine hK.out _ _ (hkp) (fun hHeld2 => ?_)
          clear hK K hHeld
          have hHeld := hHeld2
          clear hHeld2
          (try simp only [Act.put, List.setIfInBounds_toArray, List.set_cons_zero, List.set_cons_succ])
          clear hkp
          refine wpAnyH_ready (rs := [0]) (by kernel_rfl) (by simp) ?_
          refine AllReadyH.cons (o := ⟨some 27, _, _, _, _, _⟩) rfl (fun K hK => ?_) AllReadyH.nil
          have q0 := hDg.out.rn.cell (B1.at _ _ _)
          go_simp
          refine hK.out _ _ (hHeld) (fun hHeld2 => ?_)
          clear hK K hHeld
          have hHeld := hHeld2
          clear hHeld2
          (try simp only [Act.put, List.setIfInBounds_toArray, List.set_cons_zero, List.set_cons_succ])
          clear q0
          refine wpAnyH_ready (rs := [5]) (by kernel_rfl) (by simp) ?_
          refine AllReadyH.cons (o := ⟨some 32, _, _, _, _, _⟩) rfl (fun K hK => ?_) AllReadyH.nil
          refine step_appPs rfl _ _ (by rfl) N0 (.slice sgf Zf.length scf) av (Zf) (plL A (shL A x.t) x.t.k (0, 0) x.t.ks) (by rfl) HC.out.ow (by rfl) (OwnE.lsE pzLen HO.out (Nat.le_trans (HLs.out.2) (by decide)) (fun _ _ => trivial : ∀ k, _ → (fun _ => True) k)) (by have h9 := HLs.out.2; have := HRl.out; omega) (Nat.le_trans HN.out HC.out.dg.rn.kp.1) ?_
          intro vv Ug2u7 hov hgv
          obtain ⟨Zg, eZ⟩ : ∃ l, l = (Zf) ++ (plL A (shL A x.t) x.t.k (0, 0) x.t.ks) := ⟨_, rfl⟩
          rw [← eZ] at hov
          have HZg := hide9 eZ
          clear eZ
          obtain ⟨sgg, scg, evv⟩ := OwnE.form hov
          subst evv
          have hC9 := HC.out.push hgv hov
          obtain ⟨hd9, hk9, _⟩ := HC.out.mid hgv
          have hkp : KeepsS (fun k => S k ∨ k = sb) WA Ug2u7 := hHeld.trans ⟨hk9.1, fun j q => by rcases q with q | rfl; exact hk9.2 j (.inl q); exact hk9.2 _ (.inr ⟨HSb.out.2, _, _, _, HSb.out.1, .inr rfl⟩)⟩
          replace HSb := hide9 (HSb.out.kp hk9)
          replace hDg := hide9 hd9
          replace HC := hide9 hC9
          clear hov hgv hC9 hd9 hk9 HO
          refine hK.out _ _ (hkp) (fun hHeld2 => ?_)
          clear hK K hHeld
          have hHeld := hHeld2
          clear hHeld2
          (try simp only [Act.put, List.setIfInBounds_toArray, List.set_cons_zero, List.set_cons_succ])
          clear hkp
          refine wpAnyH_ready (rs := [6]) (by kernel_rfl) (by simp) ?_
          refine AllReadyH.cons (o := ⟨none, _, _, _, _, _⟩) rfl (fun K hK => ?_) AllReadyH.nil
          have q0 := hDg.out.rn.cell (B1.at _ _ _)
          have q1 := hDg.out.rn.free (B1.at _ _ _)
          have hkn3 := hDg.out.kpB (B1.at _ _ _) (.slice sgg Zg.length scg)
          have hkp : KeepsS (fun k => S k ∨ k = sb) WA (Ug2u7.setCell ⟨ob, 0, none⟩ (.slice sgg Zg.length scg)) := hHeld.trans ⟨hkn3.1, fun j q => by rcases q with q | rfl; exact hkn3.2 j (.inl q); exact hkn3.2 _ (.inr ⟨HSb.out.2, _, _, _, HSb.out.1, .inr rfl⟩)⟩
          replace HSb := hide9 (HSb.out.kp hkn3)
          clear hkn3
          go_simp
          refine hK.out _ _ (hkp) (fun hHeld2 => ?_)
          clear hK K hHeld
          have hHeld := hHeld2
          clear hHeld2
          (try simp only [Act.put, List.setIfInBounds_toArray, List.set_cons_zero, List.set_cons_succ])
          clear q0 q1 hkp hDg
          refine wpAnyH_done (by kernel_rfl) ?_ _
          clear hHeld HC0 HSb0
          gi_wp2
          exact ⟨HC.out.kf, HC.out.kn, _, HC.out.dg, (by rw [HD.out]; unfold ofS; rw [← List.append_assoc, ← HZf.out, ← HZg.out]; exact HC.out.ow)⟩
      · go_simp
        refine (write_any S A mb x.b x.o x.t _ (HMp.out.2.keep (HC.out.dg.rn.kp.2 mb HMp.out.1)) (fun y hy => ⟨(HAt.out y hy).1.1.turn HC.out.dg.rn.kp.1 (fun k q l => ⟨q, HC.out.dg.rn.kp.2 k q⟩) (HC.out.dg.rn.kp.2 _ (HAt.out y hy).1.2), Nat.le_trans (HAt.out y hy).2 (by decide)⟩) (HX.out.1.1.turn HC.out.dg.rn.kp.1 (fun k q l => ⟨q, HC.out.dg.rn.kp.2 k q⟩) (HC.out.dg.rn.kp.2 _ HX.out.1.2)) (Nat.le_trans HX.out.2.1 (by decide))).mono ?_
        rintro e Uf1u5 ⟨av, rfl, ho9, hb⟩
        have hkp : KeepsS (fun k => S k ∨ k = sb) W Uf1u5 := hHeld.trans (KeepsS.of_below hb (fun j q => by rcases q with q | rfl; exact Nat.lt_of_lt_of_le (HC.out.dg.rn.sl j q) HC.out.dg.rn.kp.1; exact row_lt HSb.out.1))
        have HO : Hid (OwnPa N0 Uf1u5 av (wrL A x.t)) := OwnE.low ho9 (Nat.le_trans HN.out HC.out.dg.rn.kp.1)
        replace HC := hide9 (HC.out.below hb)
        replace hDg := hide9 HC.out.dg
        replace HSb := hide9 (HSb.out.below hb)
        clear ho9 hb
        (try go_wp2_with fail)
        refine hK.out _ _ (hkp) (fun hHeld2 => ?_)
        clear hK K hHeld
        have hHeld := hHeld2
        clear hHeld2
        (try simp only [Act.put, List.setIfInBounds_toArray, List.set_cons_zero, List.set_cons_succ])
        clear hkp
        refine wpAnyH_ready (rs := [0]) (by kernel_rfl) (by simp) ?_
        refine AllReadyH.cons (o := ⟨some 21, _, _, _, _, _⟩) rfl (fun K hK => ?_) AllReadyH.nil
        have q0 := hDg.out.rn.cell (B1.at _ _ _)
        go_simp
        refine hK.out _ _ (hHeld) (fun hHeld2 => ?_)
        clear hK K hHeld
        have hHeld := hHeld2
        clear hHeld2
        (try simp only [Act.put, List.setIfInBounds_toArray, List.set_cons_zero, List.set_cons_succ])
        clear q0
        refine wpAnyH_ready (rs := [5]) (by kernel_rfl) (by simp) ?_
        refine AllReadyH.cons (o := ⟨some 26, _, _, _, _, _⟩) rfl (fun K hK => ?_) AllReadyH.nil
        refine step_appPs rfl _ _ (by rfl) N0 (.slice va R.length vc) av (R) (wrL A x.t) (by rfl) HC.out.ow (by rfl) (OwnE.lsE pzLen HO.out (Nat.le_trans (HLs.out.1) (by decide)) (fun _ _ => trivial : ∀ k, _ → (fun _ => True) k)) (by have h9 := HLs.out.1; have := HRl.out; omega) (Nat.le_trans HN.out HC.out.dg.rn.kp.1) ?_
        intro vv Uf1u7 hov hgv
        obtain ⟨Zf, eZ⟩ : ∃ l, l = (R) ++ (wrL A x.t) := ⟨_, rfl⟩
        rw [← eZ] at hov
        have HZf := hide9 eZ
        clear eZ
        obtain ⟨sgf, scf, evv⟩ := OwnE.form hov
        subst evv
        have hC9 := HC.out.push hgv hov
        obtain ⟨hd9, hk9, _⟩ := HC.out.mid hgv
        have hkp : KeepsS (fun k => S k ∨ k = sb) W Uf1u7 := hHeld.trans ⟨hk9.1, fun j q => by rcases q with q | rfl; exact hk9.2 j (.inl q); exact hk9.2 _ (.inr ⟨HSb.out.2, _, _, _, HSb.out.1, .inr rfl⟩)⟩
        replace HSb := hide9 (HSb.out.kp hk9)
        replace hDg := hide9 hd9
        replace HC := hide9 hC9
        clear hov hgv hC9 hd9 hk9 HO
        refine hK.out _ _ (hkp) (fun hHeld2 => ?_)
        clear hK K hHeld
        have hHeld := hHeld2
        clear hHeld2
        (try simp only [Act.put, List.setIfInBounds_toArray, List.set_cons_zero, List.set_cons_succ])
        clear hkp
        refine wpAnyH_ready (rs := [6]) (by kernel_rfl) (by simp) ?_
        refine AllReadyH.cons (o := ⟨none, _, _, _, _, _⟩) rfl (fun K hK => ?_) AllReadyH.nil
        have q0 := hDg.out.rn.cell (B1.at _ _ _)
        have q1 := hDg.out.rn.free (B1.at _ _ _)
        have hkn3 := hDg.out.kpB (B1.at _ _ _) (.slice sgf Zf.length scf)
        have hkp : KeepsS (fun k => S k ∨ k = sb) W (Uf1u7.setCell ⟨ob, 0, none⟩ (.slice sgf Zf.length scf)) := hHeld.trans ⟨hkn3.1, fun j q => by rcases q with q | rfl; exact hkn3.2 j (.inl q); exact hkn3.2 _ (.inr ⟨HSb.out.2, _, _, _, HSb.out.1, .inr rfl⟩)⟩
        replace HSb := hide9 (HSb.out.kp hkn3)
        clear hkn3
        go_simp
        refine hK.out _ _ (hkp) (fun hHeld2 => ?_)
        clear hK K hHeld
        have hHeld := hHeld2
        clear hHeld2
        (try simp only [Act.put, List.setIfInBounds_toArray, List.set_cons_zero, List.set_cons_succ])
        clear q0 q1 hkp hDg
        refine wpAnyH_done (by kernel_rfl) ?_ _
        clear hHeld HC0 HSb0
        gi_wp2
        obtain ⟨WA, eWA⟩ : ∃ X, X = (Uf1u7.setCell ⟨ob, 0, none⟩ (.slice sgf Zf.length scf)) := ⟨_, rfl⟩
        rw [← eWA] at HC HSb ⊢
        replace HRl : Hid (Zf.length ≤ 201367554) := (by have h1 := HRl.out; have h2 := HLs.out.1; show _ ≤ _; rw [HZf.out, List.length_append]; omega)
        clear eWA
        have HC0 : Hid (OfS w W2 N0 S ob (.slice sgf Zf.length scf) (Zf) W WA) := HC
        have HSb0 : Hid (SbX W2 sb x WA) := HSb
        have hDg : Hid (DgS w W2 S (B1 ob (.slice sgf Zf.length scf) 31) M0 WA) := HC.out.dg
        refine region_round_held (S := fun W' => KeepsS (fun k => S k ∨ k = sb) WA W') l (by kernel_rfl) (by kernel_rfl) (lets_block lets_roundK) (KeepsS.of_below (Below.refl WA.heap.size WA).drew (fun k q => by rcases q with q | rfl; exact Nat.lt_of_lt_of_le (HC0.out.dg.rn.sl k q) HC0.out.dg.rn.kp.1; exact row_lt HSb0.out.1)) (fun hHeld => ?_)
        obtain ⟨Ug3u0, eW⟩ : ∃ X, X = WA.drew := ⟨_, rfl⟩
        have hb : Below WA.heap.size WA Ug3u0 := by rw [eW]; exact (Below.refl _ _).drew
        replace HC : Hid (OfS w W2 N0 S ob (.slice sgf Zf.length scf) (Zf) W Ug3u0) := HC.out.below hb
        replace HSb : Hid (SbX W2 sb x Ug3u0) := HSb.out.below hb
        replace hDg : Hid (DgS w W2 S (B1 ob (.slice sgf Zf.length scf) 31) M0 Ug3u0) := hDg.out.below hb
        rw [← eW] at hHeld ⊢
        clear eW hb
        refine tkW 1 (some 28) (v := ?_) ?_ hHeld ?_
        rotate_left
        · (intro ww hSw; (try dsimp only at hSw); have q0 : ww.cell? ⟨vb, 0, none⟩ = some (.map (some mb)) := (hSw.cell (p := ⟨vb, 0, none⟩) (.inl HVb.out.1)).trans ((HC0.out.dg.rn.kp.cell (p := ⟨vb, 0, none⟩) HVb.out.1).trans HVb.out.2); go_simp; try with_reducible rfl)
        refine tkW 2 (some 29) (v := ?_) ?_ hHeld ?_
        rotate_left
        · (intro ww _; go_simp; try with_reducible rfl)
        refine tkW 3 (some 30) (v := ?_) ?_ hHeld ?_
        rotate_left
        · (intro ww hSw; (try dsimp only at hSw); obtain ⟨z0, z1, z2, z3⟩ := row4 ((hSw.2 sb (.inr rfl)).trans HSb0.out.1); go_simp; try with_reducible rfl)
        refine wpAnyH_ready (rs := [0, 4]) (by kernel_rfl) (by simp) ?_
        refine AllReadyH.cons (o := ⟨some 27, _, _, _, _, _⟩) rfl (fun K hK => ?_) (AllReadyH.cons (o := ⟨some 31, _, _, _, _, _⟩) rfl (fun K hK => ?_) AllReadyH.nil)
        · have q0 := hDg.out.rn.cell (B1.at _ _ _)
          go_simp
          refine hK.out _ _ (hHeld) (fun hHeld2 => ?_)
          clear hK K hHeld
          have hHeld := hHeld2
          clear hHeld2
          (try simp only [Act.put, List.setIfInBounds_toArray, List.set_cons_zero, List.set_cons_succ])
          clear q0
          refine wpAnyH_ready (rs := [4]) (by kernel_rfl) (by simp) ?_
          refine AllReadyH.cons (o := ⟨some 31, _, _, _, _, _⟩) rfl (fun K hK => ?_) AllReadyH.nil
          go_simp
          refine (place_any S A mb x.b x.o x.t _ (HMp.out.2.keep (HC.out.dg.rn.kp.2 mb HMp.out.1)) (HX.out.1.1.turn HC.out.dg.rn.kp.1 (fun k q l => ⟨q, HC.out.dg.rn.kp.2 k q⟩) (HC.out.dg.rn.kp.2 _ HX.out.1.2)) (Nat.le_trans HX.out.2.2 (by decide))).mono ?_
          rintro e Ug3u2 ⟨av, rfl, ho9, hb⟩
          have hkp : KeepsS (fun k => S k ∨ k = sb) WA Ug3u2 := hHeld.trans (KeepsS.of_below hb (fun j q => by rcases q with q | rfl; exact Nat.lt_of_lt_of_le (HC.out.dg.rn.sl j q) HC.out.dg.rn.kp.1; exact row_lt HSb.out.1))
          have HO : Hid (OwnPa N0 Ug3u2 av (plL A (shL A x.t) x.t.k (0, 0) x.t.ks)) := OwnE.low ho9 (Nat.le_trans HN.out HC.out.dg.rn.kp.1)
          replace HC := hide9 (HC.out.below hb)
          replace hDg := hide9 HC.out.dg
          replace HSb := hide9 (HSb.out.below hb)
          clear ho9 hb
          (try go_wp2_with fail)
          refine hK.out _ _ (hkp) (fun hHeld2 => ?_)
          clear hK K hHeld
          have hHeld := hHeld2
          clear hHeld2
          (try simp only [Act.put, List.setIfInBounds_toArray, List.set_cons_zero, List.set_cons_succ])
          clear hkp
          refine wpAnyH_ready (rs := [5]) (by kernel_rfl) (by simp) ?_
          refine AllReadyH.cons (o := ⟨some 32, _, _, _, _, _⟩) rfl (fun K hK => ?_) AllReadyH.nil
          refine step_appPs rfl _ _ (by rfl) N0 (.slice sgf Zf.length scf) av (Zf) (plL A (shL A x.t) x.t.k (0, 0) x.t.ks) (by rfl) HC.out.ow (by rfl) (OwnE.lsE pzLen HO.out (Nat.le_trans (HLs.out.2) (by decide)) (fun _ _ => trivial : ∀ k, _ → (fun _ => True) k)) (by have h9 := HLs.out.2; have := HRl.out; omega) (Nat.le_trans HN.out HC.out.dg.rn.kp.1) ?_
          intro vv Ug3u3 hov hgv
          obtain ⟨Zg, eZ⟩ : ∃ l, l = (Zf) ++ (plL A (shL A x.t) x.t.k (0, 0) x.t.ks) := ⟨_, rfl⟩
          rw [← eZ] at hov
          have HZg := hide9 eZ
          clear eZ
          obtain ⟨sgg, scg, evv⟩ := OwnE.form hov
          subst evv
          have hC9 := HC.out.push hgv hov
          obtain ⟨hd9, hk9, _⟩ := HC.out.mid hgv
          have hkp : KeepsS (fun k => S k ∨ k = sb) WA Ug3u3 := hHeld.trans ⟨hk9.1, fun j q => by rcases q with q | rfl; exact hk9.2 j (.inl q); exact hk9.2 _ (.inr ⟨HSb.out.2, _, _, _, HSb.out.1, .inr rfl⟩)⟩
          replace HSb := hide9 (HSb.out.kp hk9)
          replace hDg := hide9 hd9
          replace HC := hide9 hC9
          clear hov hgv hC9 hd9 hk9 HO
          refine hK.out _ _ (hkp) (fun hHeld2 => ?_)
          clear hK K hHeld
          have hHeld := hHeld2
          clear hHeld2
          (try simp only [Act.put, List.setIfInBounds_toArray, List.set_cons_zero, List.set_cons_succ])
          clear hkp
          refine wpAnyH_ready (rs := [6]) (by kernel_rfl) (by simp) ?_
          refine AllReadyH.cons (o := ⟨none, _, _, _, _, _⟩) rfl (fun K hK => ?_) AllReadyH.nil
          have q0 := hDg.out.rn.cell (B1.at _ _ _)
          have q1 := hDg.out.rn.free (B1.at _ _ _)
          have hkn3 := hDg.out.kpB (B1.at _ _ _) (.slice sgg Zg.length scg)
          have hkp : KeepsS (fun k => S k ∨ k = sb) WA (Ug3u3.setCell ⟨ob, 0, none⟩ (.slice sgg Zg.length scg)) := hHeld.trans ⟨hkn3.1, fun j q => by rcases q with q | rfl; exact hkn3.2 j (.inl q); exact hkn3.2 _ (.inr ⟨HSb.out.2, _, _, _, HSb.out.1, .inr rfl⟩)⟩
          replace HSb := hide9 (HSb.out.kp hkn3)
          clear hkn3
          go_simp
          refine hK.out _ _ (hkp) (fun hHeld2 => ?_)
          clear hK K hHeld
          have hHeld := hHeld2
          clear hHeld2
          (try simp only [Act.put, List.setIfInBounds_toArray, List.set_cons_zero, List.set_cons_succ])
          clear q0 q1 hkp hDg
          refine wpAnyH_done (by kernel_rfl) ?_ _
          clear hHeld HC0 HSb0
          gi_wp2
          exact ⟨HC.out.kf, HC.out.kn, _, HC.out.dg, (by rw [HD.out]; unfold ofS; rw [← List.append_assoc, ← HZf.out, ← HZg.out]; exact HC.out.ow)⟩
        · go_simp
          refine (place_any S A mb x.b x.o x.t _ (HMp.out.2.keep (HC.out.dg.rn.kp.2 mb HMp.out.1)) (HX.out.1.1.turn HC.out.dg.rn.kp.1 (fun k q l => ⟨q, HC.out.dg.rn.kp.2 k q⟩) (HC.out.dg.rn.kp.2 _ HX.out.1.2)) (Nat.le_trans HX.out.2.2 (by decide))).mono ?_
          rintro e Ug3u5 ⟨av, rfl, ho9, hb⟩
          have hkp : KeepsS (fun k => S k ∨ k = sb) WA Ug3u5 := hHeld.trans (KeepsS.of_below hb (fun j q => by rcases q with q | rfl; exact Nat.lt_of_lt_of_le (HC.out.dg.rn.sl j q) HC.out.dg.rn.kp.1; exact row_lt HSb.out.1))
          have HO : Hid (OwnPa N0 Ug3u5 av (plL A (shL A x.t) x.t.k (0, 0) x.t.ks)) := OwnE.low ho9 (Nat.le_trans HN.out HC.out.dg.rn.kp.1)
          replace HC := hide9 (HC.out.below hb)
          replace hDg := hide9 HC.out.dg
          replace HSb := hide9 (HSb.out.below hb)
          clear ho9 hb
          (try go_wp2_with fail)
          refine hK.out _ _ (hkp) (fun hHeld2 => ?_)
          clear hK K hHeld
          have hHeld := hHeld2
          clear hHeld2
          (try simp only [Act.put, List.setIfInBounds_toArray, List.set_cons_zero, List.set_cons_succ])
          clear hkp
          refine wpAnyH_ready (rs := [0]) (by kernel_rfl) (by simp) ?_
          refine AllReadyH.cons (o := ⟨some 27, _, _, _, _, _⟩) rfl (fun K hK => ?_) AllReadyH.nil
          have q0 := hDg.out.rn.cell (B1.at _ _ _)
          go_simp
          refine hK.out _ _ (hHeld) (fun hHeld2 => ?_)
          clear hK K hHeld
          have hHeld := hHeld2
          clear hHeld2
          (try simp only [Act.put, List.setIfInBounds_toArray, List.set_cons_zero, List.set_cons_succ])
          clear q0
          refine wpAnyH_ready (rs := [5]) (by kernel_rfl) (by simp) ?_
          refine AllReadyH.cons (o := ⟨some 32, _, _, _, _, _⟩) rfl (fun K hK => ?_) AllReadyH.nil
          refine step_appPs rfl _ _ (by rfl) N0 (.slice sgf Zf.length scf) av (Zf) (plL A (shL A x.t) x.t.k (0, 0) x.t.ks) (by rfl) HC.out.ow (by rfl) (OwnE.lsE pzLen HO.out (Nat.le_trans (HLs.out.2) (by decide)) (fun _ _ => trivial : ∀ k, _ → (fun _ => True) k)) (by have h9 := HLs.out.2; have := HRl.out; omega) (Nat.le_trans HN.out HC.out.dg.rn.kp.1) ?_
          intro vv Ug3u7 hov hgv
          obtain ⟨Zg, eZ⟩ : ∃ l, l = (Zf) ++ (plL A (shL A x.t) x.t.k (0, 0) x.t.ks) := ⟨_, rfl⟩
          rw [← eZ] at hov
          have HZg := hide9 eZ
          clear eZ
          obtain ⟨sgg, scg, evv⟩ := OwnE.form hov
          subst evv
          have hC9 := HC.out.push hgv hov
          obtain ⟨hd9, hk9, _⟩ := HC.out.mid hgv
          have hkp : KeepsS (fun k => S k ∨ k = sb) WA Ug3u7 := hHeld.trans ⟨hk9.1, fun j q => by rcases q with q | rfl; exact hk9.2 j (.inl q); exact hk9.2 _ (.inr ⟨HSb.out.2, _, _, _, HSb.out.1, .inr rfl⟩)⟩
          replace HSb := hide9 (HSb.out.kp hk9)
          replace hDg := hide9 hd9
          replace HC := hide9 hC9
          clear hov hgv hC9 hd9 hk9 HO
          refine hK.out _ _ (hkp) (fun hHeld2 => ?_)
          clear hK K hHeld
          have hHeld := hHeld2
          clear hHeld2
          (try simp only [Act.put, List.setIfInBounds_toArray, List.set_cons_zero, List.set_cons_succ])
          clear hkp
          refine wpAnyH_ready (rs := [6]) (by kernel_rfl) (by simp) ?_
          refine AllReadyH.cons (o := ⟨none, _, _, _, _, _⟩) rfl (fun K hK => ?_) AllReadyH.nil
          have q0 := hDg.out.rn.cell (B1.at _ _ _)
          have q1 := hDg.out.rn.free (B1.at _ _ _)
          have hkn3 := hDg.out.kpB (B1.at _ _ _) (.slice sgg Zg.length scg)
          have hkp : KeepsS (fun k => S k ∨ k = sb) WA (Ug3u7.setCell ⟨ob, 0, none⟩ (.slice sgg Zg.length scg)) := hHeld.trans ⟨hkn3.1, fun j q => by rcases q with q | rfl; exact hkn3.2 j (.inl q); exact hkn3.2 _ (.inr ⟨HSb.out.2, _, _, _, HSb.out.1, .inr rfl⟩)⟩
          replace HSb := hide9 (HSb.out.kp hkn3)
          clear hkn3
          go_simp
          refine hK.out _ _ (hkp) (fun hHeld2 => ?_)
          clear hK K hHeld
          have hHeld := hHeld2
          clear hHeld2
          (try simp only [Act.put, List.setIfInBounds_toArray, List.set_cons_zero, List.set_cons_succ])
          clear q0 q1 hkp hDg
          refine wpAnyH_done (by kernel_rfl) ?_ _
          clear hHeld HC0 HSb0
          gi_wp2
          exact ⟨HC.out.kf, HC.out.kn, _, HC.out.dg, (by rw [HD.out]; unfold ofS; rw [← List.append_assoc, ← HZf.out, ← HZg.out]; exact HC.out.ow)⟩
    case done =>
      rintro Dd W hDd ⟨v, hA, hO⟩ hDf
      rw [List.take_length, ← HHB.out] at hO
      have x1 := hA.rn.cell (B1.at _ _ _)
      have HA := hide9 hA
      have HO := hide9 hO
      have HDf := hide9 hDf
      clear hA hO hDf
      gi_wp2
      refine ⟨by simp, .inl ⟨_, _, rfl, run_takeDeferred HDf.out, ?_⟩⟩
      have hE := HA.out.grown (grownBy_putObj' W Dd (.deferred none)) (fun r e => by cases e; exact ⟨hDd, _, HDf.out, rfl⟩)
      have hO2 : OwnPa N0 (W.putObj Dd (.deferred none)) v (ofL A B) := OwnE.keep HO.out fun j e => (by obtain ⟨c, hc⟩ := own_cellsE HO.out e; exact (row_own hc (grownBy_putObj' W Dd (.deferred none)) (fun r q => by cases q; exact ⟨_, HDf.out, rfl⟩)).trans hc.symm)
      rw [HEA.out, HEB.out] at hO2
      exact ⟨_, results_tmp2 rfl _ _ _, v, _, rfl, (by unfold OfP; rw [if_pos Hwy.out]; exact ⟨rfl, _, _, _, OwnE.low hO2 HLo.out.1⟩), hE.rn.bel⟩
    case stop =>
      rintro D9 c k W hD hk hf; exact hf.elim
  · have Hy : Hid (cy ≠ 0) := hy
    gi_wp2
    exact ⟨_, results_tmp2 rfl _ _ _, ⟨_, _, rfl, (by unfold OfP; rw [← Hcy.out, if_neg Hy.out]; exact ⟨rfl, rfl⟩), HL.out⟩⟩
end Go.Proofs.Ythhnglpkfcmjiaa

namespace Go.Proofs.Ythhnglpkfcmjiaa
open Go.RowKit Go.Shelf
set_option linter.unusedVariables false
set_option linter.unusedSimpArgs false
/-- An entry beneath another one, at a place. -/
def Und (z x : Sd) : Prop := ∃ (j : Nat) (h : j < z.t.ks.length), z.t.ks[j] = x.t ∧ x.a = z.t.k ∧ x.i = j
theorem flatS_up_n (w : World) : ∀ (n : Nat), (∀ t u i b o, VT.sz t ≤ n → ∀ x ∈ flatS w t u i b o, x = ⟨u, i, b, o, t⟩ ∨ ∃ z ∈ flatS w t u i b o, Und z x) ∧ (∀ l u i b o, szs l ≤ n → ∀ x ∈ flatsS w l u i b o, (∃ (j : Nat) (h : j < l.length), x.t = l[j] ∧ x.a = u ∧ x.i = i + j) ∨ ∃ z ∈ flatsS w l u i b o, Und z x)
  | 0 => ⟨fun t u i b o h => by have := t.sz_pos; omega, fun l u i b o h => by
      cases l with
      | nil => intro x hx; simp [flatsS] at hx
      | cons y r => have := y.sz_pos; rw [szs] at h; omega⟩
  | n + 1 => by
    have ih := flatS_up_n w n
    have h1 : ∀ t u i b o, VT.sz t ≤ n + 1 → ∀ x ∈ flatS w t u i b o, x = ⟨u, i, b, o, t⟩ ∨ ∃ z ∈ flatS w t u i b o, Und z x := fun t u i b o h x hx => by
      rw [flatS_eq] at hx ⊢
      rcases List.mem_cons.1 hx with rfl | hx
      · exact .inl rfl
      · right
        rcases ih.2 _ _ _ _ _ (by have := t.sz_eq; omega) x hx with ⟨j, hj, e1, e2, e3⟩ | ⟨z, hz, hu⟩
        · exact ⟨_, List.mem_cons_self .., j, hj, e1.symm, e2, by omega⟩
        · exact ⟨z, List.mem_cons_of_mem _ hz, hu⟩
    refine ⟨h1, fun l => ?_⟩
    induction l with
    | nil => intro u i b o _ x hx; simp [flatsS] at hx
    | cons y r ihr =>
      intro u i b o h x hx
      rw [szs] at h
      rw [flatsS] at hx ⊢
      rcases List.mem_append.1 hx with hx | hx
      · rcases h1 y u i b o (by omega) x hx with rfl | ⟨z, hz, hu⟩
        · exact .inl ⟨0, by simp, rfl, rfl, rfl⟩
        · exact .inr ⟨z, List.mem_append_left _ hz, hu⟩
      · rcases ihr u (i + 1) b (o + 6) (by omega) x hx with ⟨j, hj, e1, e2, e3⟩ | ⟨z, hz, hu⟩
        · exact .inl ⟨j + 1, by simpa using hj, by simpa using e1, e2, by omega⟩
        · exact .inr ⟨z, List.mem_append_right _ hz, hu⟩
theorem flatS_up {w : World} {t : VT} {u : St} {i b o : Nat} {x : Sd} (hx : x ∈ flatS w t u i b o) : x = ⟨u, i, b, o, t⟩ ∨ ∃ z ∈ flatS w t u i b o, Und z x := (flatS_up_n w t.sz).1 t u i b o (Nat.le_refl _) x hx
theorem flatS_dn_n (w : World) : ∀ (n : Nat), (∀ t u i b o, VT.sz t ≤ n → ∀ z ∈ flatS w t u i b o, ∀ (j : Nat) (h : j < z.t.ks.length), ∃ x ∈ flatS w t u i b o, x.t = z.t.ks[j] ∧ x.a = z.t.k ∧ x.i = j) ∧ (∀ l u i b o, szs l ≤ n → (∀ (j : Nat) (h : j < l.length), ∃ x ∈ flatsS w l u i b o, x.t = l[j] ∧ x.a = u ∧ x.i = i + j) ∧ ∀ z ∈ flatsS w l u i b o, ∀ (j : Nat) (h : j < z.t.ks.length), ∃ x ∈ flatsS w l u i b o, x.t = z.t.ks[j] ∧ x.a = z.t.k ∧ x.i = j)
  | 0 => ⟨fun t u i b o h => by have := t.sz_pos; omega, fun l u i b o h => by
      cases l with
      | nil => exact ⟨fun j h => by simp at h, fun z hz => by simp [flatsS] at hz⟩
      | cons y r => have := y.sz_pos; rw [szs] at h; omega⟩
  | n + 1 => by
    have ih := flatS_dn_n w n
    have h1 : ∀ t u i b o, VT.sz t ≤ n + 1 → ∀ z ∈ flatS w t u i b o, ∀ (j : Nat) (h : j < z.t.ks.length), ∃ x ∈ flatS w t u i b o, x.t = z.t.ks[j] ∧ x.a = z.t.k ∧ x.i = j := fun t u i b o h z hz j hj => by
      rw [flatS_eq] at hz ⊢
      obtain ⟨h2, h3⟩ := ih.2 t.ks t.k 0 (kbo w b o).1 (kbo w b o).2 (by have := t.sz_eq; omega)
      rcases List.mem_cons.1 hz with rfl | hz
      · obtain ⟨x, hx, e1, e2, e3⟩ := h2 j hj
        exact ⟨x, List.mem_cons_of_mem _ hx, e1, e2, by omega⟩
      · obtain ⟨x, hx, e⟩ := h3 z hz j hj
        exact ⟨x, List.mem_cons_of_mem _ hx, e⟩
    refine ⟨h1, fun l => ?_⟩
    induction l with
    | nil => intro u i b o _; exact ⟨fun j h => by simp at h, fun z hz => by simp [flatsS] at hz⟩
    | cons y r ihr =>
      intro u i b o h
      rw [szs] at h
      obtain ⟨h2, h3⟩ := ihr u (i + 1) b (o + 6) (by omega)
      rw [flatsS]
      refine ⟨fun j hj => ?_, fun z hz j hj => ?_⟩
      · cases j with
        | zero => exact ⟨⟨u, i, b, o, y⟩, List.mem_append_left _ (by rw [flatS_eq]; exact List.mem_cons_self ..), rfl, rfl, rfl⟩
        | succ j =>
          obtain ⟨x, hx, e1, e2, e3⟩ := h2 j (by simpa using hj)
          exact ⟨x, List.mem_append_right _ hx, by simpa using e1, e2, by omega⟩
      · rcases List.mem_append.1 hz with hz | hz
        · obtain ⟨x, hx, e⟩ := h1 y u i b o (by omega) z hz j hj
          exact ⟨x, List.mem_append_left _ hx, e⟩
        · obtain ⟨x, hx, e⟩ := h3 z hz j hj
          exact ⟨x, List.mem_append_right _ hx, e⟩
theorem flatS_dn {w : World} {t : VT} {u : St} {i b o : Nat} {z : Sd} (hz : z ∈ flatS w t u i b o) {j : Nat} (h : j < z.t.ks.length) : ∃ x ∈ flatS w t u i b o, x.t = z.t.ks[j] ∧ x.a = z.t.k ∧ x.i = j := (flatS_dn_n w t.sz).1 t u i b o (Nat.le_refl _) z hz j h
/-- What a right tree has. -/
theorem chk2_at : ∀ (l : List VT) (seen : List St) (i : Nat), chk2 seen i l = 0 → ∀ x ∈ l, x.at_.length ≤ 4096
  | [], _, _, _ => fun x h => by simp at h
  | x :: r, seen, i, h => by
    rw [chk2] at h
    split at h
    · omega
    · split at h
      · omega
      · split at h
        · rename_i h3
          exact absurd h h3
        · rename_i h3
          intro y hy
          rcases List.mem_cons.1 hy with rfl | hy
          · have h4 : chkN y = 0 := by simpa using h3
            unfold chkN at h4
            split at h4
            · omega
            · split at h4
              · omega
              · rename_i h5; omega
          · exact chk2_at r _ _ h y hy
theorem right_at {t : VT} (h : chkT t = 0) : t.sz ≤ 8192 ∧ ∀ x ∈ flT t, x.at_.length ≤ 4096 := by
  unfold chkT at h
  split at h
  · omega
  · rename_i h1
    rw [chkR_flat] at h
    exact ⟨by omega, chk2_at _ _ _ h⟩
theorem flat_ks {w : World} {t : VT} {u : St} {i b o : Nat} {x : Sd} (hx : x ∈ flatS w t u i b o) : x.t.sz ≤ t.sz := by
  have key : ∀ (n : Nat), (∀ t u i b o, VT.sz t ≤ n → ∀ x ∈ flatS w t u i b o, x.t.sz ≤ t.sz) ∧ (∀ l u i b o, szs l ≤ n → ∀ x ∈ flatsS w l u i b o, x.t.sz ≤ szs l) := fun n => by
    induction n with
    | zero => exact ⟨fun t u i b o h => by have := t.sz_pos; omega, fun l u i b o h => by
        cases l with
        | nil => intro x hx; simp [flatsS] at hx
        | cons y r => have := y.sz_pos; rw [szs] at h; omega⟩
    | succ n ih =>
      have h1 : ∀ t u i b o, VT.sz t ≤ n + 1 → ∀ x ∈ flatS w t u i b o, x.t.sz ≤ t.sz := fun t u i b o h x hx => by
        rw [flatS_eq] at hx
        rcases List.mem_cons.1 hx with rfl | hx
        · exact Nat.le_refl _
        · have := ih.2 _ _ _ _ _ (by have := t.sz_eq; omega) x hx
          have := t.sz_eq; omega
      refine ⟨h1, fun l => ?_⟩
      induction l with
      | nil => intro u i b o _ x hx; simp [flatsS] at hx
      | cons y r ihr =>
        intro u i b o h x hx
        rw [szs] at h
        rw [flatsS] at hx
        rw [szs]
        rcases List.mem_append.1 hx with hx | hx
        · have := h1 y u i b o (by omega) x hx; omega
        · have := ihr u (i + 1) b (o + 6) (by omega) x hx; omega
  exact (key t.sz).1 t u i b o (Nat.le_refl _) x hx
/-- What Of asks of trees that it takes. -/
theorem why_right {a b : VT} (h : whyD a b = 0) : chkT a = 0 ∧ chkT b = 0 ∧ a.k = b.k := by
  unfold whyD at h
  split at h
  · rename_i h1; exact absurd h h1
  · rename_i h1
    split at h
    · rename_i h2; exact absurd h h2
    · rename_i h2
      split at h
      · rename_i h3; exact ⟨by simpa using h1, by simpa using h2, h3⟩
      · omega
theorem why_facts {a b : VT} (h : whyD a b = 0) : ((flT a).map VT.k).Nodup ∧ (a.sz ≤ 8192 ∧ b.sz ≤ 8192) ∧ (∀ x ∈ flT a, x.at_.length ≤ 4096) ∧ (∀ x ∈ flT b, x.at_.length ≤ 4096 ∧ x.ks.length ≤ 8192) := by
  obtain ⟨h1, h2, _⟩ := why_right h
  obtain ⟨s1, t1⟩ := right_at h1
  obtain ⟨s2, t2⟩ := right_at h2
  refine ⟨right_nodup h1, ⟨s1, s2⟩, t1, fun x hx => ⟨t2 x hx, ?_⟩⟩
  rw [← flatS_t default b (0, 0) 0 0 0] at hx
  obtain ⟨y, hy, rfl⟩ := List.mem_map.1 hx
  have h3 := flat_ks hy
  have h4 := szs_len y.t.ks
  have h5 := y.t.sz_eq
  omega
theorem of_any (G : Nat → Prop) (a b : VT) (va vb : Value) (w : World) (ha : VIs G w va a) (hb : VIs G w vb b) (hsa : a.sz ≤ 1048576) (hba : BnA a) (hsb : b.sz ≤ 1048576) (hbb : BnA b) :
    Calls Try.prog 12 #[va, vb] w fun e w' => ∃ v c, e = .returned (.tuple #[v, .int .i64 c]) ∧ OfP a b w v c w' ∧ Below w.heap.size w w' := callsIn_wide.1 (of_in 6 (Nat.le_refl _) G a b va vb w ha hb hsa hba hsb hbb why_facts)
end Go.Proofs.Ythhnglpkfcmjiaa

namespace Go.Proofs.Ythhnglpkfcmjiaa
set_option linter.unusedVariables false
/-- A place that lies in a list. -/
def InL (d : List Int) : Option Nat → Prop
  | none => True
  | some p => p < d.length
theorem atD_app {d e : List Int} {i : Nat} (h : i < d.length) : atD (d ++ e) i = atD d i := by
  unfold atD; rw [List.getD_eq_getElem?_getD, List.getD_eq_getElem?_getD, List.getElem?_append_left h]
theorem atD_last (d : List Int) (n : Int) : atD (d ++ [n]) d.length = n := by
  unfold atD; rw [List.getD_eq_getElem?_getD, List.getElem?_append_right (Nat.le_refl _)]; simp
theorem above_app {d e : List Int} {l : Option Nat} {i : Nat} (hl : InL d l) (hi : i < d.length) : above (d ++ e) l i ↔ above d l i := by
  cases l with
  | none => exact Iff.rfl
  | some p => show atD (d ++ e) p < atD (d ++ e) i ↔ _; rw [atD_app hl, atD_app hi]; exact Iff.rfl
theorem RisF.app {d e : List Int} : ∀ (p : List Int) (l : Option Nat), InL d l → RisF d l p → RisF (d ++ e) l p
  | [], _, _, _ => trivial
  | q :: t, l, hl, ⟨i, hq, hi, hn, ha, hr⟩ => ⟨i, hq, by simp; omega, hn, (above_app hl hi).2 ha, RisF.app t (some i) hi hr⟩
theorem RisF.push {d : List Int} {n : Int} (h : ∀ i, i < d.length → atD d i < n) : ∀ (p : List Int) (l : Option Nat), InL d l → RisF d l p → RisF (d ++ [n]) l (p ++ [(d.length : Int)])
  | [], l, hl, _ => ⟨d.length, rfl, by simp, (by cases l with | none => exact Nat.zero_le _ | some p => exact hl), (by cases l with | none => trivial | some p => show atD (d ++ [n]) p < atD (d ++ [n]) d.length; rw [atD_app hl, atD_last]; exact h p hl), trivial⟩
  | q :: t, l, hl, ⟨i, hq, hi, hn, ha, hr⟩ => ⟨i, hq, by simp; omega, hn, (above_app hl hi).2 ha, RisF.push h t (some i) hi hr⟩
end Go.Proofs.Ythhnglpkfcmjiaa

namespace Go.Proofs.Ythhnglpkfcmjiaa
open Go.RowKit Go.Shelf
set_option linter.unusedVariables false
set_option linter.unusedSimpArgs false
theorem get_of {D : List Sd} (hn : (D.map skU).Nodup) {x : Sd} (hx : x ∈ D) : getP skU D x.t.k = some x := by
  cases h : getP skU D x.t.k with
  | none => exact absurd rfl (getP_not h x hx)
  | some y =>
    obtain ⟨h1, h2⟩ := getP_key h
    rw [sd_uniq hn h1 hx h2]
theorem flat_nodup {w : World} {t : VT} {u : St} {i b o : Nat} (h : ((flT t).map VT.k).Nodup) : ((flatS w t u i b o).map skU).Nodup := by
  have h1 := flatS_t w t u i b o
  rw [← h1, List.map_map] at h
  exact h
end Go.Proofs.Ythhnglpkfcmjiaa

namespace Go.Proofs.Ythhnglpkfcmjiaa
open Go.RowKit Go.Shelf
set_option linter.unusedVariables false
set_option linter.unusedSimpArgs false
theorem kid_sz {t : VT} {j : Nat} (h : j < t.ks.length) : t.ks[j].sz < t.sz := by
  have h1 := t.sz_eq
  have key : ∀ (l : List VT) (j : Nat) (h : j < l.length), l[j].sz ≤ szs l := fun l => by
    induction l with
    | nil => intro j h; simp at h
    | cons x r ih =>
      intro j h
      rw [szs]
      cases j with
      | zero => simp
      | succ j => have := ih j (by simpa using h); simp; omega
  have := key t.ks j h
  omega
section
variable {w : World} {a b : VT} {Ba Bb : Nat}
/-- An entry whose key is not the topmost one's lies beneath another one. -/
theorem und_of {w : World} {a : VT} {Ba : Nat} {x : Sd} (hx : x ∈ flatS w a (0, 0) 0 Ba 0) (h : x.t.k ≠ a.k) : ∃ z ∈ flatS w a (0, 0) 0 Ba 0, Und z x := by
  rcases flatS_up hx with rfl | h1
  · exact absurd rfl h
  · exact h1
theorem und_ne {w : World} {a : VT} {Ba : Nat} (hn : ((flT a).map VT.k).Nodup) {z : Sd} (hz : z ∈ flatS w a (0, 0) 0 Ba 0) {j : Nat} (hj : j < z.t.ks.length) : z.t.ks[j].k ≠ a.k := fun e => by
  obtain ⟨x, hx, e1, e2, e3⟩ := flatS_dn hz hj
  have hr : (⟨(0, 0), 0, Ba, 0, a⟩ : Sd) ∈ flatS w a (0, 0) 0 Ba 0 := by rw [flatS_eq]; exact List.mem_cons_self ..
  have h1 := sd_uniq (flat_nodup hn) hx hr (by unfold skU; rw [e1]; exact e)
  have h2 : x.t = a := by rw [h1]
  have h3 := kid_sz hj
  rw [← e1, h2] at h3
  have h4 := flat_ks hz
  omega
end
end Go.Proofs.Ythhnglpkfcmjiaa

namespace Go.Proofs.Ythhnglpkfcmjiaa
open Go.RowKit Go.Shelf
set_option linter.unusedVariables false
set_option linter.unusedSimpArgs false
def hasT (t : VT) (s : St) : Bool := (fndT t s).isSome
theorem hasT_of {w : World} {t : VT} {B : Nat} {x : Sd} (hx : x ∈ flatS w t (0, 0) 0 B 0) : hasT t x.t.k = true := by
  unfold hasT fndT
  rw [List.find?_isSome]
  exact ⟨x.t, by rw [← flatS_t w t (0, 0) 0 B 0]; exact List.mem_map.2 ⟨x, hx, rfl⟩, by simp⟩
theorem hasT_no {w : World} {t : VT} {B : Nat} {s : St} (h : ∀ x ∈ flatS w t (0, 0) 0 B 0, x.t.k ≠ s) : hasT t s = false := by
  unfold hasT fndT
  rw [Option.isSome_eq_false_iff, Option.isNone_iff_eq_none, List.find?_eq_none]
  intro y hy
  rw [← flatS_t w t (0, 0) 0 B 0] at hy
  obtain ⟨x, hx, rfl⟩ := List.mem_map.1 hy
  simpa using h x hx
theorem hasT_get {w : World} {t : VT} {B : Nat} {s : St} (h : hasT t s = true) : ∃ x ∈ flatS w t (0, 0) 0 B 0, x.t.k = s := by
  unfold hasT fndT at h
  rw [List.find?_isSome] at h
  obtain ⟨y, hy, e⟩ := h
  rw [← flatS_t w t (0, 0) 0 B 0] at hy
  obtain ⟨x, hx, rfl⟩ := List.mem_map.1 hy
  exact ⟨x, hx, by simpa using e⟩
theorem par_und {w : World} {t : VT} {B : Nat} (hn : ((flT t).map VT.k).Nodup) {x : Sd} (hx : x ∈ flatS w t (0, 0) 0 B 0) (h : x.t.k ≠ t.k) : parR [] (flatD t 0) x.t.k = (x.a, true) := by
  obtain ⟨z, hz, j, hj, e1, e2, _⟩ := und_of hx h
  rw [e2]
  refine par_kid hn ?_ (by rw [← e1]; exact List.getElem_mem hj)
  rw [← flatS_t w t (0, 0) 0 B 0]
  exact List.mem_map.2 ⟨z, hz, rfl⟩
theorem root_a {w : World} {t : VT} {B : Nat} (hn : ((flT t).map VT.k).Nodup) {x : Sd} (hx : x ∈ flatS w t (0, 0) 0 B 0) (h : x.t.k = t.k) : x.a = (0, 0) := by
  have hr : (⟨(0, 0), 0, B, 0, t⟩ : Sd) ∈ flatS w t (0, 0) 0 B 0 := by rw [flatS_eq]; exact List.mem_cons_self ..
  rw [sd_uniq (flat_nodup hn) hx hr h]
theorem kids_perm_n (w : World) : ∀ (n : Nat), (∀ t u i b o, VT.sz t ≤ n → (t.k :: (flatS w t u i b o).flatMap fun x => x.t.ks.map VT.k).Perm ((flatS w t u i b o).map skU)) ∧ (∀ l u i b o, szs l ≤ n → (l.map VT.k ++ (flatsS w l u i b o).flatMap fun x => x.t.ks.map VT.k).Perm ((flatsS w l u i b o).map skU))
  | 0 => ⟨fun t _ _ _ _ h => by have := t.sz_pos; omega, fun l _ _ _ _ h => by
      cases l with
      | nil => simp [flatsS]
      | cons x r => have := x.sz_pos; rw [szs] at h; omega⟩
  | n + 1 => by
    have ih := kids_perm_n w n
    have h1 : ∀ t u i b o, VT.sz t ≤ n + 1 → (t.k :: (flatS w t u i b o).flatMap fun x => x.t.ks.map VT.k).Perm ((flatS w t u i b o).map skU) := fun t u i b o h => by
      rw [flatS_eq, List.flatMap_cons, List.map_cons]
      exact List.Perm.cons _ (ih.2 t.ks t.k 0 _ _ (by have := t.sz_eq; omega))
    refine ⟨h1, fun l => ?_⟩
    induction l with
    | nil => intro u i b o _; simp [flatsS]
    | cons x r ihr =>
      intro u i b o h
      rw [szs] at h
      rw [flatsS, List.flatMap_append, List.map_append, List.map_cons]
      refine List.Perm.trans ?_ ((h1 x u i b o (by omega)).append (ihr u (i + 1) b (o + 6) (by omega)))
      rw [List.cons_append, List.cons_append]
      refine List.Perm.cons _ ?_
      rw [← List.append_assoc, ← List.append_assoc]
      exact List.Perm.append_right _ List.perm_append_comm
theorem kids_nodup {w : World} {t : VT} {B : Nat} (hn : ((flT t).map VT.k).Nodup) : ((flatS w t (0, 0) 0 B 0).flatMap fun x => x.t.ks.map VT.k).Nodup := by
  have h1 := (kids_perm_n w t.sz).1 t (0, 0) 0 B 0 (Nat.le_refl _)
  have h2 := (List.Perm.nodup_iff h1).2 (flat_nodup hn)
  rw [List.nodup_cons] at h2
  exact h2.2
section
variable {w : World} {a b : VT} {Ba Bb : Nat}
end
end Go.Proofs.Ythhnglpkfcmjiaa

namespace Go.Proofs.Ythhnglpkfcmjiaa
open Go.RowKit Go.Shelf
set_option linter.unusedVariables false
set_option linter.unusedSimpArgs false
/-- Stands a node of b beneath another one in a? -/
def strB (a b : VT) (s : St) : Bool := hasT a s && (parR [] (flatD b 0) s).2 && decide ((parR [] (flatD b 0) s).1 ≠ (parR [] (flatD a 0) s).1)
def stdB (a b : VT) (s : St) : Bool := hasT a s && !strB a b s
/-- At which places stands a key? -/
def plcF (s : St) : List VT → Nat → List Int
  | [], _ => []
  | x :: r, i => if x.k = s then (i : Int) :: plcF s r (i + 1) else plcF s r (i + 1)
theorem plcF_snoc (s : St) : ∀ (l : List VT) (i : Nat) (x : VT), plcF s (l ++ [x]) i = plcF s l i ++ if x.k = s then [((i + l.length : Nat) : Int)] else []
  | [], i, x => by simp [plcF]
  | y :: r, i, x => by
    rw [List.cons_append, plcF, plcF, plcF_snoc s r (i + 1) x]
    rw [show i + 1 + r.length = i + (y :: r).length by simp; omega]
    split <;> simp
theorem plcF_none {s : St} : ∀ (l : List VT) (i : Nat), (∀ x ∈ l, x.k ≠ s) → plcF s l i = []
  | [], _, _ => rfl
  | x :: r, i, h => by rw [plcF, if_neg (h x (List.mem_cons_self ..)), plcF_none r (i + 1) fun y hy => h y (List.mem_cons_of_mem _ hy)]
theorem plcF_one : ∀ (l : List VT) (i j : Nat) (hj : j < l.length), (l.map VT.k).Nodup → plcF l[j].k l i = [((i + j : Nat) : Int)]
  | [], _, j, hj, _ => by simp at hj
  | x :: r, i, 0, _, h => by
    rw [List.map_cons, List.nodup_cons] at h
    rw [List.getElem_cons_zero, plcF, if_pos rfl, plcF_none r (i + 1) fun y hy e => h.1 (by rw [← e]; exact List.mem_map.2 ⟨y, hy, rfl⟩)]
    rfl
  | x :: r, i, j + 1, hj, h => by
    rw [List.map_cons, List.nodup_cons] at h
    have hj2 : j < r.length := by simpa using hj
    rw [List.getElem_cons_succ, plcF, if_neg (fun e => h.1 (by rw [e]; exact List.mem_map.2 ⟨_, List.getElem_mem hj2, rfl⟩)), plcF_one r (i + 1) j hj2 h.2]
    rw [show i + 1 + j = i + (j + 1) by omega]
/-- Of some kids those that have stayed, and their places. -/
def stK (a b : VT) (ks : List VT) : List St := (ks.map VT.k).filter (stdB a b)
def plD (a b was : VT) (ks : List VT) : List Int := ks.flatMap fun x => if stdB a b x.k then plcF x.k was.ks 0 else []
theorem stK_snoc (a b : VT) (ks : List VT) (x : VT) : stK a b (ks ++ [x]) = stK a b ks ++ if stdB a b x.k then [x.k] else [] := by
  unfold stK
  rw [List.map_append, List.filter_append]
  cases h : stdB a b x.k <;> simp [h]
theorem plD_snoc (a b was : VT) (ks : List VT) (x : VT) : plD a b was (ks ++ [x]) = plD a b was ks ++ if stdB a b x.k then plcF x.k was.ks 0 else [] := by
  unfold plD
  rw [List.flatMap_append]
  simp
theorem stK_len (a b : VT) (ks : List VT) : (stK a b ks).length ≤ ks.length := by unfold stK; exact Nat.le_trans (List.length_filter_le ..) (by simp)
/-- What a node was; a zero one, if it was not there. -/
def wasT (a : VT) (s : St) : VT := (fndT a s).getD tZ
/-- The keys of the kids that are shifted, as the document says. -/
def shD (a b n : VT) : List St := (othL (plD a b (wasT a n.k) n.ks)).map fun i => (stK a b n.ks).getD i.toNat (0, 0)
theorem fnd_of {t x : VT} (h : ((flT t).map VT.k).Nodup) (hx : x ∈ flT t) : fndT t x.k = some x := by
  obtain ⟨i, hi, rfl⟩ := List.getElem_of_mem hx
  exact fnd_node h hi
theorem sd_flT {w : World} {t : VT} {B : Nat} {x : Sd} (hx : x ∈ flatS w t (0, 0) 0 B 0) : x.t ∈ flT t := by
  rw [← flatS_t w t (0, 0) 0 B 0]
  exact List.mem_map.2 ⟨x, hx, rfl⟩
section
variable {w : World} {a b : VT} {Ba Bb : Nat}
theorem ks_nodup {t : VT} {B : Nat} (hn : ((flT t).map VT.k).Nodup) {z : Sd} (hz : z ∈ flatS w t (0, 0) 0 B 0) : (z.t.ks.map VT.k).Nodup := by
  have h1 := kids_nodup (w := w) (B := B) hn
  obtain ⟨i, hi, rfl⟩ := List.getElem_of_mem hz
  rw [← List.take_append_drop i (flatS w t (0, 0) 0 B 0), List.drop_eq_getElem_cons hi, List.flatMap_append, List.flatMap_cons, List.nodup_append, List.nodup_append] at h1
  exact h1.2.1.1
/-- What the map says of a kid of b, and what the document says. -/
theorem std_kid (hna : ((flT a).map VT.k).Nodup) (hnb : ((flT b).map VT.k).Nodup) (hk : a.k = b.k) {n : Sd} (hn : n ∈ flatS w b (0, 0) 0 Bb 0) {x : VT} (hx : x ∈ n.t.ks) :
    (stdB a b x.k = false ∧ stL (flatS w a (0, 0) 0 Ba 0) n.t.k [x] = []) ∨ ∃ i : Int, stdB a b x.k = true ∧ plcF x.k (wasT a n.t.k).ks 0 = [i] ∧ stL (flatS w a (0, 0) 0 Ba 0) n.t.k [x] = [(x.k, i)] := by
  have hpb := par_kid hnb (sd_flT hn) hx
  cases hg : getP skU (flatS w a (0, 0) 0 Ba 0) x.k with
  | none =>
    left
    have h1 : hasT a x.k = false := hasT_no (w := w) (B := Ba) fun z hz => getP_not hg z hz
    exact ⟨by unfold stdB; rw [h1]; rfl, by simp [stL, hg]⟩
  | some y =>
    obtain ⟨hy, hyk⟩ := getP_key hg
    have hyk : y.t.k = x.k := hyk
    have h1 : hasT a x.k = true := by rw [← hyk]; exact hasT_of hy
    have hne : y.t.k ≠ a.k := fun e => by
      obtain ⟨j, hj, rfl⟩ := List.getElem_of_mem hx
      exact und_ne hnb hn hj (by rw [← hyk, e, hk])
    have hpa := par_und hna hy hne
    rw [hyk] at hpa
    by_cases e : y.a = n.t.k
    · right
      obtain ⟨z, hz, j, hj, e1, e2, e3⟩ := und_of hy hne
      have hw : wasT a n.t.k = z.t := by
        unfold wasT
        rw [← e, e2, fnd_of hna (sd_flT hz)]
        rfl
      refine ⟨(y.i : Int), ?_, ?_, ?_⟩
      · unfold stdB strB
        rw [h1, hpb, hpa, e]
        simp
      · rw [hw, ← hyk, ← e1, plcF_one z.t.ks 0 j hj (ks_nodup hna hz), e3]
        simp
      · simp [stL, hg, e]
    · left
      refine ⟨?_, ?_⟩
      · unfold stdB strB
        rw [h1, hpb, hpa]
        have : n.t.k ≠ y.a := fun q => e q.symm
        simp [this]
      · simp [stL, hg, e]
theorem stL_doc (hna : ((flT a).map VT.k).Nodup) (hnb : ((flT b).map VT.k).Nodup) (hk : a.k = b.k) {n : Sd} (hn : n ∈ flatS w b (0, 0) 0 Bb 0) : ∀ l : List VT, (∀ x ∈ l, x ∈ n.t.ks) → (stL (flatS w a (0, 0) 0 Ba 0) n.t.k l).map Prod.fst = stK a b l ∧ (stL (flatS w a (0, 0) 0 Ba 0) n.t.k l).map Prod.snd = plD a b (wasT a n.t.k) l
  | [], _ => ⟨rfl, rfl⟩
  | x :: r, h => by
    obtain ⟨h1, h2⟩ := stL_doc hna hnb hk hn r fun y hy => h y (List.mem_cons_of_mem _ hy)
    have hs : stL (flatS w a (0, 0) 0 Ba 0) n.t.k (x :: r) = stL (flatS w a (0, 0) 0 Ba 0) n.t.k [x] ++ stL (flatS w a (0, 0) 0 Ba 0) n.t.k r := by
      unfold stL
      rw [← List.filterMap_append]
      rfl
    have hk1 : stK a b (x :: r) = (if stdB a b x.k then [x.k] else []) ++ stK a b r := by
      unfold stK
      rw [List.map_cons, List.filter_cons]
      split <;> rfl
    have hp1 : plD a b (wasT a n.t.k) (x :: r) = (if stdB a b x.k then plcF x.k (wasT a n.t.k).ks 0 else []) ++ plD a b (wasT a n.t.k) r := by
      unfold plD
      rw [List.flatMap_cons]
    rw [hs, hk1, hp1, List.map_append, List.map_append, h1, h2]
    rcases std_kid (Ba := Ba) hna hnb hk hn (h x (List.mem_cons_self ..)) with ⟨e1, e2⟩ | ⟨i, e1, e2, e3⟩
    · rw [e2, e1]
      simp
    · rw [e3, e1, if_pos rfl, if_pos rfl, e2]
      simp
theorem shL_doc (hna : ((flT a).map VT.k).Nodup) (hnb : ((flT b).map VT.k).Nodup) (hk : a.k = b.k) {n : Sd} (hn : n ∈ flatS w b (0, 0) 0 Bb 0) : shL (flatS w a (0, 0) 0 Ba 0) n.t = shD a b n.t := by
  obtain ⟨h1, h2⟩ := stL_doc (Ba := Ba) hna hnb hk hn n.t.ks fun _ h => h
  unfold shL shD
  rw [h1, h2]
/-- As many keys as places. -/
theorem plD_len (hna : ((flT a).map VT.k).Nodup) (hnb : ((flT b).map VT.k).Nodup) (hk : a.k = b.k) {n : VT} (hn : n ∈ flT b) : (plD a b (wasT a n.k) n.ks).length = (stK a b n.ks).length := by
  rw [← flatS_t default b (0, 0) 0 0 0] at hn
  obtain ⟨x, hx, rfl⟩ := List.mem_map.1 hn
  obtain ⟨h1, h2⟩ := stL_doc (Ba := 0) hna hnb hk hx x.t.ks fun _ h => h
  rw [← h1, ← h2, List.length_map, List.length_map]
end
end Go.Proofs.Ythhnglpkfcmjiaa

namespace Go.Proofs.Ythhnglpkfcmjiaa
open Go.RowKit Go.Shelf
set_option linter.unusedVariables false
set_option linter.unusedSimpArgs false
attribute [local go_sem] Oper.semAt_some
set_option maxRecDepth 100000 in
set_option maxHeartbeats 4000000 in
theorem in_any (G : Nat → Prop) (t : VT) (s : St) (v : Value) (w : World) (h : VIs G w v t) (hsz : t.sz ≤ 1048576) :
    Calls Try.prog 36 #[v, .agg #[.int .i64 s.1, .int .i64 s.2]] w fun e w' => e = .returned (.bool (hasT t s)) ∧ Below w.heap.size w w' := by
  obtain ⟨aa, ca, ak, da, e1, _⟩ := h.form
  subst e1
  obtain ⟨W0, eW⟩ : ∃ X, X = (w.alloc (.cells #[.int .i64 t.k.1, .int .i64 t.k.2, .string t.tg, .string t.tx, .slice aa t.at_.length ca, .slice ak t.ks.length da] 27)).alloc (.cells #[.int .i64 s.1, .int .i64 s.2] 23) := ⟨_, rfl⟩
  have hb0 : Below w.heap.size w W0 := (by rw [eW]; exact ((Below.refl _ _).alloc (Nat.le_refl _) _).alloc (by simp) _)
  have HR1 : Hid (W0.heap[w.heap.size]? = some (.cells #[.int .i64 t.k.1, .int .i64 t.k.2, .string t.tg, .string t.tx, .slice aa t.at_.length ca, .slice ak t.ks.length da] 27)) := (by show _ = _; rw [eW, Below.heap_alloc _ _ _ (by simp)]; exact heap_alloc_new _ _)
  have HR2 : Hid (W0.heap[w.heap.size + 1]? = some (.cells #[.int .i64 s.1, .int .i64 s.2] 23)) := (by show _ = _; rw [eW]; have h9 := heap_alloc_new (w.alloc (.cells #[.int .i64 t.k.1, .int .i64 t.k.2, .string t.tg, .string t.tx, .slice aa t.at_.length ca, .slice ak t.ks.length da] 27)) (.cells #[.int .i64 s.1, .int .i64 s.2] 23); rw [show (w.alloc (.cells #[.int .i64 t.k.1, .int .i64 t.k.2, .string t.tg, .string t.tx, .slice aa t.at_.length ca, .slice ak t.ks.length da] 27)).heap.size = w.heap.size + 1 by simp] at h9; exact h9)
  have HA : Hid (VIs G W0 (.agg #[.int .i64 t.k.1, .int .i64 t.k.2, .string t.tg, .string t.tx, .slice aa t.at_.length ca, .slice ak t.ks.length da]) t) := h.below hb0
  have HL := hide9 hb0
  have HE := hide9 eW
  clear h hb0 eW
  go_enter Try.func36, Try.ntmps36
  go_upto_region 1 with fail
  rw [← HE.out]
  clear HE
  obtain ⟨y0, y1, y2, y3, y4, y5⟩ := row6d HR1.out
  obtain ⟨z0, z1⟩ := row2d HR2.out
  go_wp2_with fail
  clear y0 y1 y2 y3 y4 y5 z0 z1
  refine (refFind_any G t s _ _ HA.out hsz).mono ?_
  rintro e w1 ⟨x, av, kv, rfl, _, fx, hb1⟩
  have HL1 := hide9 (HL.out.trans (hb1.mono HL.out.size))
  obtain ⟨xa, xc, ex1⟩ := fx.at_.form
  obtain ⟨xk, xd, ex2⟩ := fx.ks.form
  subst ex1 ex2
  clear hb1 HL HA HR1 HR2 fx
  have Hz : Hid ((w1.alloc (.cells #[.int .i64 0, .int .i64 0, .string ⟨#[]⟩, .string ⟨#[]⟩, .slice none 0 0, .slice none 0 0] 27)).heap[w1.heap.size]? = some (.cells #[.int .i64 0, .int .i64 0, .string ⟨#[]⟩, .string ⟨#[]⟩, .slice none 0 0, .slice none 0 0] 27)) := heap_alloc_new _ _
  obtain ⟨W2, eW⟩ : ∃ X, X = (w1.alloc (.cells #[.int .i64 0, .int .i64 0, .string ⟨#[]⟩, .string ⟨#[]⟩, .slice none 0 0, .slice none 0 0] 27)).setRow w1.heap.size #[.int .i64 x.k.1, .int .i64 x.k.2, .string x.tg, .string x.tx, .slice xa x.at_.length xc, .slice xk x.ks.length xd] := ⟨_, rfl⟩
  have hb9 : Below w1.heap.size w1 W2 := (by rw [eW]; exact ((Below.refl _ _).alloc (Nat.le_refl _) _).grown (grown_setRow _ _ _) (by simp) (fun k e => by cases e; exact Nat.le_refl _))
  obtain ⟨xb, enb⟩ : ∃ b, b = w1.heap.size := ⟨_, rfl⟩
  have Hxb : Hid (W2.heap[xb]? = some (.cells #[.int .i64 x.k.1, .int .i64 x.k.2, .string x.tg, .string x.tx, .slice xa x.at_.length xc, .slice xk x.ks.length xd] 27)) := (by show _ = _; rw [eW, enb]; exact setRow_same Hz.out)
  have HE9 := hide9 (And.intro eW enb)
  clear eW enb
  have HL2 := hide9 (HL1.out.trans (hb9.mono HL1.out.size))
  clear hb9 Hxb
  go_wp2_with (refine wpList_store_row rfl 27 (.tmp 5) (.tmp 11) rfl w1.heap.size 27 #[.int .i64 0, .int .i64 0, .string ⟨#[]⟩, .string ⟨#[]⟩, .slice none 0 0, .slice none 0 0] #[.int .i64 x.k.1, .int .i64 x.k.2, .string x.tg, .string x.tx, .slice xa x.at_.length xc, .slice xk x.ks.length xd] rfl rfl Hz.out sizeVy rfl (by simp [Value.oneCell']) ?_; refine StpD.to ?_)
  refine StpD.of ?_
  rw [← HE9.out.1, ← HE9.out.2]
  clear HE9 Hz
  go_wp2
  (try rw [Exit.noGoto_ret])
  go_ret
  exact ⟨rfl, HL2.out⟩
set_option maxRecDepth 100000 in
set_option maxHeartbeats 4000000 in
theorem strange_any (G G2 : Nat → Prop) (a b : VT) (s : St) (va vb : Value) (w : World) (ha : VIs G w va a) (hb : VIs G2 w vb b) (hsa : a.sz ≤ 1048576) (hsb : b.sz ≤ 1048576) :
    Calls Try.prog 37 #[va, vb, .agg #[.int .i64 s.1, .int .i64 s.2]] w fun e w' => e = .returned (.bool (strB a b s)) ∧ Below w.heap.size w w' := by
  obtain ⟨aa, ca, ak, da, e1, _⟩ := ha.form
  obtain ⟨ba, cb, bk, db, e2, _⟩ := hb.form
  subst e1 e2
  obtain ⟨W0, eW⟩ : ∃ X, X = ((w.alloc (.cells #[.int .i64 a.k.1, .int .i64 a.k.2, .string a.tg, .string a.tx, .slice aa a.at_.length ca, .slice ak a.ks.length da] 27)).alloc (.cells #[.int .i64 b.k.1, .int .i64 b.k.2, .string b.tg, .string b.tx, .slice ba b.at_.length cb, .slice bk b.ks.length db] 27)).alloc (.cells #[.int .i64 s.1, .int .i64 s.2] 23) := ⟨_, rfl⟩
  have hb0 : Below w.heap.size w W0 := (by rw [eW]; exact (((Below.refl _ _).alloc (Nat.le_refl _) _).alloc (by simp) _).alloc (by simp; omega) _)
  have HR1 : Hid (W0.heap[w.heap.size]? = some (.cells #[.int .i64 a.k.1, .int .i64 a.k.2, .string a.tg, .string a.tx, .slice aa a.at_.length ca, .slice ak a.ks.length da] 27)) := (by show _ = _; rw [eW, Below.heap_alloc _ _ _ (by simp; omega), Below.heap_alloc _ _ _ (by simp)]; exact heap_alloc_new _ _)
  have HR2 : Hid (W0.heap[w.heap.size + 1]? = some (.cells #[.int .i64 b.k.1, .int .i64 b.k.2, .string b.tg, .string b.tx, .slice ba b.at_.length cb, .slice bk b.ks.length db] 27)) := (by show _ = _; rw [eW, Below.heap_alloc _ _ _ (by simp)]; have h9 := heap_alloc_new (w.alloc (.cells #[.int .i64 a.k.1, .int .i64 a.k.2, .string a.tg, .string a.tx, .slice aa a.at_.length ca, .slice ak a.ks.length da] 27)) (.cells #[.int .i64 b.k.1, .int .i64 b.k.2, .string b.tg, .string b.tx, .slice ba b.at_.length cb, .slice bk b.ks.length db] 27); rw [show (w.alloc (.cells #[.int .i64 a.k.1, .int .i64 a.k.2, .string a.tg, .string a.tx, .slice aa a.at_.length ca, .slice ak a.ks.length da] 27)).heap.size = w.heap.size + 1 by simp] at h9; exact h9)
  have HR3 : Hid (W0.heap[w.heap.size + 2]? = some (.cells #[.int .i64 s.1, .int .i64 s.2] 23)) := (by show _ = _; rw [eW]; have h9 := heap_alloc_new ((w.alloc (.cells #[.int .i64 a.k.1, .int .i64 a.k.2, .string a.tg, .string a.tx, .slice aa a.at_.length ca, .slice ak a.ks.length da] 27)).alloc (.cells #[.int .i64 b.k.1, .int .i64 b.k.2, .string b.tg, .string b.tx, .slice ba b.at_.length cb, .slice bk b.ks.length db] 27)) (.cells #[.int .i64 s.1, .int .i64 s.2] 23); rw [show ((w.alloc (.cells #[.int .i64 a.k.1, .int .i64 a.k.2, .string a.tg, .string a.tx, .slice aa a.at_.length ca, .slice ak a.ks.length da] 27)).alloc (.cells #[.int .i64 b.k.1, .int .i64 b.k.2, .string b.tg, .string b.tx, .slice ba b.at_.length cb, .slice bk b.ks.length db] 27)).heap.size = w.heap.size + 2 by simp] at h9; exact h9)
  have HA : Hid (VIs G W0 (.agg #[.int .i64 a.k.1, .int .i64 a.k.2, .string a.tg, .string a.tx, .slice aa a.at_.length ca, .slice ak a.ks.length da]) a) := ha.below hb0
  have HB : Hid (VIs G2 W0 (.agg #[.int .i64 b.k.1, .int .i64 b.k.2, .string b.tg, .string b.tx, .slice ba b.at_.length cb, .slice bk b.ks.length db]) b) := hb.below hb0
  have HE := hide9 eW
  have HL := hide9 hb0
  clear eW hb0 ha hb
  go_enter Try.func37, Try.ntmps37
  go_upto_region 1 with fail
  rw [← HE.out]
  clear HE
  obtain ⟨y0, y1, y2, y3, y4, y5⟩ := row6d HR2.out
  obtain ⟨z0, z1⟩ := row2d HR3.out
  go_wp2_with fail
  clear y0 y1 y2 y3 y4 y5 z0 z1
  refine (refParent_any G2 b s _ _ HB.out hsb).mono ?_
  rintro e w1 ⟨rfl, hb1⟩
  obtain ⟨p, ep⟩ : ∃ x, x = parR [] (flatD b 0) s := ⟨_, rfl⟩
  rw [← ep]
  have Hp := hide9 ep
  replace HL := hide9 (HL.out.trans (hb1.mono HL.out.size))
  replace HA := hide9 (HA.out.below hb1)
  replace HR1 := hide9 ((hb1.block _ (row_lt HR1.out)).trans HR1.out)
  replace HR3 := hide9 ((hb1.block _ (row_lt HR3.out)).trans HR3.out)
  clear hb1 ep HB HR2
  have Hz : Hid ((w1.alloc (.cells #[.int .i64 0, .int .i64 0] 23)).heap[w1.heap.size]? = some (.cells #[.int .i64 0, .int .i64 0] 23)) := heap_alloc_new _ _
  obtain ⟨W2, eW⟩ : ∃ X, X = (w1.alloc (.cells #[.int .i64 0, .int .i64 0] 23)).setRow w1.heap.size #[.int .i64 p.1.1, .int .i64 p.1.2] := ⟨_, rfl⟩
  have hb9 : Below w1.heap.size w1 W2 := (by rw [eW]; exact ((Below.refl _ _).alloc (Nat.le_refl _) _).grown (grown_setRow _ _ _) (by simp) (fun k e => by cases e; exact Nat.le_refl _))
  obtain ⟨pb, enb⟩ : ∃ b, b = w1.heap.size := ⟨_, rfl⟩
  have Hpb : Hid (W2.heap[pb]? = some (.cells #[.int .i64 p.1.1, .int .i64 p.1.2] 23)) := (by show _ = _; rw [eW, enb]; exact setRow_same Hz.out)
  have HE9 := hide9 (And.intro eW enb)
  clear eW enb
  replace HL := hide9 (HL.out.trans (hb9.mono HL.out.size))
  replace HA := hide9 (HA.out.below hb9)
  replace HR1 := hide9 ((hb9.block _ (row_lt HR1.out)).trans HR1.out)
  replace HR3 := hide9 ((hb9.block _ (row_lt HR3.out)).trans HR3.out)
  clear hb9
  go_wp2_with (refine wpList_store_row rfl 23 (.tmp 7) (.tmp 15) rfl w1.heap.size 23 #[.int .i64 0, .int .i64 0] #[.int .i64 p.1.1, .int .i64 p.1.2] rfl rfl Hz.out sizeStamp rfl (by simp [Value.oneCell']) ?_; refine StpD.to ?_)
  refine StpD.of ?_
  rw [← HE9.out.1, ← HE9.out.2]
  clear HE9 Hz
  obtain ⟨y0, y1, y2, y3, y4, y5⟩ := row6d HR1.out
  obtain ⟨z0, z1⟩ := row2d HR3.out
  go_wp2_with fail
  clear y0 y1 y2 y3 y4 y5 z0 z1
  refine (refParent_any G a s _ _ HA.out hsa).mono ?_
  rintro e w3 ⟨rfl, hb1⟩
  obtain ⟨q, eq⟩ : ∃ x, x = parR [] (flatD a 0) s := ⟨_, rfl⟩
  rw [← eq]
  have Hq := hide9 eq
  replace HL := hide9 (HL.out.trans (hb1.mono HL.out.size))
  replace HA := hide9 (HA.out.below hb1)
  replace HR1 := hide9 ((hb1.block _ (row_lt HR1.out)).trans HR1.out)
  replace HR3 := hide9 ((hb1.block _ (row_lt HR3.out)).trans HR3.out)
  replace Hpb := hide9 ((hb1.block _ (row_lt Hpb.out)).trans Hpb.out)
  clear hb1 eq
  have Hz : Hid ((w3.alloc (.cells #[.int .i64 0, .int .i64 0] 23)).heap[w3.heap.size]? = some (.cells #[.int .i64 0, .int .i64 0] 23)) := heap_alloc_new _ _
  obtain ⟨W4, eW⟩ : ∃ X, X = (w3.alloc (.cells #[.int .i64 0, .int .i64 0] 23)).setRow w3.heap.size #[.int .i64 q.1.1, .int .i64 q.1.2] := ⟨_, rfl⟩
  have hb9 : Below w3.heap.size w3 W4 := (by rw [eW]; exact ((Below.refl _ _).alloc (Nat.le_refl _) _).grown (grown_setRow _ _ _) (by simp) (fun k e => by cases e; exact Nat.le_refl _))
  obtain ⟨qb, enb⟩ : ∃ b, b = w3.heap.size := ⟨_, rfl⟩
  have Hqb : Hid (W4.heap[qb]? = some (.cells #[.int .i64 q.1.1, .int .i64 q.1.2] 23)) := (by show _ = _; rw [eW, enb]; exact setRow_same Hz.out)
  have HE9 := hide9 (And.intro eW enb)
  clear eW enb
  replace HL := hide9 (HL.out.trans (hb9.mono HL.out.size))
  replace HA := hide9 (HA.out.below hb9)
  replace HR1 := hide9 ((hb9.block _ (row_lt HR1.out)).trans HR1.out)
  replace HR3 := hide9 ((hb9.block _ (row_lt HR3.out)).trans HR3.out)
  replace Hpb := hide9 ((hb9.block _ (row_lt Hpb.out)).trans Hpb.out)
  clear hb9
  go_wp2_with (refine wpList_store_row rfl 23 (.tmp 9) (.tmp 21) rfl w3.heap.size 23 #[.int .i64 0, .int .i64 0] #[.int .i64 q.1.1, .int .i64 q.1.2] rfl rfl Hz.out sizeStamp rfl (by simp [Value.oneCell']) ?_; refine StpD.to ?_)
  refine StpD.of ?_
  rw [← HE9.out.1, ← HE9.out.2]
  clear HE9 Hz
  obtain ⟨y0, y1, y2, y3, y4, y5⟩ := row6d HR1.out
  obtain ⟨z0, z1⟩ := row2d HR3.out
  go_wp2_with fail
  clear y0 y1 y2 y3 y4 y5 z0 z1
  refine (in_any G a s _ _ HA.out hsa).mono ?_
  rintro e w5 ⟨rfl, hb1⟩
  obtain ⟨ha9, eha⟩ : ∃ v : Bool, hasT a s = v := ⟨_, rfl⟩
  rw [eha]
  have Hha := hide9 eha
  replace HL := hide9 (HL.out.trans (hb1.mono HL.out.size))
  replace Hpb := hide9 ((hb1.block _ (row_lt Hpb.out)).trans Hpb.out)
  replace Hqb := hide9 ((hb1.block _ (row_lt Hqb.out)).trans Hqb.out)
  clear hb1 eha HA HR1 HR3
  obtain ⟨x0, x1⟩ := row2d Hpb.out
  obtain ⟨z0, z1⟩ := row2d Hqb.out
  obtain ⟨eb, heb⟩ : ∃ v : Bool, decide ((p.1.1, p.1.2) = (q.1.1, q.1.2)) = v := ⟨_, rfl⟩
  have hq : ∀ w9 : World, (binOp .neq 23 (.agg #[.int .i64 p.1.1, .int .i64 p.1.2]) (.agg #[.int .i64 q.1.1, .int .i64 q.1.2])).run Try.prog w9 = .ok (.bool (!eb)) w9 := fun w9 => neSt p.1 q.1 eb heb w9
  have Hz : Hid (strB a b s = (ha9 && p.2 && !eb)) := (by show _ = _; unfold strB; rw [Hha.out, ← Hp.out, ← Hq.out]; congr 1; cases eb with | false => (have h9 := of_decide_eq_false heb; exact decide_eq_true (fun e => h9 (by rw [e]))) | true => (have h9 := of_decide_eq_true heb; exact decide_eq_false (fun e => e (Prod.ext (congrArg Prod.fst h9) (congrArg Prod.snd h9)))))
  clear heb Hp Hq Hha
  obtain ⟨⟨p1, p2⟩, pb2⟩ := p
  obtain ⟨⟨q1, q2⟩, qb2⟩ := q
  cases ha9 <;> cases pb2 <;> cases eb
  all_goals (go_wp2; (try rw [Exit.noGoto_ret]); go_ret; exact ⟨(by rw [Hz.out]; rfl), HL.out⟩)
set_option maxRecDepth 100000 in
set_option maxHeartbeats 4000000 in
theorem stayed_any (G G2 : Nat → Prop) (a b : VT) (s : St) (va vb : Value) (w : World) (ha : VIs G w va a) (hb : VIs G2 w vb b) (hsa : a.sz ≤ 1048576) (hsb : b.sz ≤ 1048576) :
    Calls Try.prog 57 #[va, vb, .agg #[.int .i64 s.1, .int .i64 s.2]] w fun e w' => e = .returned (.bool (stdB a b s)) ∧ Below w.heap.size w w' := by
  obtain ⟨aa, ca, ak, da, e1, _⟩ := ha.form
  obtain ⟨ba, cb, bk, db, e2, _⟩ := hb.form
  subst e1 e2
  obtain ⟨W0, eW⟩ : ∃ X, X = ((w.alloc (.cells #[.int .i64 a.k.1, .int .i64 a.k.2, .string a.tg, .string a.tx, .slice aa a.at_.length ca, .slice ak a.ks.length da] 27)).alloc (.cells #[.int .i64 b.k.1, .int .i64 b.k.2, .string b.tg, .string b.tx, .slice ba b.at_.length cb, .slice bk b.ks.length db] 27)).alloc (.cells #[.int .i64 s.1, .int .i64 s.2] 23) := ⟨_, rfl⟩
  have hb0 : Below w.heap.size w W0 := (by rw [eW]; exact (((Below.refl _ _).alloc (Nat.le_refl _) _).alloc (by simp) _).alloc (by simp; omega) _)
  have HR1 : Hid (W0.heap[w.heap.size]? = some (.cells #[.int .i64 a.k.1, .int .i64 a.k.2, .string a.tg, .string a.tx, .slice aa a.at_.length ca, .slice ak a.ks.length da] 27)) := (by show _ = _; rw [eW, Below.heap_alloc _ _ _ (by simp; omega), Below.heap_alloc _ _ _ (by simp)]; exact heap_alloc_new _ _)
  have HR2 : Hid (W0.heap[w.heap.size + 1]? = some (.cells #[.int .i64 b.k.1, .int .i64 b.k.2, .string b.tg, .string b.tx, .slice ba b.at_.length cb, .slice bk b.ks.length db] 27)) := (by show _ = _; rw [eW, Below.heap_alloc _ _ _ (by simp)]; have h9 := heap_alloc_new (w.alloc (.cells #[.int .i64 a.k.1, .int .i64 a.k.2, .string a.tg, .string a.tx, .slice aa a.at_.length ca, .slice ak a.ks.length da] 27)) (.cells #[.int .i64 b.k.1, .int .i64 b.k.2, .string b.tg, .string b.tx, .slice ba b.at_.length cb, .slice bk b.ks.length db] 27); rw [show (w.alloc (.cells #[.int .i64 a.k.1, .int .i64 a.k.2, .string a.tg, .string a.tx, .slice aa a.at_.length ca, .slice ak a.ks.length da] 27)).heap.size = w.heap.size + 1 by simp] at h9; exact h9)
  have HR3 : Hid (W0.heap[w.heap.size + 2]? = some (.cells #[.int .i64 s.1, .int .i64 s.2] 23)) := (by show _ = _; rw [eW]; have h9 := heap_alloc_new ((w.alloc (.cells #[.int .i64 a.k.1, .int .i64 a.k.2, .string a.tg, .string a.tx, .slice aa a.at_.length ca, .slice ak a.ks.length da] 27)).alloc (.cells #[.int .i64 b.k.1, .int .i64 b.k.2, .string b.tg, .string b.tx, .slice ba b.at_.length cb, .slice bk b.ks.length db] 27)) (.cells #[.int .i64 s.1, .int .i64 s.2] 23); rw [show ((w.alloc (.cells #[.int .i64 a.k.1, .int .i64 a.k.2, .string a.tg, .string a.tx, .slice aa a.at_.length ca, .slice ak a.ks.length da] 27)).alloc (.cells #[.int .i64 b.k.1, .int .i64 b.k.2, .string b.tg, .string b.tx, .slice ba b.at_.length cb, .slice bk b.ks.length db] 27)).heap.size = w.heap.size + 2 by simp] at h9; exact h9)
  have HA : Hid (VIs G W0 (.agg #[.int .i64 a.k.1, .int .i64 a.k.2, .string a.tg, .string a.tx, .slice aa a.at_.length ca, .slice ak a.ks.length da]) a) := ha.below hb0
  have HB : Hid (VIs G2 W0 (.agg #[.int .i64 b.k.1, .int .i64 b.k.2, .string b.tg, .string b.tx, .slice ba b.at_.length cb, .slice bk b.ks.length db]) b) := hb.below hb0
  have HE := hide9 eW
  have HL := hide9 hb0
  clear eW hb0 ha hb
  go_enter Try.func57, Try.ntmps57
  go_upto_region 1 with fail
  rw [← HE.out]
  clear HE
  obtain ⟨y0, y1, y2, y3, y4, y5⟩ := row6d HR1.out
  obtain ⟨z0, z1⟩ := row2d HR3.out
  go_wp2_with fail
  clear y0 y1 y2 y3 y4 y5 z0 z1
  refine (in_any G a s _ _ HA.out hsa).mono ?_
  rintro e w1 ⟨rfl, hb1⟩
  obtain ⟨ha9, eha⟩ : ∃ v : Bool, hasT a s = v := ⟨_, rfl⟩
  rw [eha]
  have Hha := hide9 eha
  replace HL := hide9 (HL.out.trans (hb1.mono HL.out.size))
  replace HA := hide9 (HA.out.below hb1)
  replace HB := hide9 (HB.out.below hb1)
  replace HR1 := hide9 ((hb1.block _ (row_lt HR1.out)).trans HR1.out)
  replace HR2 := hide9 ((hb1.block _ (row_lt HR2.out)).trans HR2.out)
  replace HR3 := hide9 ((hb1.block _ (row_lt HR3.out)).trans HR3.out)
  clear hb1 eha
  cases ha9 with
  | false =>
    go_wp2
    (try rw [Exit.noGoto_ret])
    go_ret
    exact ⟨(by unfold stdB; rw [Hha.out]; rfl), HL.out⟩
  | true =>
    obtain ⟨y0, y1, y2, y3, y4, y5⟩ := row6d HR1.out
    obtain ⟨x0, x1, x2, x3, x4, x5⟩ := row6d HR2.out
    obtain ⟨z0, z1⟩ := row2d HR3.out
    go_wp2_with fail
    clear y0 y1 y2 y3 y4 y5 x0 x1 x2 x3 x4 x5 z0 z1
    refine (strange_any G G2 a b s _ _ _ HA.out HB.out hsa hsb).mono ?_
    rintro e w2 ⟨rfl, hb1⟩
    obtain ⟨hs9, ehs⟩ : ∃ v : Bool, strB a b s = v := ⟨_, rfl⟩
    rw [ehs]
    have Hhs := hide9 ehs
    replace HL := hide9 (HL.out.trans (hb1.mono HL.out.size))
    clear hb1 ehs HA HB HR1 HR2 HR3
    go_wp2
    (try rw [Exit.noGoto_ret])
    go_ret
    exact ⟨(by unfold stdB; rw [Hha.out, Hhs.out]; rfl), HL.out⟩
set_option maxRecDepth 100000 in
set_option maxHeartbeats 4000000 in
theorem refWhy_any (G G2 : Nat → Prop) (a b : VT) (va vb : Value) (w : World) (ha : VIs G w va a) (hb : VIs G2 w vb b) (hsa : a.sz ≤ 1048576) (hba : BnA a) (hsb : b.sz ≤ 1048576) (hbb : BnA b) :
    Calls Try.prog 34 #[va, vb] w fun e w' => e = .returned (.int .i64 (whyD a b)) ∧ Below w.heap.size w w' := by
  obtain ⟨aa, ca, ak, da, e1, _⟩ := ha.form
  obtain ⟨ba, cb, bk, db, e2, _⟩ := hb.form
  subst e1 e2
  obtain ⟨W0, eW⟩ : ∃ X, X = (w.alloc (.cells #[.int .i64 a.k.1, .int .i64 a.k.2, .string a.tg, .string a.tx, .slice aa a.at_.length ca, .slice ak a.ks.length da] 27)).alloc (.cells #[.int .i64 b.k.1, .int .i64 b.k.2, .string b.tg, .string b.tx, .slice ba b.at_.length cb, .slice bk b.ks.length db] 27) := ⟨_, rfl⟩
  have hb0 : Below w.heap.size w W0 := (by rw [eW]; exact ((Below.refl _ _).alloc (Nat.le_refl _) _).alloc (by simp) _)
  have HR1 : Hid (W0.heap[w.heap.size]? = some (.cells #[.int .i64 a.k.1, .int .i64 a.k.2, .string a.tg, .string a.tx, .slice aa a.at_.length ca, .slice ak a.ks.length da] 27)) := (by show _ = _; rw [eW, Below.heap_alloc _ _ _ (by simp)]; exact heap_alloc_new _ _)
  have HR2 : Hid (W0.heap[w.heap.size + 1]? = some (.cells #[.int .i64 b.k.1, .int .i64 b.k.2, .string b.tg, .string b.tx, .slice ba b.at_.length cb, .slice bk b.ks.length db] 27)) := (by show _ = _; rw [eW]; have h9 := heap_alloc_new (w.alloc (.cells #[.int .i64 a.k.1, .int .i64 a.k.2, .string a.tg, .string a.tx, .slice aa a.at_.length ca, .slice ak a.ks.length da] 27)) (.cells #[.int .i64 b.k.1, .int .i64 b.k.2, .string b.tg, .string b.tx, .slice ba b.at_.length cb, .slice bk b.ks.length db] 27); rw [show (w.alloc (.cells #[.int .i64 a.k.1, .int .i64 a.k.2, .string a.tg, .string a.tx, .slice aa a.at_.length ca, .slice ak a.ks.length da] 27)).heap.size = w.heap.size + 1 by simp] at h9; exact h9)
  have HA : Hid (VIs G W0 (.agg #[.int .i64 a.k.1, .int .i64 a.k.2, .string a.tg, .string a.tx, .slice aa a.at_.length ca, .slice ak a.ks.length da]) a) := ha.below hb0
  have HB : Hid (VIs G2 W0 (.agg #[.int .i64 b.k.1, .int .i64 b.k.2, .string b.tg, .string b.tx, .slice ba b.at_.length cb, .slice bk b.ks.length db]) b) := hb.below hb0
  have HE := hide9 eW
  have HL := hide9 hb0
  clear eW hb0 ha hb
  go_enter Try.func34, Try.ntmps34
  go_upto_region 1 with fail
  rw [← HE.out]
  clear HE
  obtain ⟨y0, y1, y2, y3, y4, y5⟩ := row6d HR1.out
  go_wp2_with fail
  clear y0 y1 y2 y3 y4 y5
  refine (refCheck_any G a _ _ HA.out hsa hba).mono ?_
  rintro e w1 ⟨rfl, hb1⟩
  obtain ⟨cx, ecx⟩ : ∃ x, x = chkT a := ⟨_, rfl⟩
  rw [← ecx]
  have Hcx := hide9 ecx
  replace HL := hide9 (HL.out.trans (hb1.mono HL.out.size))
  replace HA := hide9 (HA.out.below hb1)
  replace HB := hide9 (HB.out.below hb1)
  replace HR1 := hide9 ((hb1.block _ (row_lt HR1.out)).trans HR1.out)
  replace HR2 := hide9 ((hb1.block _ (row_lt HR2.out)).trans HR2.out)
  clear hb1 ecx
  by_cases hx : cx = 0
  · subst hx
    have Hcx0 : Hid (chkT a = 0) := Hcx.out.symm
    clear Hcx
    obtain ⟨z0, z1, z2, z3, z4, z5⟩ := row6d HR2.out
    go_wp2_with fail
    clear z0 z1 z2 z3 z4 z5
    refine (refCheck_any G2 b _ _ HB.out hsb hbb).mono ?_
    rintro e w2 ⟨rfl, hb1⟩
    obtain ⟨cy, ecy⟩ : ∃ x, x = chkT b := ⟨_, rfl⟩
    rw [← ecy]
    have Hcy := hide9 ecy
    replace HL := hide9 (HL.out.trans (hb1.mono HL.out.size))
    replace HA := hide9 (HA.out.below hb1)
    replace HB := hide9 (HB.out.below hb1)
    replace HR1 := hide9 ((hb1.block _ (row_lt HR1.out)).trans HR1.out)
    replace HR2 := hide9 ((hb1.block _ (row_lt HR2.out)).trans HR2.out)
    clear hb1 ecy
    by_cases hy : cy = 0
    · subst hy
      have Hcy0 : Hid (chkT b = 0) := Hcy.out.symm
      clear Hcy HA HB
      obtain ⟨ab, hab⟩ : ∃ v : Bool, decide (a.k = b.k) = v := ⟨_, rfl⟩
      have hq := fun w9 => neSt a.k b.k ab hab w9
      obtain ⟨y0, y1, y2, y3, y4, y5⟩ := row6d HR1.out
      obtain ⟨z0, z1, z2, z3, z4, z5⟩ := row6d HR2.out
      cases ab with
      | true =>
        have Hk : Hid (a.k = b.k) := hide9 (of_decide_eq_true hab)
        clear hab
        simp only [Bool.not_true] at hq
        go_wp2
        (try rw [Exit.noGoto_ret])
        go_ret
        exact ⟨(by unfold whyD; rw [Hcx0.out, Hcy0.out, Hk.out]; simp), HL.out⟩
      | false =>
        have Hk : Hid (¬ a.k = b.k) := hide9 (of_decide_eq_false hab)
        clear hab
        simp only [Bool.not_false] at hq
        go_wp2
        (try rw [Exit.noGoto_ret])
        go_ret
        exact ⟨(by unfold whyD; rw [Hcx0.out, Hcy0.out, if_neg (by simp), if_neg (by simp), if_neg Hk.out]; rfl), HL.out⟩
    · have Hy : Hid (cy ≠ 0) := hy
      clear HA
      obtain ⟨z0, z1, z2, z3, z4, z5⟩ := row6d HR2.out
      go_wp2_with fail
      clear z0 z1 z2 z3 z4 z5
      refine (refCheck_any G2 b _ _ HB.out hsb hbb).mono ?_
      rintro e w3 ⟨rfl, hb1⟩
      replace HL := hide9 (HL.out.trans (hb1.mono HL.out.size))
      clear hb1 HB HR1 HR2
      rw [← Hcy.out]
      go_wp2
      (try rw [Exit.noGoto_ret])
      go_ret
      exact ⟨(by unfold whyD; rw [Hcx0.out, ← Hcy.out, if_neg (by simp), if_pos Hy.out]; rfl), HL.out⟩
  · have Hx : Hid (cx ≠ 0) := hx
    clear HB
    obtain ⟨y0, y1, y2, y3, y4, y5⟩ := row6d HR1.out
    go_wp2_with fail
    clear y0 y1 y2 y3 y4 y5
    refine (refCheck_any G a _ _ HA.out hsa hba).mono ?_
    rintro e w3 ⟨rfl, hb1⟩
    replace HL := hide9 (HL.out.trans (hb1.mono HL.out.size))
    clear hb1 HA HR1 HR2
    rw [← Hcx.out]
    go_wp2
    (try rw [Exit.noGoto_ret])
    go_ret
    exact ⟨(by unfold whyD; rw [← Hcx.out, if_pos Hx.out]; rfl), HL.out⟩
end Go.Proofs.Ythhnglpkfcmjiaa

namespace Go.Proofs.Ythhnglpkfcmjiaa
open Go.RowKit Go.Shelf
set_option linter.unusedVariables false
set_option linter.unusedSimpArgs false
attribute [local go_sem] Oper.semAt_some
theorem plD_take (a b x : VT) (i : Nat) (ks : List VT) : (plD a b x (ks.take i)).length ≤ (plD a b x ks).length := by
  have h : plD a b x ks = plD a b x (ks.take i) ++ plD a b x (ks.drop i) := by
    unfold plD
    rw [← List.flatMap_append, List.take_append_drop]
  rw [h, List.length_append]
  omega
theorem plcF_take (s : St) : ∀ (l : List VT) (m i : Nat), (plcF s (l.take m) i).length ≤ (plcF s l i).length
  | [], m, i => by simp [plcF]
  | x :: r, 0, i => by simp [plcF]
  | x :: r, m + 1, i => by
    rw [List.take_succ_cons, plcF, plcF]
    have := plcF_take s r m (i + 1)
    split <;> simp <;> omega
set_option maxRecDepth 100000 in
set_option maxHeartbeats 8000000 in
theorem refPlaces_any (G G2 G3 : Nat → Prop) (a b n : VT) (va vb vn : Value) (w : World) (ha : VIs G w va a) (hb : VIs G2 w vb b) (hn : VIs G3 w vn n) (hsa : a.sz ≤ 1048576) (hsb : b.sz ≤ 1048576) (hsn : n.sz ≤ 1048576) (hpl : (plD a b (wasT a n.k) n.ks).length ≤ 1048576) :
    Calls Try.prog 46 #[va, vb, vn] w fun e w' => ∃ kv pv, e = .returned (.tuple #[kv, pv]) ∧ OwnE stCells 2 23 w.heap.size w' kv (stK a b n.ks) ∧ OwnE intCells 1 3 w.heap.size w' pv (plD a b (wasT a n.k) n.ks) ∧ Below w.heap.size w w' := by
  obtain ⟨na, cn, nk, dn, e3, fn⟩ := hn.form
  subst e3
  obtain ⟨aa, ca, ak, da, e1, _⟩ := ha.form
  obtain ⟨ba, cb, bk, db, e2, _⟩ := hb.form
  subst e1 e2
  obtain ⟨W0, eW⟩ : ∃ X, X = ((w.alloc (.cells #[.int .i64 a.k.1, .int .i64 a.k.2, .string a.tg, .string a.tx, .slice aa a.at_.length ca, .slice ak a.ks.length da] 27)).alloc (.cells #[.int .i64 b.k.1, .int .i64 b.k.2, .string b.tg, .string b.tx, .slice ba b.at_.length cb, .slice bk b.ks.length db] 27)).alloc (.cells #[.int .i64 n.k.1, .int .i64 n.k.2, .string n.tg, .string n.tx, .slice na n.at_.length cn, .slice nk n.ks.length dn] 27) := ⟨_, rfl⟩
  have hb0 : Below w.heap.size w W0 := (by rw [eW]; exact (((Below.refl _ _).alloc (Nat.le_refl _) _).alloc (by simp) _).alloc (by simp; omega) _)
  have HR1 : Hid (W0.heap[w.heap.size]? = some (.cells #[.int .i64 a.k.1, .int .i64 a.k.2, .string a.tg, .string a.tx, .slice aa a.at_.length ca, .slice ak a.ks.length da] 27)) := (by show _ = _; rw [eW, Below.heap_alloc _ _ _ (by simp; omega), Below.heap_alloc _ _ _ (by simp)]; exact heap_alloc_new _ _)
  have HR2 : Hid (W0.heap[w.heap.size + 1]? = some (.cells #[.int .i64 b.k.1, .int .i64 b.k.2, .string b.tg, .string b.tx, .slice ba b.at_.length cb, .slice bk b.ks.length db] 27)) := (by show _ = _; rw [eW, Below.heap_alloc _ _ _ (by simp)]; have h9 := heap_alloc_new (w.alloc (.cells #[.int .i64 a.k.1, .int .i64 a.k.2, .string a.tg, .string a.tx, .slice aa a.at_.length ca, .slice ak a.ks.length da] 27)) (.cells #[.int .i64 b.k.1, .int .i64 b.k.2, .string b.tg, .string b.tx, .slice ba b.at_.length cb, .slice bk b.ks.length db] 27); rw [show (w.alloc (.cells #[.int .i64 a.k.1, .int .i64 a.k.2, .string a.tg, .string a.tx, .slice aa a.at_.length ca, .slice ak a.ks.length da] 27)).heap.size = w.heap.size + 1 by simp] at h9; exact h9)
  have HR3 : Hid (W0.heap[w.heap.size + 2]? = some (.cells #[.int .i64 n.k.1, .int .i64 n.k.2, .string n.tg, .string n.tx, .slice na n.at_.length cn, .slice nk n.ks.length dn] 27)) := (by show _ = _; rw [eW]; have h9 := heap_alloc_new ((w.alloc (.cells #[.int .i64 a.k.1, .int .i64 a.k.2, .string a.tg, .string a.tx, .slice aa a.at_.length ca, .slice ak a.ks.length da] 27)).alloc (.cells #[.int .i64 b.k.1, .int .i64 b.k.2, .string b.tg, .string b.tx, .slice ba b.at_.length cb, .slice bk b.ks.length db] 27)) (.cells #[.int .i64 n.k.1, .int .i64 n.k.2, .string n.tg, .string n.tx, .slice na n.at_.length cn, .slice nk n.ks.length dn] 27); rw [show ((w.alloc (.cells #[.int .i64 a.k.1, .int .i64 a.k.2, .string a.tg, .string a.tx, .slice aa a.at_.length ca, .slice ak a.ks.length da] 27)).alloc (.cells #[.int .i64 b.k.1, .int .i64 b.k.2, .string b.tg, .string b.tx, .slice ba b.at_.length cb, .slice bk b.ks.length db] 27)).heap.size = w.heap.size + 2 by simp] at h9; exact h9)
  have Hnk : Hid (KsIs G3 W0 (.slice nk n.ks.length dn) n.ks) := fn.ks.below hb0
  have HA : Hid (VIs G W0 (.agg #[.int .i64 a.k.1, .int .i64 a.k.2, .string a.tg, .string a.tx, .slice aa a.at_.length ca, .slice ak a.ks.length da]) a) := ha.below hb0
  have HB : Hid (VIs G2 W0 (.agg #[.int .i64 b.k.1, .int .i64 b.k.2, .string b.tg, .string b.tx, .slice ba b.at_.length cb, .slice bk b.ks.length db]) b) := hb.below hb0
  have HE := hide9 eW
  have HL := hide9 hb0
  clear eW hb0 ha hb
  go_enter Try.func46, Try.ntmps46
  go_upto_region 1 with fail
  rw [← HE.out]
  clear HE hn fn
  obtain ⟨y0, y1, y2, y3, y4, y5⟩ := row6d HR1.out
  obtain ⟨z0, z1, z2, z3, z4, z5⟩ := row6d HR3.out
  go_wp2_with fail
  clear y0 y1 y2 y3 y4 y5
  clear z0 z1 z2 z3 z4 z5
  refine (refFind_any G a n.k _ _ HA.out hsa).mono ?_
  rintro e w1 ⟨x, av, kv, rfl, hwx, fx, hb1⟩
  obtain ⟨xa, xc, ex1⟩ := fx.at_.form
  obtain ⟨xk, xd, ex2⟩ := fx.ks.form
  subst ex1 ex2
  have HX := hide9 fx.ks
  have Hwx : Hid (wasT a n.k = x) := hwx
  replace HL := hide9 (HL.out.trans (hb1.mono HL.out.size))
  replace HA := hide9 (HA.out.below hb1)
  replace HB := hide9 (HB.out.below hb1)
  replace HR1 := hide9 ((hb1.block _ (row_lt HR1.out)).trans HR1.out)
  replace HR2 := hide9 ((hb1.block _ (row_lt HR2.out)).trans HR2.out)
  replace HR3 := hide9 ((hb1.block _ (row_lt HR3.out)).trans HR3.out)
  replace Hnk := hide9 (Hnk.out.below hb1)
  clear hb1 fx hwx
  have Hz : Hid ((w1.alloc (.cells #[.int .i64 0, .int .i64 0, .string ⟨#[]⟩, .string ⟨#[]⟩, .slice none 0 0, .slice none 0 0] 27)).heap[w1.heap.size]? = some (.cells #[.int .i64 0, .int .i64 0, .string ⟨#[]⟩, .string ⟨#[]⟩, .slice none 0 0, .slice none 0 0] 27)) := heap_alloc_new _ _
  obtain ⟨W2, eW⟩ : ∃ X, X = (w1.alloc (.cells #[.int .i64 0, .int .i64 0, .string ⟨#[]⟩, .string ⟨#[]⟩, .slice none 0 0, .slice none 0 0] 27)).setRow w1.heap.size #[.int .i64 x.k.1, .int .i64 x.k.2, .string x.tg, .string x.tx, .slice xa x.at_.length xc, .slice xk x.ks.length xd] := ⟨_, rfl⟩
  have hb9 : Below w1.heap.size w1 W2 := (by rw [eW]; exact ((Below.refl _ _).alloc (Nat.le_refl _) _).grown (grown_setRow _ _ _) (by simp) (fun k e => by cases e; exact Nat.le_refl _))
  obtain ⟨xb, enb⟩ : ∃ b, b = w1.heap.size := ⟨_, rfl⟩
  have Hxb : Hid (W2.heap[xb]? = some (.cells #[.int .i64 x.k.1, .int .i64 x.k.2, .string x.tg, .string x.tx, .slice xa x.at_.length xc, .slice xk x.ks.length xd] 27)) := (by show _ = _; rw [eW, enb]; exact setRow_same Hz.out)
  have HE9 := hide9 (And.intro eW enb)
  clear eW enb
  replace HL := hide9 (HL.out.trans (hb9.mono HL.out.size))
  replace HA := hide9 (HA.out.below hb9)
  replace HB := hide9 (HB.out.below hb9)
  replace HR1 := hide9 ((hb9.block _ (row_lt HR1.out)).trans HR1.out)
  replace HR2 := hide9 ((hb9.block _ (row_lt HR2.out)).trans HR2.out)
  replace HR3 := hide9 ((hb9.block _ (row_lt HR3.out)).trans HR3.out)
  replace Hnk := hide9 (Hnk.out.below hb9)
  replace HX := hide9 (HX.out.below hb9)
  clear hb9
  go_wp2_with (refine wpList_store_row rfl 27 (.tmp 8) (.tmp 19) rfl w1.heap.size 27 #[.int .i64 0, .int .i64 0, .string ⟨#[]⟩, .string ⟨#[]⟩, .slice none 0 0, .slice none 0 0] #[.int .i64 x.k.1, .int .i64 x.k.2, .string x.tg, .string x.tx, .slice xa x.at_.length xc, .slice xk x.ks.length xd] rfl rfl Hz.out sizeVy rfl (by simp [Value.oneCell']) ?_; refine StpD.to ?_)
  refine StpD.of ?_
  rw [← HE9.out.1, ← HE9.out.2]
  clear HE9 Hz
  obtain ⟨W3, eW3⟩ : ∃ X, X = (W2.alloc (.cells #[] 23)).alloc (.cells #[] 3) := ⟨_, rfl⟩
  have h1 : OwnE stCells 2 23 W2.heap.size (W2.alloc (.cells #[] 23)) (.slice (some ⟨W2.heap.size, 0, none⟩) 0 0) [] := World.ownsRow_made W2 #[] 0 (Nat.le_refl _) (by unfold maxLen; omega) (by simp)
  have h2 : OwnE intCells 1 3 W2.heap.size W3 (.slice (some ⟨W2.heap.size + 1, 0, none⟩) 0 0) [] := (by rw [eW3]; have h9 := World.ownsRow_made (W2.alloc (.cells #[] 23)) (e := 3) (size := 1) (base := W2.heap.size) #[] 0 (by simp) (by unfold maxLen; omega) (by simp); rw [show (W2.alloc (.cells #[] 23)).heap.size = W2.heap.size + 1 by simp] at h9; exact h9)
  have hb3 : Below W2.heap.size W2 W3 := (by rw [eW3]; exact ((Below.refl _ _).alloc (Nat.le_refl _) _).alloc (by simp) _)
  have hb4 : Below (W2.alloc (.cells #[] 23)).heap.size (W2.alloc (.cells #[] 23)) W3 := (by rw [eW3]; exact (Below.refl _ _).alloc (Nat.le_refl _) _)
  have HS : Hid (ShS W2 (.slice (some ⟨W2.heap.size, 0, none⟩) 0 0) ([]) (.slice (some ⟨W2.heap.size + 1, 0, none⟩) 0 0) ([]) W3) := ⟨OwnE.below h1 hb4, h2, hb3⟩
  have HE := hide9 eW3
  clear eW3 h1 h2 hb3 hb4
  obtain ⟨i1, hi1, hy0, hy1, hy2⟩ := info_parts infoInt9
  obtain ⟨i2, hi2, hx0, hx1, hx2⟩ := info_parts infoSt9
  have Hpl := hide9 hpl
  clear hpl
  have Hnl : Hid (n.ks.length ≤ 1048576) := (by have h1 := szs_len n.ks; have h2 := n.sz_eq; show _ ≤ _; omega)
  have hnl9 : n.ks.length ≤ 1048576 := Hnl.out
  have hxl9 : x.ks.length ≤ 1466015503701 := HX.out.len
  go_upto_region 4 with fail
  rw [← HE.out]
  clear HE
  go_wp2
  go_loopw [10, 11, 12] (fun kv pv iv wr => ∃ (i : Nat) (KL : List St) (PL : List Int), iv = .int .i64 (i : Int) ∧ i ≤ n.ks.length ∧ Hid (ShS W2 kv (KL) pv (PL) wr) ∧ Hid (KL = stK a b (n.ks.take i) ∧ PL = plD a b x (n.ks.take i))) (fun _ _ iv _ => n.ks.length - (intOf iv).toNat)
  case atStart => exact ⟨0, [], [], rfl, Nat.zero_le _, HS, rfl, rfl⟩
  case round =>
    clear HS
    obtain ⟨i, KL, PL, rfl, hi, HS, HP⟩ := hrel
    obtain ⟨ka, kc, e1⟩ := OwnE.form HS.out.a
    obtain ⟨pa, pc, e2⟩ := OwnE.form HS.out.b
    subst e1 e2
    have HN3 : Hid (wr.heap[w.heap.size + 2]? = some (.cells #[.int .i64 n.k.1, .int .i64 n.k.2, .string n.tg, .string n.tx, .slice na n.at_.length cn, .slice nk n.ks.length dn] 27)) := (HS.out.bel.block _ (row_lt HR3.out)).trans HR3.out
    by_cases hlt : i < n.ks.length
    · obtain ⟨b1, o1, es, hg1, hl1, hv1⟩ := Hnk.out.kid hlt
      subst es
      obtain ⟨y, ey⟩ : ∃ y, y = n.ks[i] := ⟨_, rfl⟩
      rw [← ey] at hv1
      obtain ⟨_, _, _, _, p0, p1, _⟩ := hv1.cells
      have Hkc : Hid (b1 < W2.heap.size ∧ W2.cell? ⟨b1, o1 + i * 6, none⟩ = some (.int .i64 y.k.1) ∧ W2.cell? ⟨b1, o1 + i * 6 + 1, none⟩ = some (.int .i64 y.k.2)) := ⟨hl1, p0, p1⟩
      have Hy := hide9 ey
      have k1 : (i : Int) < (n.ks.length : Int) := by omega
      have k0 : (0 : Int) ≤ (i : Int) := by omega
      have Htk1 : Hid (stK a b (n.ks.take (i + 1)) = KL ++ if stdB a b y.k then [y.k] else []) := (by show _ = _; rw [List.take_succ_eq_append_getElem hlt, stK_snoc, ← ey, HP.out.1])
      have Htk2 : Hid (plD a b x (n.ks.take (i + 1)) = PL ++ if stdB a b y.k then plcF y.k x.ks 0 else []) := (by show _ = _; rw [List.take_succ_eq_append_getElem hlt, plD_snoc, ← ey, HP.out.2])
      have HKl : Hid (KL.length ≤ 1048576) := (by have h1 := stK_len a b (n.ks.take i); rw [← HP.out.1, List.length_take] at h1; have h2 := Hnl.out; show _ ≤ _; omega)
      have HPl : Hid ((PL ++ if stdB a b y.k then plcF y.k x.ks 0 else []).length ≤ 1048576) := (by have h9 := plD_take a b x (i + 1) n.ks; rw [Htk2.out] at h9; have h8 := Hpl.out; rw [Hwx.out] at h8; exact Nat.le_trans h9 h8)
      clear p0 p1 hv1 hg1 hl1 ey
      obtain ⟨sd, esd⟩ : ∃ v : Bool, stdB a b y.k = v := ⟨_, rfl⟩
      rw [esd] at Htk1 Htk2 HPl
      have Hsd := hide9 esd
      clear esd
      obtain ⟨v0, v1, v2, v3, v4, v5⟩ := row6d HN3.out
      go_upto_region 7 with fail
      clear v0 v1 v2 v3 v4 v5
      have HN1 : Hid (wr.heap[w.heap.size]? = some (.cells #[.int .i64 a.k.1, .int .i64 a.k.2, .string a.tg, .string a.tx, .slice aa a.at_.length ca, .slice ak a.ks.length da] 27)) := (HS.out.bel.block _ (row_lt HR1.out)).trans HR1.out
      have HN2 : Hid (wr.heap[w.heap.size + 1]? = some (.cells #[.int .i64 b.k.1, .int .i64 b.k.2, .string b.tg, .string b.tx, .slice ba b.at_.length cb, .slice bk b.ks.length db] 27)) := (HS.out.bel.block _ (row_lt HR2.out)).trans HR2.out
      have HNk : Hid (b1 < wr.heap.size ∧ wr.cell? ⟨b1, o1 + i * 6, none⟩ = some (.int .i64 y.k.1) ∧ wr.cell? ⟨b1, o1 + i * 6 + 1, none⟩ = some (.int .i64 y.k.2)) := ⟨Nat.lt_of_lt_of_le Hkc.out.1 HS.out.bel.size, (HS.out.bel.cell (p := ⟨b1, o1 + i * 6, none⟩) Hkc.out.1).trans Hkc.out.2.1, (HS.out.bel.cell (p := ⟨b1, o1 + i * 6 + 1, none⟩) Hkc.out.1).trans Hkc.out.2.2⟩
      cases sd with
      | false =>
        refine wp_region_held_drew (S := fun W' => Below wr.heap.size wr W') (by kernel_rfl) (Below.refl _ _).drew (fun hHeld => ?_)
        obtain ⟨Up01u0, eW⟩ : ∃ X, X = wr.drew := ⟨_, rfl⟩
        have hb : Below wr.heap.size wr Up01u0 := by rw [eW]; exact (Below.refl _ _).drew
        replace HS : Hid (ShS W2 (.slice ka KL.length kc) (KL) (.slice pa PL.length pc) (PL) Up01u0) := HS.out.below hb
        rw [← eW] at hHeld ⊢
        clear eW hb
        refine tkW 0 (some 30) (v := ?_) ?_ hHeld ?_
        rotate_left
        · (intro ww hSw; (try dsimp only at hSw); have hr9 := (hSw.block _ (row_lt HN1.out)).trans HN1.out; obtain ⟨r0, r1, r2, r3, r4, r5⟩ := row6d hr9; go_simp; try with_reducible rfl)
        refine tkW 1 (some 31) (v := ?_) ?_ hHeld ?_
        rotate_left
        · (intro ww hSw; (try dsimp only at hSw); have hr9 := (hSw.block _ (row_lt HN2.out)).trans HN2.out; obtain ⟨r0, r1, r2, r3, r4, r5⟩ := row6d hr9; go_simp; try with_reducible rfl)
        refine tkW 2 (some 32) (v := ?_) ?_ hHeld ?_
        rotate_left
        · (intro ww _; go_simp; try with_reducible rfl)
        refine tkW 3 (some 33) (v := ?_) ?_ hHeld ?_
        rotate_left
        · (intro ww hSw; (try dsimp only at hSw); have hr9 := (hSw.block _ (row_lt HN3.out)).trans HN3.out; obtain ⟨r0, r1, r2, r3, r4, r5⟩ := row6d hr9; go_simp; try with_reducible rfl)
        refine tkW 4 (some 34) (v := ?_) ?_ hHeld ?_
        rotate_left
        · (intro ww _; go_simp; try with_reducible rfl)
        refine tkW 5 (some 35) (v := ?_) ?_ hHeld ?_
        rotate_left
        · (intro ww hSw; (try dsimp only at hSw); go_simp; try with_reducible rfl)
        refine tkW 6 (some 36) (v := ?_) ?_ hHeld ?_
        rotate_left
        · (intro ww _; go_simp; try with_reducible rfl)
        refine tkW 7 (some 37) (v := ?_) ?_ hHeld ?_
        rotate_left
        · (intro ww hSw; (try dsimp only at hSw); have q6 : ww.cell? ⟨b1, o1 + i * 6, none⟩ = some (.int .i64 y.k.1) := (hSw.cell (p := ⟨b1, o1 + i * 6, none⟩) HNk.out.1).trans HNk.out.2.1; have q7 : ww.cell? ⟨b1, o1 + i * 6 + 1, none⟩ = some (.int .i64 y.k.2) := (hSw.cell (p := ⟨b1, o1 + i * 6 + 1, none⟩) HNk.out.1).trans HNk.out.2.2; go_simp; try with_reducible rfl)
        refine wpAnyH_ready (rs := [8]) (by kernel_rfl) (by simp) ?_
        refine AllReadyH.cons (o := ⟨some 38, _, _, _, _, _⟩) rfl (fun K hK => ?_) AllReadyH.nil
        go_simp
        refine (stayed_any G G2 a b y.k _ _ _ (HA.out.below HS.out.bel) (HB.out.below HS.out.bel) hsa hsb).mono ?_
        rintro e Up01u1 ⟨rfl, hb⟩
        rw [Hsd.out]
        have hkp := hHeld.trans (hb.mono hHeld.size)
        replace HS := hide9 (HS.out.below hb)
        clear hb
        (try go_wp2_with fail)
        refine hK.out _ _ (hkp) (fun hHeld2 => ?_)
        clear hK K hHeld
        have hHeld := hHeld2
        clear hHeld2
        (try simp only [Act.put, List.setIfInBounds_toArray, List.set_cons_zero, List.set_cons_succ])
        clear hkp
        refine tkW 9 (some 39) (v := ?_) ?_ hHeld ?_
        rotate_left
        · (intro ww _; go_simp; try with_reducible rfl)
        refine wpAnyH_done (by kernel_rfl) ?_ _
        clear hHeld HN1 HN2 HN3 HNk
        go_wp2
        go_roundw
        case rel => exact ⟨i + 1, _, _, by go_num, by omega, HS, (by show _ ∧ _; rw [Htk1.out, Htk2.out]; simp)⟩
        case measure => simp [intOf]; omega
      | true =>
        refine wp_region_held_drew (S := fun W' => Below wr.heap.size wr W') (by kernel_rfl) (Below.refl _ _).drew (fun hHeld => ?_)
        obtain ⟨Up12u0, eW⟩ : ∃ X, X = wr.drew := ⟨_, rfl⟩
        have hb : Below wr.heap.size wr Up12u0 := by rw [eW]; exact (Below.refl _ _).drew
        replace HS : Hid (ShS W2 (.slice ka KL.length kc) (KL) (.slice pa PL.length pc) (PL) Up12u0) := HS.out.below hb
        rw [← eW] at hHeld ⊢
        clear eW hb
        refine tkW 0 (some 30) (v := ?_) ?_ hHeld ?_
        rotate_left
        · (intro ww hSw; (try dsimp only at hSw); have hr9 := (hSw.block _ (row_lt HN1.out)).trans HN1.out; obtain ⟨r0, r1, r2, r3, r4, r5⟩ := row6d hr9; go_simp; try with_reducible rfl)
        refine tkW 1 (some 31) (v := ?_) ?_ hHeld ?_
        rotate_left
        · (intro ww hSw; (try dsimp only at hSw); have hr9 := (hSw.block _ (row_lt HN2.out)).trans HN2.out; obtain ⟨r0, r1, r2, r3, r4, r5⟩ := row6d hr9; go_simp; try with_reducible rfl)
        refine tkW 2 (some 32) (v := ?_) ?_ hHeld ?_
        rotate_left
        · (intro ww _; go_simp; try with_reducible rfl)
        refine tkW 3 (some 33) (v := ?_) ?_ hHeld ?_
        rotate_left
        · (intro ww hSw; (try dsimp only at hSw); have hr9 := (hSw.block _ (row_lt HN3.out)).trans HN3.out; obtain ⟨r0, r1, r2, r3, r4, r5⟩ := row6d hr9; go_simp; try with_reducible rfl)
        refine tkW 4 (some 34) (v := ?_) ?_ hHeld ?_
        rotate_left
        · (intro ww _; go_simp; try with_reducible rfl)
        refine tkW 5 (some 35) (v := ?_) ?_ hHeld ?_
        rotate_left
        · (intro ww hSw; (try dsimp only at hSw); go_simp; try with_reducible rfl)
        refine tkW 6 (some 36) (v := ?_) ?_ hHeld ?_
        rotate_left
        · (intro ww _; go_simp; try with_reducible rfl)
        refine tkW 7 (some 37) (v := ?_) ?_ hHeld ?_
        rotate_left
        · (intro ww hSw; (try dsimp only at hSw); have q6 : ww.cell? ⟨b1, o1 + i * 6, none⟩ = some (.int .i64 y.k.1) := (hSw.cell (p := ⟨b1, o1 + i * 6, none⟩) HNk.out.1).trans HNk.out.2.1; have q7 : ww.cell? ⟨b1, o1 + i * 6 + 1, none⟩ = some (.int .i64 y.k.2) := (hSw.cell (p := ⟨b1, o1 + i * 6 + 1, none⟩) HNk.out.1).trans HNk.out.2.2; go_simp; try with_reducible rfl)
        refine wpAnyH_ready (rs := [8]) (by kernel_rfl) (by simp) ?_
        refine AllReadyH.cons (o := ⟨some 38, _, _, _, _, _⟩) rfl (fun K hK => ?_) AllReadyH.nil
        go_simp
        refine (stayed_any G G2 a b y.k _ _ _ (HA.out.below HS.out.bel) (HB.out.below HS.out.bel) hsa hsb).mono ?_
        rintro e Up12u1 ⟨rfl, hb⟩
        rw [Hsd.out]
        have hkp := hHeld.trans (hb.mono hHeld.size)
        replace HS := hide9 (HS.out.below hb)
        clear hb
        (try go_wp2_with fail)
        refine hK.out _ _ (hkp) (fun hHeld2 => ?_)
        clear hK K hHeld
        have hHeld := hHeld2
        clear hHeld2
        (try simp only [Act.put, List.setIfInBounds_toArray, List.set_cons_zero, List.set_cons_succ])
        clear hkp
        refine tkW 9 (some 39) (v := ?_) ?_ hHeld ?_
        rotate_left
        · (intro ww _; go_simp; try with_reducible rfl)
        refine wpAnyH_done (by kernel_rfl) ?_ _
        clear HN1 HN2 HNk
        replace HN3 : Hid (Up12u1.heap[w.heap.size + 2]? = some (.cells #[.int .i64 n.k.1, .int .i64 n.k.2, .string n.tg, .string n.tx, .slice na n.at_.length cn, .slice (some ⟨b1, o1, none⟩) n.ks.length dn] 27)) := (hHeld.block _ (row_lt HN3.out)).trans HN3.out
        have d0 := (HS.out.bel.cell (p := ⟨b1, o1 + i * 6, none⟩) Hkc.out.1).trans Hkc.out.2.1
        have d1 := (HS.out.bel.cell (p := ⟨b1, o1 + i * 6 + 1, none⟩) Hkc.out.1).trans Hkc.out.2.2
        clear hHeld
        obtain ⟨v0, v1, v2, v3, v4, v5⟩ := row6d HN3.out
        go_wp2_with (at_builtin; refine StpD.to ?_)
        clear d0 d1 v0 v1 v2 v3 v4 v5 HN3
        refine StpD.of ?_
        obtain ⟨W4, eW4⟩ : ∃ X, X = Up12u1.alloc (.cells #[.int .i64 y.k.1, .int .i64 y.k.2] 23) := ⟨_, rfl⟩
        have hq : W4.heap[Up12u1.heap.size]? = some (.cells (stCells y.k).toArray 23) := (by rw [eW4]; exact heap_alloc_new _ _)
        have hb4 : Below Up12u1.heap.size Up12u1 W4 := (by rw [eW4]; exact (Below.refl _ _).alloc (Nat.le_refl _) _)
        rw [← eW4]
        replace HS := hide9 (HS.out.below hb4)
        clear eW4 hb4
        refine wpList_app1E (enc := stCells) (n := 2) (fun _ => rfl) (T := 23) Try.underlying42 hi2 hx0 hx1 hx2 rfl (by decide) (by decide) rfl _ _ rfl W2.heap.size _ KL rfl HS.out.a Up12u1.heap.size y.k rfl hq (stOne y.k) (Nat.le_trans HKl.out (by decide)) HS.out.bel.size ?_
        intro g c W5 ho hg
        replace HS := hide9 (HS.out.pushA hg ho)
        clear hq ho hg
        obtain ⟨K2, eK2⟩ : ∃ l, l = KL ++ [y.k] := ⟨_, rfl⟩
        have hgl : KL.length + 1 = K2.length := (by rw [eK2]; simp)
        rw [← eK2] at HS
        have HK2 := hide9 eK2
        rw [hgl] at HS
        rw [hgl]
        clear hgl eK2
        have HQ0 : Hid (PL = PL ++ plcF y.k (x.ks.take 0) 0) := (by show _ = _; rw [List.take_zero]; simp [plcF])
        go_wp2
        go_loopw [11, 13] (fun pv mv wr => ∃ (m : Nat) (Q : List Int), mv = .int .i64 (m : Int) ∧ m ≤ x.ks.length ∧ Hid (ShS W2 (.slice (some ⟨g, 0, none⟩) K2.length c) (K2) pv (Q) wr) ∧ Hid (Q = PL ++ plcF y.k (x.ks.take m) 0)) (fun _ mv _ => x.ks.length - (intOf mv).toNat)
        case atStart => exact ⟨0, PL, rfl, Nat.zero_le _, HS, HQ0⟩
        case round =>
          clear HS HQ0
          obtain ⟨m, Q, rfl, hm, HS, HQ⟩ := hrel
          obtain ⟨qa, qc, e1⟩ := OwnE.form HS.out.b
          subst e1
          have HNx : Hid (wr.heap[xb]? = some (.cells #[.int .i64 x.k.1, .int .i64 x.k.2, .string x.tg, .string x.tx, .slice xa x.at_.length xc, .slice xk x.ks.length xd] 27)) := (HS.out.bel.block _ (row_lt Hxb.out)).trans Hxb.out
          by_cases hmt : m < x.ks.length
          · obtain ⟨b2, o2, es, hg2, hl2, hv2⟩ := HX.out.kid hmt
            subst es
            obtain ⟨z, ez⟩ : ∃ z, z = x.ks[m] := ⟨_, rfl⟩
            rw [← ez] at hv2
            obtain ⟨_, _, _, _, p0, p1, _⟩ := hv2.cells
            have HNz : Hid (b2 < wr.heap.size ∧ wr.cell? ⟨b2, o2 + m * 6, none⟩ = some (.int .i64 z.k.1) ∧ wr.cell? ⟨b2, o2 + m * 6 + 1, none⟩ = some (.int .i64 z.k.2)) := ⟨Nat.lt_of_lt_of_le hl2 HS.out.bel.size, (HS.out.bel.cell (p := ⟨b2, o2 + m * 6, none⟩) hl2).trans p0, (HS.out.bel.cell (p := ⟨b2, o2 + m * 6 + 1, none⟩) hl2).trans p1⟩
            have HNy : Hid (b1 < wr.heap.size ∧ wr.cell? ⟨b1, o1 + i * 6, none⟩ = some (.int .i64 y.k.1) ∧ wr.cell? ⟨b1, o1 + i * 6 + 1, none⟩ = some (.int .i64 y.k.2)) := ⟨Nat.lt_of_lt_of_le Hkc.out.1 HS.out.bel.size, (HS.out.bel.cell (p := ⟨b1, o1 + i * 6, none⟩) Hkc.out.1).trans Hkc.out.2.1, (HS.out.bel.cell (p := ⟨b1, o1 + i * 6 + 1, none⟩) Hkc.out.1).trans Hkc.out.2.2⟩
            have HQk : Hid (PL ++ plcF y.k (x.ks.take (m + 1)) 0 = Q ++ if z.k = y.k then [(m : Int)] else []) := (by show _ = _; rw [List.take_succ_eq_append_getElem hmt, plcF_snoc, ← List.append_assoc, ← HQ.out, ← ez, List.length_take, Nat.min_eq_left hm, Nat.zero_add])
            have HQl : Hid (Q.length ≤ 1048576) := (by have h9 := HPl.out; simp only [if_true, ite_true, List.length_append] at h9; have h8 := plcF_take y.k x.ks m 0; show _ ≤ _; rw [HQ.out, List.length_append]; omega)
            have HN3 : Hid (wr.heap[w.heap.size + 2]? = some (.cells #[.int .i64 n.k.1, .int .i64 n.k.2, .string n.tg, .string n.tx, .slice na n.at_.length cn, .slice (some ⟨b1, o1, none⟩) n.ks.length dn] 27)) := (HS.out.bel.block _ (row_lt HR3.out)).trans HR3.out
            have m1 : (m : Int) < (x.ks.length : Int) := by omega
            have m0 : (0 : Int) ≤ (m : Int) := by omega
            clear p0 p1 hv2 hg2 hl2 ez
            obtain ⟨eb, heb⟩ : ∃ v : Bool, decide ((z.k.1, z.k.2) = (y.k.1, y.k.2)) = v := ⟨_, rfl⟩
            have hq : ∀ w9 : World, (binOp .eql 23 (.agg #[.int .i64 z.k.1, .int .i64 z.k.2]) (.agg #[.int .i64 y.k.1, .int .i64 y.k.2])).run Try.prog w9 = .ok (.bool eb) w9 := fun w9 => by rw [eqlSt, heb]
            obtain ⟨v0, v1, v2, v3, v4, v5⟩ := row6d HNx.out
            go_upto_region 12 with fail
            clear v0 v1 v2 v3 v4 v5
            cases eb with
            | false =>
              have Hne : Hid (¬ z.k = y.k) := (by intro e; have h9 := of_decide_eq_false heb; exact h9 (by rw [e]))
              clear heb
              refine wp_region_held_drew (S := fun W' => Below wr.heap.size wr W') (by kernel_rfl) (Below.refl _ _).drew (fun hHeld => ?_)
              obtain ⟨Ui03u0, eW⟩ : ∃ X, X = wr.drew := ⟨_, rfl⟩
              have hb : Below wr.heap.size wr Ui03u0 := by rw [eW]; exact (Below.refl _ _).drew
              replace HS : Hid (ShS W2 (.slice (some ⟨g, 0, none⟩) K2.length c) (K2) (.slice qa Q.length qc) (Q) Ui03u0) := HS.out.below hb
              rw [← eW] at hHeld ⊢
              clear eW hb
              refine tkW 0 (some 56) (v := ?_) ?_ hHeld ?_
              rotate_left
              · (intro ww _; go_simp; try with_reducible rfl)
              refine tkW 1 (some 57) (v := ?_) ?_ hHeld ?_
              rotate_left
              · (intro ww hSw; (try dsimp only at hSw); have hr9 := (hSw.block _ (row_lt HNx.out)).trans HNx.out; obtain ⟨r0, r1, r2, r3, r4, r5⟩ := row6d hr9; go_simp; try with_reducible rfl)
              refine tkW 2 (some 58) (v := ?_) ?_ hHeld ?_
              rotate_left
              · (intro ww _; go_simp; try with_reducible rfl)
              refine tkW 3 (some 59) (v := ?_) ?_ hHeld ?_
              rotate_left
              · (intro ww hSw; (try dsimp only at hSw); go_simp; try with_reducible rfl)
              refine tkW 4 (some 60) (v := ?_) ?_ hHeld ?_
              rotate_left
              · (intro ww _; go_simp; try with_reducible rfl)
              refine tkW 5 (some 61) (v := ?_) ?_ hHeld ?_
              rotate_left
              · (intro ww hSw; (try dsimp only at hSw); have q6 : ww.cell? ⟨b2, o2 + m * 6, none⟩ = some (.int .i64 z.k.1) := (hSw.cell (p := ⟨b2, o2 + m * 6, none⟩) HNz.out.1).trans HNz.out.2.1; have q7 : ww.cell? ⟨b2, o2 + m * 6 + 1, none⟩ = some (.int .i64 z.k.2) := (hSw.cell (p := ⟨b2, o2 + m * 6 + 1, none⟩) HNz.out.1).trans HNz.out.2.2; go_simp; try with_reducible rfl)
              refine tkW 6 (some 62) (v := ?_) ?_ hHeld ?_
              rotate_left
              · (intro ww _; go_simp; try with_reducible rfl)
              refine tkW 7 (some 63) (v := ?_) ?_ hHeld ?_
              rotate_left
              · (intro ww hSw; (try dsimp only at hSw); have hr9 := (hSw.block _ (row_lt HN3.out)).trans HN3.out; obtain ⟨r0, r1, r2, r3, r4, r5⟩ := row6d hr9; go_simp; try with_reducible rfl)
              refine tkW 8 (some 64) (v := ?_) ?_ hHeld ?_
              rotate_left
              · (intro ww _; go_simp; try with_reducible rfl)
              refine tkW 9 (some 65) (v := ?_) ?_ hHeld ?_
              rotate_left
              · (intro ww hSw; (try dsimp only at hSw); go_simp; try with_reducible rfl)
              refine tkW 10 (some 66) (v := ?_) ?_ hHeld ?_
              rotate_left
              · (intro ww _; go_simp; try with_reducible rfl)
              refine tkW 11 (some 67) (v := ?_) ?_ hHeld ?_
              rotate_left
              · (intro ww hSw; (try dsimp only at hSw); have q6 : ww.cell? ⟨b1, o1 + i * 6, none⟩ = some (.int .i64 y.k.1) := (hSw.cell (p := ⟨b1, o1 + i * 6, none⟩) HNy.out.1).trans HNy.out.2.1; have q7 : ww.cell? ⟨b1, o1 + i * 6 + 1, none⟩ = some (.int .i64 y.k.2) := (hSw.cell (p := ⟨b1, o1 + i * 6 + 1, none⟩) HNy.out.1).trans HNy.out.2.2; go_simp; try with_reducible rfl)
              refine tkW 12 (some 68) (v := ?_) ?_ hHeld ?_
              rotate_left
              · (intro ww hSw; (try dsimp only at hSw); go_simp; try with_reducible rfl)
              refine wpAnyH_done (by kernel_rfl) ?_ _
              clear hHeld hq
              go_wp2
              go_roundw
              case rel => exact ⟨m + 1, _, by go_num, by omega, HS, (by show _ = _; rw [HQk.out, if_neg Hne.out, List.append_nil])⟩
              case measure => simp [intOf]; omega
            | true =>
              have Heq : Hid (z.k = y.k) := (by show _ = _; have h9 := of_decide_eq_true heb; exact Prod.ext (congrArg Prod.fst h9) (congrArg Prod.snd h9))
              clear heb
              refine wp_region_held_drew (S := fun W' => Below wr.heap.size wr W') (by kernel_rfl) (Below.refl _ _).drew (fun hHeld => ?_)
              obtain ⟨Ui14u0, eW⟩ : ∃ X, X = wr.drew := ⟨_, rfl⟩
              have hb : Below wr.heap.size wr Ui14u0 := by rw [eW]; exact (Below.refl _ _).drew
              replace HS : Hid (ShS W2 (.slice (some ⟨g, 0, none⟩) K2.length c) (K2) (.slice qa Q.length qc) (Q) Ui14u0) := HS.out.below hb
              rw [← eW] at hHeld ⊢
              clear eW hb
              refine tkW 0 (some 56) (v := ?_) ?_ hHeld ?_
              rotate_left
              · (intro ww _; go_simp; try with_reducible rfl)
              refine tkW 1 (some 57) (v := ?_) ?_ hHeld ?_
              rotate_left
              · (intro ww hSw; (try dsimp only at hSw); have hr9 := (hSw.block _ (row_lt HNx.out)).trans HNx.out; obtain ⟨r0, r1, r2, r3, r4, r5⟩ := row6d hr9; go_simp; try with_reducible rfl)
              refine tkW 2 (some 58) (v := ?_) ?_ hHeld ?_
              rotate_left
              · (intro ww _; go_simp; try with_reducible rfl)
              refine tkW 3 (some 59) (v := ?_) ?_ hHeld ?_
              rotate_left
              · (intro ww hSw; (try dsimp only at hSw); go_simp; try with_reducible rfl)
              refine tkW 4 (some 60) (v := ?_) ?_ hHeld ?_
              rotate_left
              · (intro ww _; go_simp; try with_reducible rfl)
              refine tkW 5 (some 61) (v := ?_) ?_ hHeld ?_
              rotate_left
              · (intro ww hSw; (try dsimp only at hSw); have q6 : ww.cell? ⟨b2, o2 + m * 6, none⟩ = some (.int .i64 z.k.1) := (hSw.cell (p := ⟨b2, o2 + m * 6, none⟩) HNz.out.1).trans HNz.out.2.1; have q7 : ww.cell? ⟨b2, o2 + m * 6 + 1, none⟩ = some (.int .i64 z.k.2) := (hSw.cell (p := ⟨b2, o2 + m * 6 + 1, none⟩) HNz.out.1).trans HNz.out.2.2; go_simp; try with_reducible rfl)
              refine tkW 6 (some 62) (v := ?_) ?_ hHeld ?_
              rotate_left
              · (intro ww _; go_simp; try with_reducible rfl)
              refine tkW 7 (some 63) (v := ?_) ?_ hHeld ?_
              rotate_left
              · (intro ww hSw; (try dsimp only at hSw); have hr9 := (hSw.block _ (row_lt HN3.out)).trans HN3.out; obtain ⟨r0, r1, r2, r3, r4, r5⟩ := row6d hr9; go_simp; try with_reducible rfl)
              refine tkW 8 (some 64) (v := ?_) ?_ hHeld ?_
              rotate_left
              · (intro ww _; go_simp; try with_reducible rfl)
              refine tkW 9 (some 65) (v := ?_) ?_ hHeld ?_
              rotate_left
              · (intro ww hSw; (try dsimp only at hSw); go_simp; try with_reducible rfl)
              refine tkW 10 (some 66) (v := ?_) ?_ hHeld ?_
              rotate_left
              · (intro ww _; go_simp; try with_reducible rfl)
              refine tkW 11 (some 67) (v := ?_) ?_ hHeld ?_
              rotate_left
              · (intro ww hSw; (try dsimp only at hSw); have q6 : ww.cell? ⟨b1, o1 + i * 6, none⟩ = some (.int .i64 y.k.1) := (hSw.cell (p := ⟨b1, o1 + i * 6, none⟩) HNy.out.1).trans HNy.out.2.1; have q7 : ww.cell? ⟨b1, o1 + i * 6 + 1, none⟩ = some (.int .i64 y.k.2) := (hSw.cell (p := ⟨b1, o1 + i * 6 + 1, none⟩) HNy.out.1).trans HNy.out.2.2; go_simp; try with_reducible rfl)
              refine tkW 12 (some 68) (v := ?_) ?_ hHeld ?_
              rotate_left
              · (intro ww hSw; (try dsimp only at hSw); go_simp; try with_reducible rfl)
              refine wpAnyH_done (by kernel_rfl) ?_ _
              clear hHeld hq
              go_wp2_with (at_builtin; refine StpD.to ?_)
              refine StpD.of ?_
              obtain ⟨W6, eW6⟩ : ∃ X, X = Ui14u0.alloc (.cells #[.int .i64 (m : Int)] 3) := ⟨_, rfl⟩
              have hq : W6.heap[Ui14u0.heap.size]? = some (.cells (intCells (m : Int)).toArray 3) := (by rw [eW6]; exact heap_alloc_new _ _)
              have hb4 : Below Ui14u0.heap.size Ui14u0 W6 := (by rw [eW6]; exact (Below.refl _ _).alloc (Nat.le_refl _) _)
              rw [← eW6]
              replace HS := hide9 (HS.out.below hb4)
              clear eW6 hb4
              refine wpList_app1E (enc := intCells) (n := 1) (fun _ => rfl) (T := 3) Try.underlying78 hi1 hy0 hy1 hy2 rfl (by decide) (by decide) rfl _ _ rfl W2.heap.size _ Q rfl HS.out.b Ui14u0.heap.size (m : Int) rfl hq (intOne _) (Nat.le_trans HQl.out (by decide)) HS.out.bel.size ?_
              intro g2 c2 W7 ho hg
              replace HS := hide9 (HS.out.pushB hg ho)
              clear hq ho hg
              go_wp2
              go_roundw
              case rel => exact ⟨m + 1, _, by go_num, by omega, HS, (by show _ = _; rw [HQk.out, if_pos Heq.out])⟩
              case measure => simp [intOf]; omega
          · have m1 : ¬ (m : Int) < (x.ks.length : Int) := by omega
            have em : m = x.ks.length := by omega
            subst em
            rw [List.take_length] at HQ
            obtain ⟨v0, v1, v2, v3, v4, v5⟩ := row6d HNx.out
            go_wp2
            clear v0 v1 v2 v3 v4 v5
            go_roundw
            case rel => exact ⟨i + 1, _, _, by go_num, by omega, HS, (by show _ ∧ _; rw [Htk1.out, Htk2.out]; simp only [if_true, ite_true]; exact ⟨HK2.out, HQ.out⟩)⟩
            case measure => simp [intOf]; omega
    · have k1 : ¬ (i : Int) < (n.ks.length : Int) := by omega
      have ei : i = n.ks.length := by omega
      obtain ⟨y0, y1, y2, y3, y4, y5⟩ := row6d HN3.out
      go_wp2
      clear y0 y1 y2 y3 y4 y5
      (try rw [Exit.noGoto_ret])
      go_ret2
      exact ⟨_, _, rfl, OwnE.low (by rw [← List.take_length (l := n.ks), ← ei, ← HP.out.1]; exact HS.out.a) HL.out.size, OwnE.low (by rw [Hwx.out]; have h9 := HP.out.2; rw [ei, List.take_length] at h9; rw [← h9]; exact HS.out.b) HL.out.size, HL.out.trans (HS.out.bel.mono HL.out.size)⟩
end Go.Proofs.Ythhnglpkfcmjiaa

namespace Go.Proofs.Ythhnglpkfcmjiaa
open Go.RowKit Go.Shelf
set_option linter.unusedVariables false
set_option linter.unusedSimpArgs false
attribute [local go_sem] Oper.semAt_some
theorem flT_sz {t x : VT} (h : x ∈ flT t) : x.sz ≤ t.sz := by
  rw [← flatS_t default t (0, 0) 0 0 0] at h
  obtain ⟨y, hy, rfl⟩ := List.mem_map.1 h
  exact flat_ks hy
set_option maxRecDepth 100000 in
set_option maxHeartbeats 8000000 in
theorem refShifted_any (G G2 G3 : Nat → Prop) (a b n : VT) (va vb vn : Value) (w : World) (ha : VIs G w va a) (hb : VIs G2 w vb b) (hn : VIs G3 w vn n) (hsa : a.sz ≤ 1048576) (hsb : b.sz ≤ 1048576) (hsn : n.sz ≤ 1048576) (hpl : (plD a b (wasT a n.k) n.ks).length ≤ 1048576) (hlen : (plD a b (wasT a n.k) n.ks).length = (stK a b n.ks).length) :
    Calls Try.prog 26 #[va, vb, vn] w fun e w' => ∃ v, e = .returned v ∧ OwnSt w.heap.size w' v (shD a b n) ∧ Below w.heap.size w w' := by
  obtain ⟨na, cn, nk, dn, e3, _⟩ := hn.form
  subst e3
  obtain ⟨aa, ca, ak, da, e1, _⟩ := ha.form
  obtain ⟨ba, cb, bk, db, e2, _⟩ := hb.form
  subst e1 e2
  obtain ⟨W0, eW⟩ : ∃ X, X = ((w.alloc (.cells #[.int .i64 a.k.1, .int .i64 a.k.2, .string a.tg, .string a.tx, .slice aa a.at_.length ca, .slice ak a.ks.length da] 27)).alloc (.cells #[.int .i64 b.k.1, .int .i64 b.k.2, .string b.tg, .string b.tx, .slice ba b.at_.length cb, .slice bk b.ks.length db] 27)).alloc (.cells #[.int .i64 n.k.1, .int .i64 n.k.2, .string n.tg, .string n.tx, .slice na n.at_.length cn, .slice nk n.ks.length dn] 27) := ⟨_, rfl⟩
  have hb0 : Below w.heap.size w W0 := (by rw [eW]; exact (((Below.refl _ _).alloc (Nat.le_refl _) _).alloc (by simp) _).alloc (by simp; omega) _)
  have HR1 : Hid (W0.heap[w.heap.size]? = some (.cells #[.int .i64 a.k.1, .int .i64 a.k.2, .string a.tg, .string a.tx, .slice aa a.at_.length ca, .slice ak a.ks.length da] 27)) := (by show _ = _; rw [eW, Below.heap_alloc _ _ _ (by simp; omega), Below.heap_alloc _ _ _ (by simp)]; exact heap_alloc_new _ _)
  have HR2 : Hid (W0.heap[w.heap.size + 1]? = some (.cells #[.int .i64 b.k.1, .int .i64 b.k.2, .string b.tg, .string b.tx, .slice ba b.at_.length cb, .slice bk b.ks.length db] 27)) := (by show _ = _; rw [eW, Below.heap_alloc _ _ _ (by simp)]; have h9 := heap_alloc_new (w.alloc (.cells #[.int .i64 a.k.1, .int .i64 a.k.2, .string a.tg, .string a.tx, .slice aa a.at_.length ca, .slice ak a.ks.length da] 27)) (.cells #[.int .i64 b.k.1, .int .i64 b.k.2, .string b.tg, .string b.tx, .slice ba b.at_.length cb, .slice bk b.ks.length db] 27); rw [show (w.alloc (.cells #[.int .i64 a.k.1, .int .i64 a.k.2, .string a.tg, .string a.tx, .slice aa a.at_.length ca, .slice ak a.ks.length da] 27)).heap.size = w.heap.size + 1 by simp] at h9; exact h9)
  have HR3 : Hid (W0.heap[w.heap.size + 2]? = some (.cells #[.int .i64 n.k.1, .int .i64 n.k.2, .string n.tg, .string n.tx, .slice na n.at_.length cn, .slice nk n.ks.length dn] 27)) := (by show _ = _; rw [eW]; have h9 := heap_alloc_new ((w.alloc (.cells #[.int .i64 a.k.1, .int .i64 a.k.2, .string a.tg, .string a.tx, .slice aa a.at_.length ca, .slice ak a.ks.length da] 27)).alloc (.cells #[.int .i64 b.k.1, .int .i64 b.k.2, .string b.tg, .string b.tx, .slice ba b.at_.length cb, .slice bk b.ks.length db] 27)) (.cells #[.int .i64 n.k.1, .int .i64 n.k.2, .string n.tg, .string n.tx, .slice na n.at_.length cn, .slice nk n.ks.length dn] 27); rw [show ((w.alloc (.cells #[.int .i64 a.k.1, .int .i64 a.k.2, .string a.tg, .string a.tx, .slice aa a.at_.length ca, .slice ak a.ks.length da] 27)).alloc (.cells #[.int .i64 b.k.1, .int .i64 b.k.2, .string b.tg, .string b.tx, .slice ba b.at_.length cb, .slice bk b.ks.length db] 27)).heap.size = w.heap.size + 2 by simp] at h9; exact h9)
  have HN : Hid (VIs G3 W0 (.agg #[.int .i64 n.k.1, .int .i64 n.k.2, .string n.tg, .string n.tx, .slice na n.at_.length cn, .slice nk n.ks.length dn]) n) := hn.below hb0
  have HA : Hid (VIs G W0 (.agg #[.int .i64 a.k.1, .int .i64 a.k.2, .string a.tg, .string a.tx, .slice aa a.at_.length ca, .slice ak a.ks.length da]) a) := ha.below hb0
  have HB : Hid (VIs G2 W0 (.agg #[.int .i64 b.k.1, .int .i64 b.k.2, .string b.tg, .string b.tx, .slice ba b.at_.length cb, .slice bk b.ks.length db]) b) := hb.below hb0
  have HE := hide9 eW
  have HL := hide9 hb0
  clear eW hb0 ha hb hn
  go_enter Try.func26, Try.ntmps26
  go_upto_region 1 with fail
  rw [← HE.out]
  clear HE
  obtain ⟨y0, y1, y2, y3, y4, y5⟩ := row6d HR1.out
  obtain ⟨z0, z1, z2, z3, z4, z5⟩ := row6d HR2.out
  obtain ⟨x0, x1, x2, x3, x4, x5⟩ := row6d HR3.out
  go_wp2_with fail
  clear y0 y1 y2 y3 y4 y5
  clear z0 z1 z2 z3 z4 z5
  clear x0 x1 x2 x3 x4 x5
  refine (refPlaces_any G G2 G3 a b n _ _ _ _ HA.out HB.out HN.out hsa hsb hsn hpl).mono ?_
  rintro e w1 ⟨kv, pv, rfl, hk, hp, hb1⟩
  obtain ⟨KL, eKL⟩ : ∃ l, l = stK a b n.ks := ⟨_, rfl⟩
  obtain ⟨PL, ePL⟩ : ∃ l, l = plD a b (wasT a n.k) n.ks := ⟨_, rfl⟩
  rw [← eKL] at hk hlen
  rw [← ePL] at hp hlen hpl
  have HKP := hide9 (And.intro eKL ePL)
  have Hll : Hid (PL.length ≤ 1048576 ∧ KL.length = PL.length) := ⟨hpl, hlen.symm⟩
  obtain ⟨ka, kc, e1⟩ := OwnE.form hk
  obtain ⟨pa, pc, e2⟩ := OwnE.form hp
  subst e1 e2
  replace HL := hide9 (HL.out.trans (hb1.mono HL.out.size))
  have HK := hide9 hk
  clear HA HB HN HR1 HR2 HR3 eKL ePL hpl hlen hb1
  have hI : OwnI W0.heap.size w1 (.slice pa PL.length pc) PL := (by have h9 := hp; unfold OwnE at h9; rw [flat_int] at h9; exact h9)
  have HI9 := hide9 (hI.isI (Nat.le_trans Hll.out.1 (by decide)))
  clear hI hp hk
  go_wp2_with fail
  refine (refOthers_any _ PL _ HI9.out).mono ?_
  rintro e w2 ⟨ov, rfl, ho, hb2⟩
  obtain ⟨oa, oc, eo⟩ := ho.form
  subst eo
  have Hol : Hid ((othL PL).length ≤ PL.length) := oth_len _ _ _
  have hI2 := ho.isI (Nat.le_trans Hol.out (Nat.le_trans Hll.out.1 (by decide)))
  replace HL := hide9 (HL.out.trans (hb2.mono HL.out.size))
  replace HK := hide9 (OwnE.below HK.out hb2)
  clear hb2 HI9 ho
  obtain ⟨O, eO⟩ : ∃ O, O = othL PL := ⟨_, rfl⟩
  rw [← eO] at Hol hI2 ⊢
  have HO := hide9 eO
  clear eO
  obtain ⟨W3, eW3⟩ : ∃ X, X = w2.alloc (.cells #[] 23) := ⟨_, rfl⟩
  have hb3 : Below w2.heap.size w2 W3 := (by rw [eW3]; exact (Below.refl _ _).alloc (Nat.le_refl _) _)
  have hs : OwnE stCells 2 23 w2.heap.size W3 (.slice (some ⟨w2.heap.size, 0, none⟩) 0 0) [] := (by rw [eW3]; exact World.ownsRow_made w2 #[] 0 (Nat.le_refl _) (by unfold maxLen; omega) (by simp))
  have HS : Hid (OwnSt w2.heap.size W3 (.slice (some ⟨w2.heap.size, 0, none⟩) 0 0) [] ∧ Below w2.heap.size w2 W3) := ⟨hs, hb3⟩
  have HE := hide9 eW3
  obtain ⟨oa9, oc9, eo9, hoc, _, hoI⟩ := hI2
  injection eo9 with e1 _ e3
  subst e1 e3
  have HI := hide9 hoI
  clear hoI hoc eW3 hb3 hs
  obtain ⟨i2, hi2, hx0, hx1, hx2⟩ := info_parts infoSt9
  have hol9 : O.length ≤ 1048576 := Nat.le_trans Hol.out Hll.out.1
  have hkl9 : KL.length ≤ 1048576 := Hll.out.2 ▸ Hll.out.1
  go_upto_region 4 with fail
  rw [← HE.out]
  clear HE
  go_wp2
  go_loopw [10, 11] (fun sv iv wr => ∃ (j : Nat) (P : List St), iv = .int .i64 (j : Int) ∧ j ≤ O.length ∧ Hid (OwnSt w2.heap.size wr sv P ∧ Below w2.heap.size w2 wr) ∧ Hid (P = (O.take j).map fun i => KL.getD i.toNat (0, 0))) (fun _ iv _ => O.length - (intOf iv).toNat)
  case atStart => exact ⟨0, [], rfl, Nat.zero_le _, HS, rfl⟩
  case round =>
    clear HS
    obtain ⟨j, P, rfl, hj, HS, HP⟩ := hrel
    obtain ⟨sa, sc, e1⟩ := OwnE.form HS.out.1
    subst e1
    have HPl : Hid (P.length ≤ 1048576) := (by show _ ≤ _; rw [HP.out, List.length_map, List.length_take]; omega)
    by_cases hjt : j < O.length
    · obtain ⟨m, em, hm⟩ : ∃ m : Nat, O[j] = (m : Int) ∧ m < KL.length := (by have h8 : ∀ p ∈ O, ∃ m : Nat, p = (m : Int) ∧ m < 0 + PL.length := (by rw [HO.out]; exact oth_at _ _ _); obtain ⟨m, e, h9⟩ := h8 _ (List.getElem_mem hjt); exact ⟨m, e, by have := Hll.out.2; omega⟩)
      obtain ⟨og, oo, ego, hIA⟩ := HI.out.resolve_left (fun e => by rw [e] at hjt; simp at hjt)
      subst ego
      have c0 := hIA j hjt
      rw [em] at c0
      obtain ⟨kg, kcp, ek, _, hkc, _⟩ := OwnE.cells stCells_len HK.out hm
      injection ek with ek1 ek2 ek3
      subst ek1 ek3
      have c1 := hkc 0 _ rfl
      have c2 := hkc 1 _ rfl
      have d0 := (HS.out.2.cell (p := ⟨og, oo + j, none⟩) (cell_lt (p := ⟨og, oo + j, none⟩) c0)).trans c0
      have d1 := (HS.out.2.cell (p := ⟨kg, m * 2 + 0, none⟩) (cell_lt (p := ⟨kg, m * 2 + 0, none⟩) c1)).trans c1
      have d2 := (HS.out.2.cell (p := ⟨kg, m * 2 + 1, none⟩) (cell_lt (p := ⟨kg, m * 2 + 1, none⟩) c2)).trans c2
      rw [Nat.add_zero] at d1
      obtain ⟨x, ex⟩ : ∃ x, x = KL[m] := ⟨_, rfl⟩
      rw [← ex] at d1 d2
      have Hx : Hid ((O.take (j + 1)).map (fun i => KL.getD i.toNat (0, 0)) = P ++ [x]) := (by show _ = _; rw [List.take_succ_eq_append_getElem hjt, List.map_append, ← HP.out, em, ex]; simp [hm])
      have j1 : (j : Int) < (O.length : Int) := by omega
      have j0 : (0 : Int) ≤ (j : Int) := by omega
      have m1 : (m : Int) < (KL.length : Int) := by omega
      have m0 : (0 : Int) ≤ (m : Int) := by omega
      clear c0 c1 c2 hkc hIA ex em
      go_wp2_with (at_builtin; refine StpD.to ?_)
      refine StpD.of ?_
      clear d0 d1 d2
      obtain ⟨W4, eW4⟩ : ∃ X, X = wr.alloc (.cells #[.int .i64 x.1, .int .i64 x.2] 23) := ⟨_, rfl⟩
      have hq : W4.heap[wr.heap.size]? = some (.cells (stCells x).toArray 23) := (by rw [eW4]; exact heap_alloc_new _ _)
      have hb4 : Below wr.heap.size wr W4 := (by rw [eW4]; exact (Below.refl _ _).alloc (Nat.le_refl _) _)
      rw [← eW4]
      have h1 : OwnSt w2.heap.size W4 (.slice sa P.length sc) P := OwnE.below HS.out.1 hb4
      have h2 : Below w2.heap.size w2 W4 := HS.out.2.trans (hb4.mono HS.out.2.size)
      clear eW4 hb4
      refine wpList_app1E (enc := stCells) (n := 2) (fun _ => rfl) (T := 23) Try.underlying42 hi2 hx0 hx1 hx2 rfl (by decide) (by decide) rfl _ _ rfl w2.heap.size _ P rfl h1 wr.heap.size x rfl hq (stOne x) (Nat.le_trans HPl.out (by decide)) h2.size ?_
      intro g c W5 ho hg
      have HS5 : Hid (OwnSt w2.heap.size W5 (.slice (some ⟨g, 0, none⟩) (P.length + 1) c) (P ++ [x]) ∧ Below w2.heap.size w2 W5) := ⟨ho, h2.grown hg h2.size (fun k e => (OwnE.lt h1 k e).1)⟩
      clear hq ho hg h1 h2 HS
      go_wp2
      go_roundw
      case rel => exact ⟨j + 1, _, by go_num, by omega, HS5, Hx.out.symm⟩
      case measure => simp [intOf]; omega
    · have ej : j = O.length := by omega
      have j1 : ¬ (j : Int) < (O.length : Int) := by omega
      go_wp2
      (try rw [Exit.noGoto_ret])
      go_ret
      exact ⟨_, rfl, OwnE.low (by unfold shD; rw [← HKP.out.1, ← HKP.out.2, ← HO.out]; have h9 := HP.out; rw [ej, List.take_length] at h9; rw [← h9]; exact HS.out.1) HL.out.size, HL.out.trans (HS.out.2.mono HL.out.size)⟩
end Go.Proofs.Ythhnglpkfcmjiaa

namespace Go.Proofs.Ythhnglpkfcmjiaa
open Go.RowKit Go.Shelf
set_option linter.unusedVariables false
set_option linter.unusedSimpArgs false
attribute [local go_sem] Oper.semAt_some
theorem oth_up : ∀ (t : List Int) (f i : Nat), (∀ p ∈ oth t f i, (i : Int) ≤ p) ∧ (oth t f i).Pairwise (· < ·)
  | _, 0, i => ⟨fun p h => by simp [oth] at h, by simp [oth]⟩
  | [], f + 1, i => by
    obtain ⟨h1, h2⟩ := oth_up [] f (i + 1)
    rw [oth_no (fun p e => by simp at e)]
    refine ⟨fun p h => ?_, List.pairwise_cons.2 ⟨fun p h => by have := h1 p h; omega, h2⟩⟩
    rcases List.mem_cons.1 h with rfl | h
    · omega
    · have := h1 p h; omega
  | q :: t, f + 1, i => by
    by_cases e : q = (i : Int)
    · subst e
      obtain ⟨h1, h2⟩ := oth_up t f (i + 1)
      rw [oth_yes]
      exact ⟨fun p h => by have := h1 p h; omega, h2⟩
    · obtain ⟨h1, h2⟩ := oth_up (q :: t) f (i + 1)
      rw [oth_no (fun p e2 => by simp at e2; subst e2; exact e)]
      refine ⟨fun p h => ?_, List.pairwise_cons.2 ⟨fun p h => by have := h1 p h; omega, h2⟩⟩
      rcases List.mem_cons.1 h with rfl | h
      · omega
      · have := h1 p h; omega
theorem shD_nodup {a b n : VT} (hna : ((flT a).map VT.k).Nodup) (hnb : ((flT b).map VT.k).Nodup) (hk : a.k = b.k) (hn : n ∈ flT b) : (shD a b n).Nodup := by
  have hlen := plD_len hna hnb hk hn
  have hks : (stK a b n.ks).Nodup := by
    unfold stK
    refine List.Nodup.sublist List.filter_sublist ?_
    rw [← flatS_t default b (0, 0) 0 0 0] at hn
    obtain ⟨x, hx, rfl⟩ := List.mem_map.1 hn
    exact ks_nodup hnb hx
  unfold shD List.Nodup
  rw [List.pairwise_map]
  refine List.Pairwise.imp_of_mem (fun {p q} hp hq hlt e => ?_) (oth_up _ _ 0).2
  obtain ⟨i, ei, hi⟩ := oth_at _ _ _ p hp
  obtain ⟨j, ej, hj⟩ := oth_at _ _ _ q hq
  subst ei ej
  have hi2 : i < (stK a b n.ks).length := by omega
  have hj2 : j < (stK a b n.ks).length := by omega
  simp only [Int.toNat_natCast, List.getD_eq_getElem?_getD, List.getElem?_eq_getElem hi2, List.getElem?_eq_getElem hj2, Option.getD_some] at e
  exact (List.pairwise_iff_getElem.1 hks) i j hi2 hj2 (by omega) e
end Go.Proofs.Ythhnglpkfcmjiaa

namespace Go.Proofs.Ythhnglpkfcmjiaa
open Go.RowKit Go.Shelf
set_option linter.unusedVariables false
set_option linter.unusedSimpArgs false
theorem stL_one {D : List Sd} {p : St} {x : VT} {z : St × Int} (h : stL D p [x] = [z]) : ∃ y, getP skU D x.k = some y ∧ y.a = p := by
  unfold stL at h
  cases hg : getP skU D x.k with
  | none => simp [hg] at h
  | some y =>
    by_cases e : y.a = p
    · exact ⟨y, rfl, e⟩
    · simp [hg, e] at h
section
variable {w : World} {a b : VT} {Ba Bb : Nat}
theorem shD_stK {n : VT} (hlen : (plD a b (wasT a n.k) n.ks).length = (stK a b n.ks).length) {s : St} (h : s ∈ shD a b n) : s ∈ stK a b n.ks := by
  unfold shD at h
  obtain ⟨p, hp, rfl⟩ := List.mem_map.1 h
  obtain ⟨i, ei, hi⟩ := oth_at _ _ _ p hp
  subst ei
  have hi2 : i < (stK a b n.ks).length := by omega
  simp only [Int.toNat_natCast, List.getD_eq_getElem?_getD, List.getElem?_eq_getElem hi2, Option.getD_some]
  exact List.getElem_mem hi2
end
end Go.Proofs.Ythhnglpkfcmjiaa

namespace Go.Proofs.Ythhnglpkfcmjiaa
open Go.RowKit Go.Shelf
set_option linter.unusedVariables false
set_option linter.unusedSimpArgs false
def UpA (l : List At) : Prop := l.Pairwise fun x y => ltT x.1 y.1 = true
theorem chkA_up : ∀ (l : List At) (p : ByteArray), chkA p l = 0 → (∀ x ∈ l, ltT p x.1 = true) ∧ UpA l
  | [], _, _ => ⟨fun x h => by simp at h, List.Pairwise.nil⟩
  | x :: r, p, h => by
    rw [chkA] at h
    split at h
    · omega
    · split at h
      · omega
      · split at h
        · omega
        · rename_i h3
          obtain ⟨h1, h2⟩ := chkA_up r x.1 h
          have hp : ltT p x.1 = true := by simpa using h3
          refine ⟨fun y hy => ?_, List.pairwise_cons.2 ⟨h1, h2⟩⟩
          rcases List.mem_cons.1 hy with rfl | hy
          · exact hp
          · exact ltT_trans hp (h1 y hy)
/-- The names of two lists of attributes, each once. -/
def namL : List At → List At → List ByteArray
  | [], [] => []
  | o :: r, [] => o.1 :: namL r []
  | [], a :: s => a.1 :: namL [] s
  | o :: r, a :: s => if ltT o.1 a.1 = true then o.1 :: namL r (a :: s) else if o.1 = a.1 then a.1 :: namL r s else a.1 :: namL (o :: r) s
termination_by O A => O.length + A.length
theorem nam_mem : ∀ (n : Nat) (O A : List At), O.length + A.length ≤ n → ∀ m ∈ namL O A, (∃ x ∈ O, x.1 = m) ∨ ∃ x ∈ A, x.1 = m
  | n, [], [], _, m, h => by rw [namL] at h; simp at h
  | n + 1, o :: r, [], hn, m, h => by
    rw [namL] at h
    rcases List.mem_cons.1 h with rfl | h
    · exact .inl ⟨o, List.mem_cons_self .., rfl⟩
    · rcases nam_mem n r [] (by simp at hn ⊢; omega) m h with ⟨x, hx, e⟩ | ⟨x, hx, e⟩
      · exact .inl ⟨x, List.mem_cons_of_mem _ hx, e⟩
      · exact .inr ⟨x, hx, e⟩
  | n + 1, [], a :: s, hn, m, h => by
    rw [namL] at h
    rcases List.mem_cons.1 h with rfl | h
    · exact .inr ⟨a, List.mem_cons_self .., rfl⟩
    · rcases nam_mem n [] s (by simp at hn ⊢; omega) m h with ⟨x, hx, e⟩ | ⟨x, hx, e⟩
      · exact .inl ⟨x, hx, e⟩
      · exact .inr ⟨x, List.mem_cons_of_mem _ hx, e⟩
  | 0, o :: r, A, hn, _, _ => by simp at hn
  | 0, [], a :: s, hn, _, _ => by simp at hn
  | n + 1, o :: r, a :: s, hn, m, h => by
    rw [namL] at h
    simp only [List.length_cons] at hn
    split at h
    · rcases List.mem_cons.1 h with rfl | h
      · exact .inl ⟨o, List.mem_cons_self .., rfl⟩
      · rcases nam_mem n r (a :: s) (by simp; omega) m h with ⟨x, hx, e⟩ | ⟨x, hx, e⟩
        · exact .inl ⟨x, List.mem_cons_of_mem _ hx, e⟩
        · exact .inr ⟨x, hx, e⟩
    · split at h
      · rcases List.mem_cons.1 h with rfl | h
        · exact .inr ⟨a, List.mem_cons_self .., rfl⟩
        · rcases nam_mem n r s (by omega) m h with ⟨x, hx, e⟩ | ⟨x, hx, e⟩
          · exact .inl ⟨x, List.mem_cons_of_mem _ hx, e⟩
          · exact .inr ⟨x, List.mem_cons_of_mem _ hx, e⟩
      · rcases List.mem_cons.1 h with rfl | h
        · exact .inr ⟨a, List.mem_cons_self .., rfl⟩
        · rcases nam_mem n (o :: r) s (by simp; omega) m h with ⟨x, hx, e⟩ | ⟨x, hx, e⟩
          · exact .inl ⟨x, hx, e⟩
          · exact .inr ⟨x, List.mem_cons_of_mem _ hx, e⟩
theorem nam_len : ∀ (n : Nat) (O A : List At), O.length + A.length ≤ n → (namL O A).length ≤ O.length + A.length
  | n, [], [], _ => by rw [namL]; simp
  | n + 1, o :: r, [], hn => by rw [namL, List.length_cons]; have := nam_len n r [] (by simp at hn ⊢; omega); simp at this ⊢; omega
  | n + 1, [], a :: s, hn => by rw [namL, List.length_cons]; have := nam_len n [] s (by simp at hn ⊢; omega); simp at this ⊢; omega
  | 0, o :: r, A, hn => by simp at hn
  | 0, [], a :: s, hn => by simp at hn
  | n + 1, o :: r, a :: s, hn => by
    simp only [List.length_cons] at hn
    have h1 := nam_len n r (a :: s) (by simp; omega)
    have h2 := nam_len n r s (by omega)
    have h3 := nam_len n (o :: r) s (by simp; omega)
    rw [namL]
    simp only [List.length_cons] at h1 h3 ⊢
    split
    · rw [List.length_cons]; omega
    · split <;> (rw [List.length_cons]; omega)
def attrO (l : List At) (m : ByteArray) : Option ByteArray := (l.find? fun x => decide (x.1 = m)).map Prod.snd
theorem attrO_ne {o : At} {r : List At} {m : ByteArray} (h : o.1 ≠ m) : attrO (o :: r) m = attrO r m := by
  unfold attrO
  rw [List.find?_cons_of_neg (by simpa using h)]
theorem attrO_eq (o : At) (r : List At) : attrO (o :: r) o.1 = some o.2 := by
  unfold attrO
  rw [List.find?_cons_of_pos (by simp)]
  rfl
theorem attrO_none {l : List At} {m : ByteArray} (h : ∀ x ∈ l, x.1 ≠ m) : attrO l m = none := by
  unfold attrO
  rw [List.find?_eq_none.2 (fun x hx => by simpa using h x hx)]
  rfl
/-- The step of a name. -/
def stA (k : St) (O A : List At) (m : ByteArray) : List Pa := match attrO A m with
  | none => [⟨9, k, (0, 0), (0, 0), m, ⟨#[]⟩⟩]
  | some y => match attrO O m with
    | some x => if x = y then [] else [⟨8, k, (0, 0), (0, 0), m, y⟩]
    | none => [⟨8, k, (0, 0), (0, 0), m, y⟩]
theorem flat_congr {α β : Type} {l : List α} {f g : α → List β} (h : ∀ x ∈ l, f x = g x) : l.flatMap f = l.flatMap g := by
  induction l with
  | nil => rfl
  | cons x r ih => rw [List.flatMap_cons, List.flatMap_cons, h x (List.mem_cons_self ..), ih fun y hy => h y (List.mem_cons_of_mem _ hy)]
theorem stA_len (k : St) (O A : List At) (m : ByteArray) : (stA k O A m).length ≤ 1 := by
  unfold stA
  split
  · simp
  · split
    · split <;> simp
    · simp
theorem lt_ne {a b : ByteArray} (h : ltT a b = true) : a ≠ b := fun e => by rw [e, ltT_irr] at h; cases h
theorem own_at (k : St) : ∀ (n : Nat) (O A : List At), O.length + A.length ≤ n → UpA O → UpA A → (namL O A).flatMap (stA k O A) = wrA k O A
  | n, [], [], _, _, _ => by rw [namL, wrA]; rfl
  | n + 1, o :: r, [], hn, hO, hA => by
    obtain ⟨h1, h2⟩ := List.pairwise_cons.1 hO
    rw [namL, wrA, List.flatMap_cons, ← own_at k n r [] (by simp at hn ⊢; omega) h2 hA]
    have e : stA k (o :: r) [] o.1 = [pC k o] := by unfold stA; rw [attrO_none (by simp)]; rfl
    rw [e, flat_congr (g := stA k r []) fun m hm => ?_]
    · rfl
    · rcases nam_mem _ _ _ (Nat.le_refl _) m hm with ⟨x, hx, rfl⟩ | ⟨x, hx, _⟩
      · unfold stA; rw [attrO_ne (lt_ne (h1 x hx))]
      · simp at hx
  | n + 1, [], a :: s, hn, hO, hA => by
    obtain ⟨h1, h2⟩ := List.pairwise_cons.1 hA
    rw [namL, wrA, List.flatMap_cons, ← own_at k n [] s (by simp at hn ⊢; omega) hO h2]
    have e : stA k [] (a :: s) a.1 = [pS k a] := by unfold stA; rw [attrO_eq, attrO_none (by simp)]; rfl
    rw [e, flat_congr (g := stA k [] s) fun m hm => ?_]
    · rfl
    · rcases nam_mem _ _ _ (Nat.le_refl _) m hm with ⟨x, hx, _⟩ | ⟨x, hx, rfl⟩
      · simp at hx
      · unfold stA; rw [attrO_ne (lt_ne (h1 x hx))]
  | 0, o :: r, A, hn, _, _ => by simp at hn
  | 0, [], a :: s, hn, _, _ => by simp at hn
  | n + 1, o :: r, a :: s, hn, hO, hA => by
    simp only [List.length_cons] at hn
    obtain ⟨h1, h2⟩ := List.pairwise_cons.1 hO
    obtain ⟨g1, g2⟩ := List.pairwise_cons.1 hA
    rw [namL, wrA]
    by_cases hlt : ltT o.1 a.1 = true
    · rw [if_pos hlt, if_pos hlt, List.flatMap_cons, ← own_at k n r (a :: s) (by simp; omega) h2 hA]
      have ha : ∀ x ∈ a :: s, ltT o.1 x.1 = true := fun x hx => by
        rcases List.mem_cons.1 hx with rfl | hx
        · exact hlt
        · exact ltT_trans hlt (g1 x hx)
      have e : stA k (o :: r) (a :: s) o.1 = [pC k o] := by unfold stA; rw [attrO_none fun x hx e => lt_ne (ha x hx) e.symm]; rfl
      rw [e, flat_congr (g := stA k r (a :: s)) fun m hm => ?_]
      · rfl
      · rcases nam_mem _ _ _ (Nat.le_refl _) m hm with ⟨x, hx, rfl⟩ | ⟨x, hx, rfl⟩
        · unfold stA; rw [attrO_ne (lt_ne (h1 x hx))]
        · unfold stA; rw [attrO_ne (lt_ne (ha x hx))]
    · rw [if_neg hlt, if_neg hlt]
      by_cases heq : o.1 = a.1
      · rw [if_pos heq, if_neg (by rw [heq, ltT_irr]; simp), List.flatMap_cons, ← own_at k n r s (by omega) h2 g2]
        have e : stA k (o :: r) (a :: s) a.1 = if o.2 = a.2 then [] else [pS k a] := by unfold stA; rw [attrO_eq, ← heq, attrO_eq, heq]; rfl
        rw [e, flat_congr (g := stA k r s) fun m hm => ?_]
        rcases nam_mem _ _ _ (Nat.le_refl _) m hm with ⟨x, hx, rfl⟩ | ⟨x, hx, rfl⟩
        · have q := lt_ne (h1 x hx)
          unfold stA; rw [attrO_ne q, attrO_ne (heq ▸ q)]
        · have q := lt_ne (g1 x hx)
          unfold stA; rw [attrO_ne q, attrO_ne (heq.symm ▸ q)]
      · have hgt : ltT a.1 o.1 = true := (ltT_or heq).resolve_left hlt
        rw [if_neg heq, if_pos hgt, List.flatMap_cons, ← own_at k n (o :: r) s (by simp; omega) hO g2]
        have ho : ∀ x ∈ o :: r, ltT a.1 x.1 = true := fun x hx => by
          rcases List.mem_cons.1 hx with rfl | hx
          · exact hgt
          · exact ltT_trans hgt (h1 x hx)
        have e : stA k (o :: r) (a :: s) a.1 = [pS k a] := by unfold stA; rw [attrO_eq, attrO_none fun x hx e => lt_ne (ho x hx) e.symm]; rfl
        rw [e, flat_congr (g := stA k (o :: r) s) fun m hm => ?_]
        · rfl
        · rcases nam_mem _ _ _ (Nat.le_refl _) m hm with ⟨x, hx, rfl⟩ | ⟨x, hx, rfl⟩
          · unfold stA; rw [attrO_ne (lt_ne (ho x hx))]
          · unfold stA; rw [attrO_ne (lt_ne (g1 x hx))]
/-- A node's own steps, as the document has them. -/
def ownD (old : Bool) (was n : VT) : List Pa := (if old = true ∧ was.tg ≠ n.tg then [pTg n.k n.tg] else []) ++ (if was.tx ≠ n.tx then [pTx n.k n.tx] else []) ++ (namL was.at_ n.at_).flatMap (stA n.k was.at_ n.at_)
/-- The steps of a kid that is to stand behind s. -/
def kdK (a b : VT) (M : List St) (p s : St) (x : VT) : List Pa := (if hasT a x.k = true then [] else [pM x.k x.tg]) ++ (if stdB a b x.k = true then [] else [pP x.k p s]) ++ (M.filter fun m => decide (m = x.k)).map fun _ => pH x.k s
def kdL (a b : VT) (M : List St) (p : St) : St → List VT → List Pa
  | _, [] => []
  | s, x :: r => kdK a b M p s x ++ kdL a b M p x.k r
theorem kdL_snoc (a b : VT) (M : List St) (p : St) : ∀ (s : St) (l : List VT) (x : VT), kdL a b M p s (l ++ [x]) = kdL a b M p s l ++ kdK a b M p (lstK s l) x
  | s, [], x => by simp [kdL, lstK]
  | s, y :: r, x => by rw [List.cons_append, kdL, kdL, kdL_snoc a b M p y.k r x, List.append_assoc]; rfl
def tkD (a b : VT) (s : St) : List Pa := if hasT b s = false ∨ strB a b s = true then [pK 1 s] else []
def dpD (b : VT) (s : St) : List Pa := if hasT b s = false then [pK 2 s] else []
def nodD (a b n : VT) : List Pa := ownD (hasT a n.k) (wasT a n.k) n ++ kdL a b (shD a b n) n.k (0, 0) n.ks
/-- The document's patch. -/
def ofD (a b : VT) : List Pa := (((flT a).map VT.k).flatMap (tkD a b) ++ ((flT a).map VT.k).flatMap (dpD b)) ++ (flT b).flatMap (nodD a b)
section
variable {w : World} {a b : VT} {Ba Bb : Nat}
theorem chk2_up : ∀ (l : List VT) (seen : List St) (i : Nat), chk2 seen i l = 0 → ∀ x ∈ l, UpA x.at_
  | [], _, _, _ => fun x h => by simp at h
  | x :: r, seen, i, h => by
    rw [chk2] at h
    split at h
    · omega
    · split at h
      · omega
      · split at h
        · rename_i h3
          exact absurd h h3
        · rename_i h3
          intro y hy
          rcases List.mem_cons.1 hy with rfl | hy
          · have h4 : chkN y = 0 := by simpa using h3
            unfold chkN at h4
            split at h4
            · omega
            · split at h4
              · omega
              · exact (chkA_up _ _ h4).2
          · exact chk2_up r _ _ h y hy
theorem right_up {t : VT} (h : chkT t = 0) : ∀ x ∈ flT t, UpA x.at_ := by
  unfold chkT at h
  split at h
  · omega
  · rw [chkR_flat] at h
    exact chk2_up _ _ _ h
theorem was_cases (hna : ((flT a).map VT.k).Nodup) (s : St) : (getP skU (flatS w a (0, 0) 0 Ba 0) s = none ∧ hasT a s = false ∧ wasT a s = tZ) ∨ ∃ y, getP skU (flatS w a (0, 0) 0 Ba 0) s = some y ∧ hasT a s = true ∧ wasT a s = y.t ∧ y.t ∈ flT a := by
  cases hg : getP skU (flatS w a (0, 0) 0 Ba 0) s with
  | none =>
    left
    have h1 : hasT a s = false := hasT_no (w := w) (B := Ba) fun z hz => getP_not hg z hz
    refine ⟨rfl, h1, ?_⟩
    unfold hasT at h1
    unfold wasT
    rw [Option.isSome_eq_false_iff, Option.isNone_iff_eq_none] at h1
    rw [h1]
    rfl
  | some y =>
    right
    obtain ⟨hy, hyk⟩ := getP_key hg
    have hyk : y.t.k = s := hyk
    refine ⟨y, rfl, by rw [← hyk]; exact hasT_of hy, ?_, sd_flT hy⟩
    unfold wasT
    rw [← hyk, fnd_of hna (sd_flT hy)]
    rfl
theorem own_eq (hna : ((flT a).map VT.k).Nodup) (hua : ∀ x ∈ flT a, UpA x.at_) {n : VT} (hun : UpA n.at_) : ownD (hasT a n.k) (wasT a n.k) n = wrL (flatS w a (0, 0) 0 Ba 0) n := by
  unfold ownD wrL tgR txR oldD
  rcases was_cases (w := w) (Ba := Ba) hna n.k with ⟨e1, e2, e3⟩ | ⟨y, e1, e2, e3, e4⟩
  · rw [e1, e2, e3, own_at n.k _ tZ.at_ n.at_ (Nat.le_refl _) List.Pairwise.nil hun]
    cases n with
    | node k tg tx at_ ks =>
      simp only [VT.tg, VT.tx, VT.at_, VT.k, tZ]
      by_cases h : tx = ⟨#[]⟩
      · simp [h]
      · have h2 : ¬ (⟨#[]⟩ : ByteArray) = tx := fun e => h e.symm
        simp [h, h2]
  · rw [e1, e2, e3, own_at n.k _ y.t.at_ n.at_ (Nat.le_refl _) (hua _ e4) hun]
    simp only [true_and]
    congr 1
    congr 1
    · by_cases h : n.tg = y.t.tg
      · simp [h]
      · have h2 : ¬ y.t.tg = n.tg := fun e => h e.symm
        simp [h, h2]
    · by_cases h : n.tx = y.t.tx
      · simp [h]
      · have h2 : ¬ y.t.tx = n.tx := fun e => h e.symm
        simp [h, h2]
theorem filter_one {M : List St} (hM : M.Nodup) (k : St) : M.filter (fun m => decide (m = k)) = if k ∈ M then [k] else [] := by
  induction M with
  | nil => simp
  | cons x r ih =>
    rw [List.nodup_cons] at hM
    rw [List.filter_cons]
    by_cases h : x = k
    · subst h
      simp only [decide_true, if_true]
      rw [ih hM.2, if_neg hM.1]
      simp
    · simp only [decide_eq_false h, Bool.false_eq_true, if_false]
      rw [ih hM.2]
      have : ¬ k = x := fun e => h e.symm
      simp [this]
theorem kids_eq (hna : ((flT a).map VT.k).Nodup) (hnb : ((flT b).map VT.k).Nodup) (hk : a.k = b.k) {n : Sd} (hn : n ∈ flatS w b (0, 0) 0 Bb 0) : ∀ (l : List VT) (s : St), (∀ x ∈ l, x ∈ n.t.ks) → kdL a b (shD a b n.t) n.t.k s l = plL (flatS w a (0, 0) 0 Ba 0) (shL (flatS w a (0, 0) 0 Ba 0) n.t) n.t.k s l
  | [], _, _ => rfl
  | x :: r, s, h => by
    rw [kdL, plL, kids_eq hna hnb hk hn r x.k fun y hy => h y (List.mem_cons_of_mem _ hy)]
    congr 1
    have hx := h x (List.mem_cons_self ..)
    have hnt := sd_flT hn
    have hnd := shD_nodup hna hnb hk hnt
    unfold kdK plK
    rw [filter_one hnd, shL_doc hna hnb hk hn]
    rcases std_kid (w := w) (Ba := Ba) hna hnb hk hn hx with ⟨e1, e2⟩ | ⟨i, e1, _, e3⟩
    · have hm : ¬ x.k ∈ shD a b n.t := fun q => by
        have h9 := shD_stK (plD_len hna hnb hk hnt) q
        unfold stK at h9
        rw [(List.mem_filter.1 h9).2] at e1; cases e1
      rw [e1, if_neg hm]
      rcases was_cases (w := w) (Ba := Ba) hna x.k with ⟨g1, g2, _⟩ | ⟨y, g1, g2, _, _⟩
      · rw [g1, g2]
        simp
      · have hya : ¬ y.a = n.t.k := fun e => by
          unfold stL at e2
          simp [g1, e] at e2
        rw [g1, g2]
        simp [hya]
    · obtain ⟨z, hg, hz⟩ := stL_one e3
      have g2 : hasT a x.k = true := by
        unfold stdB at e1
        simp only [Bool.and_eq_true] at e1
        exact e1.1
      rw [e1, g2, hg]
      simp only [if_true, hz, List.nil_append]
      split <;> simp
theorem ea_eq {D A : List Sd} (hA : (A.map skU).Nodup) (f : Sd → Bool) (kd : Int) : eaL (A.filter f) kd A = A.flatMap fun x => if f x = true then [pK kd x.t.k] else [] := by
  have h1 : ∀ x ∈ A, (getP skU (A.filter f) x.t.k).isSome = f x := fun x hx => by
    cases hf : f x with
    | true =>
      rw [get_of (List.Nodup.sublist (List.Sublist.map _ List.filter_sublist) hA) (List.mem_filter.2 ⟨hx, hf⟩)]
      rfl
    | false =>
      cases hg : getP skU (A.filter f) x.t.k with
      | none => rfl
      | some y =>
        obtain ⟨hy, hyk⟩ := getP_key hg
        obtain ⟨hy, hfy⟩ := List.mem_filter.1 hy
        have : y = x := sd_uniq hA hy hx hyk
        rw [this, hf] at hfy; cases hfy
  unfold eaL
  have key : ∀ l : List Sd, (∀ x ∈ l, x ∈ A) → (l.filter fun x => (getP skU (A.filter f) x.t.k).isSome).map (fun x => pK kd x.t.k) = l.flatMap fun x => if f x = true then [pK kd x.t.k] else [] := fun l => by
    induction l with
    | nil => intro _; rfl
    | cons x r ih =>
      intro h
      rw [List.filter_cons, List.flatMap_cons, h1 x (h x (List.mem_cons_self ..)), ← ih fun y hy => h y (List.mem_cons_of_mem _ hy)]
      cases f x <;> simp
  exact key A fun _ h => h
theorem of_eq (hy : whyD a b = 0) : ofD a b = ofL (flatS w a (0, 0) 0 Ba 0) (flatS w b (0, 0) 0 Bb 0) := by
  obtain ⟨g1, g2, hk⟩ := why_right hy
  have hna := right_nodup g1
  have hnb := right_nodup g2
  have hnA := flat_nodup (w := w) (u := (0, 0)) (i := 0) (b := Ba) (o := 0) hna
  unfold ofD ofL lvL
  have e1 : ∀ f : St → List Pa, ((flT a).map VT.k).flatMap f = (flatS w a (0, 0) 0 Ba 0).flatMap fun x => f x.t.k := fun f => by
    rw [← flatS_t w a (0, 0) 0 Ba 0, List.map_map, List.flatMap_map]
    rfl
  have e2 : (flT b).flatMap (nodD a b) = (flatS w b (0, 0) 0 Bb 0).flatMap fun x => nodD a b x.t := by
    rw [← flatS_t w b (0, 0) 0 Bb 0, List.flatMap_map]
  rw [e1, e1, e2]
  unfold tkL gnL
  rw [ea_eq (D := []) hnA, ea_eq (D := []) hnA]
  congr 1
  · congr 1
    · refine flat_congr fun x hx => ?_
      unfold tkD
      have hc : (hasT b x.t.k = false ∨ strB a b x.t.k = true) ↔ (!((flatS w b (0, 0) 0 Bb 0).any fun y => decide (skU y = skU x ∧ y.a = x.a))) = true := by
        simp only [Bool.not_eq_true', List.any_eq_false, decide_eq_true_eq]
        have hax : hasT a x.t.k = true := hasT_of hx
        constructor
        · rintro h y hy ⟨q1, q2⟩
          have q1 : y.t.k = x.t.k := q1
          have hby : hasT b x.t.k = true := by rw [← q1]; exact hasT_of hy
          rcases h with h | h
          · rw [hby] at h; cases h
          · unfold strB at h
            simp only [Bool.and_eq_true, decide_eq_true_eq] at h
            by_cases hr : x.t.k = a.k
            · rw [hr, hk, par_root] at h
              exact absurd h.1.2 (by simp)
            · rw [← q1, par_und hnb hy (by rw [q1, ← hk]; exact hr), q1, par_und hna hx hr] at h
              exact h.2 q2
        · intro h
          by_cases hb : hasT b x.t.k = true
          · right
            obtain ⟨y, hy, hyk⟩ := hasT_get (w := w) (B := Bb) hb
            have hne : y.a ≠ x.a := fun e => h y hy ⟨hyk, e⟩
            have hr : x.t.k ≠ a.k := fun e => hne ((root_a hnb hy (by rw [hyk, e, hk])).trans (root_a hna hx e).symm)
            unfold strB
            rw [hax, ← hyk, par_und hnb hy (by rw [hyk, ← hk]; exact hr), hyk, par_und hna hx hr]
            simp [hne]
          · left; simpa using hb
      by_cases h : hasT b x.t.k = false ∨ strB a b x.t.k = true
      · rw [if_pos h, if_pos (hc.1 h)]
      · rw [if_neg h, if_neg (fun q => h (hc.2 q))]
    · refine flat_congr fun x hx => ?_
      unfold dpD
      have hc : hasT b x.t.k = false ↔ (!((flatS w b (0, 0) 0 Bb 0).any fun y => decide (skU y = skU x))) = true := by
        simp only [Bool.not_eq_true', List.any_eq_false, decide_eq_true_eq]
        constructor
        · intro h y hy q
          have q : y.t.k = x.t.k := q
          rw [← q, hasT_of hy] at h; cases h
        · exact fun h => hasT_no (w := w) (B := Bb) fun y hy e => h y hy e
      by_cases h : hasT b x.t.k = false
      · rw [if_pos h, if_pos (hc.1 h)]
      · rw [if_neg h, if_neg (fun q => h (hc.2 q))]
  · refine flat_congr fun x hx => ?_
    unfold nodD ofS
    rw [own_eq hna (right_up g1) (right_up g2 _ (sd_flT hx)), kids_eq hna hnb hk hx x.t.ks (0, 0) fun _ h => h]
end
end Go.Proofs.Ythhnglpkfcmjiaa

namespace Go.Proofs.Ythhnglpkfcmjiaa
open Go.RowKit Go.Shelf
set_option linter.unusedVariables false
set_option linter.unusedSimpArgs false
def tP : VT := .node (1, 0) ⟨#[112]⟩ ⟨#[]⟩ [] []
def tQ : VT := .node (0, 0) ⟨#[114, 111, 111, 116]⟩ ⟨#[]⟩ [] [tP]
theorem szQ : tQ.sz = 2 := by decide +kernel
theorem bnQ : BnA tQ := fun x hx => by
  simp [tQ, tP, flatD, flatDs] at hx
  rcases hx with rfl | rfl
  · exact ⟨by decide +kernel, fun y hy => by simp [VT.at_] at hy⟩
  · exact ⟨by decide +kernel, fun y hy => by simp [VT.at_] at hy⟩
theorem whyRQ : whyD tR tQ = 0 := by decide +kernel
theorem visQ {w : World} {b : Nat} (h : w.heap[b]? = some (.cells #[.int .i64 1, .int .i64 0, .string ⟨#[112]⟩, .string ⟨#[]⟩, .slice none 0 0, .slice none 0 0] 27)) : VIs (fun _ => True) w (.agg #[.int .i64 0, .int .i64 0, .string ⟨#[114, 111, 111, 116]⟩, .string ⟨#[]⟩, .slice none 0 0, .slice (some ⟨b, 0, none⟩) 1 1]) tQ := by
  have hp : VAt (fun _ => True) w tP b 0 := row_vat (t := tP) (a := none) (c := 0) (k := none) (d := 0) h ((fdNil _ w : FdIs (fun _ => True) w (.slice none 0 0) (.slice none 0 0) [] []))
  exact ⟨_, _, rfl, LsE.nil w none 0, by decide, some ⟨b, 0, none⟩, 1, rfl, Nat.le_refl _, by decide, .inr ⟨b, 0, rfl, trivial, row_lt h, (VRow_iff _ _).2 fun i hi => by
    have : i = 0 := by simp [tQ, VT.ks] at hi; omega
    subst this
    exact hp⟩⟩
theorem aw_list (X : World) (Ba Bb : Nat) : ofL (flatS X tR (0, 0) 0 Ba 0) (flatS X tQ (0, 0) 0 Bb 0) = [pM (1, 0) ⟨#[112]⟩, pP (1, 0) (0, 0) (0, 0)] := by
  simp [flatS, flatsS, tR, tQ, tP, ofL, lvL, tkL, gnL, eaL, ofS, wrL, tgR, txR, oldD, getP, skU, plL, plK, wrA, VT.k, VT.tg, VT.tx, VT.at_, VT.ks]
set_option maxRecDepth 100000 in
set_option maxHeartbeats 4000000 in
theorem light_any (G G2 : Nat → Prop) (a b : VT) (va vb : Value) (w : World) (ha : VIs G w va a) (hb : VIs G2 w vb b) (hsa : a.sz ≤ 1048576) (hsb : b.sz ≤ 1048576) :
    Calls Try.prog 9 #[va, vb] w fun e w' => e = .returned (.bool (decide (a.sz ≤ 60) && decide (b.sz ≤ 60))) ∧ Below w.heap.size w w' := by
  obtain ⟨aa, ca, ak, da, e1, _⟩ := ha.form
  obtain ⟨ba, cb, bk, db, e2, _⟩ := hb.form
  subst e1 e2
  obtain ⟨W0, eW⟩ : ∃ X, X = (w.alloc (.cells #[.int .i64 a.k.1, .int .i64 a.k.2, .string a.tg, .string a.tx, .slice aa a.at_.length ca, .slice ak a.ks.length da] 27)).alloc (.cells #[.int .i64 b.k.1, .int .i64 b.k.2, .string b.tg, .string b.tx, .slice ba b.at_.length cb, .slice bk b.ks.length db] 27) := ⟨_, rfl⟩
  have hb0 : Below w.heap.size w W0 := (by rw [eW]; exact ((Below.refl _ _).alloc (Nat.le_refl _) _).alloc (by simp) _)
  have HR1 : Hid (W0.heap[w.heap.size]? = some (.cells #[.int .i64 a.k.1, .int .i64 a.k.2, .string a.tg, .string a.tx, .slice aa a.at_.length ca, .slice ak a.ks.length da] 27)) := (by show _ = _; rw [eW, Below.heap_alloc _ _ _ (by simp)]; exact heap_alloc_new _ _)
  have HR2 : Hid (W0.heap[w.heap.size + 1]? = some (.cells #[.int .i64 b.k.1, .int .i64 b.k.2, .string b.tg, .string b.tx, .slice ba b.at_.length cb, .slice bk b.ks.length db] 27)) := (by show _ = _; rw [eW]; have h9 := heap_alloc_new (w.alloc (.cells #[.int .i64 a.k.1, .int .i64 a.k.2, .string a.tg, .string a.tx, .slice aa a.at_.length ca, .slice ak a.ks.length da] 27)) (.cells #[.int .i64 b.k.1, .int .i64 b.k.2, .string b.tg, .string b.tx, .slice ba b.at_.length cb, .slice bk b.ks.length db] 27); rw [show (w.alloc (.cells #[.int .i64 a.k.1, .int .i64 a.k.2, .string a.tg, .string a.tx, .slice aa a.at_.length ca, .slice ak a.ks.length da] 27)).heap.size = w.heap.size + 1 by simp] at h9; exact h9)
  have HA : Hid (VIs G W0 (.agg #[.int .i64 a.k.1, .int .i64 a.k.2, .string a.tg, .string a.tx, .slice aa a.at_.length ca, .slice ak a.ks.length da]) a) := ha.below hb0
  have HB : Hid (VIs G2 W0 (.agg #[.int .i64 b.k.1, .int .i64 b.k.2, .string b.tg, .string b.tx, .slice ba b.at_.length cb, .slice bk b.ks.length db]) b) := hb.below hb0
  have HE := hide9 eW
  have HL := hide9 hb0
  clear eW hb0 ha hb
  go_enter Try.func9, Try.ntmps9
  go_upto_region 1 with fail
  rw [← HE.out]
  clear HE
  obtain ⟨y0, y1, y2, y3, y4, y5⟩ := row6d HR1.out
  go_wp2_with fail
  clear y0 y1 y2 y3 y4 y5
  refine (flatF_any _ a _ _ HA.out hsa).mono ?_
  rintro e w1 ⟨v1, E1, rfl, ho1, hE1, _, hb1⟩
  obtain ⟨x1, c1, ev⟩ := OwnE.form ho1
  subst ev
  have hl1 : E1.length = a.sz := (by have h9 := congrArg List.length hE1; rw [List.length_map] at h9; rw [h9]; exact flT_len a)
  replace HL := hide9 (HL.out.trans (hb1.mono HL.out.size))
  replace HB := hide9 (HB.out.below hb1)
  replace HR2 := hide9 ((hb1.block _ (row_lt HR2.out)).trans HR2.out)
  rw [hl1]
  clear ho1 hE1 hb1 hl1 HA HR1
  by_cases h60 : a.sz ≤ 60
  · have k1 : (a.sz : Int) ≤ 60 := by omega
    have Hd : Hid (decide (a.sz ≤ 60) = true) := decide_eq_true h60
    clear h60
    obtain ⟨z0, z1, z2, z3, z4, z5⟩ := row6d HR2.out
    go_wp2_with fail
    clear z0 z1 z2 z3 z4 z5
    refine (flatF_any _ b _ _ HB.out hsb).mono ?_
    rintro e w2 ⟨v2, E2, rfl, ho2, hE2, _, hb2⟩
    obtain ⟨x2, c2, ev⟩ := OwnE.form ho2
    subst ev
    have hl2 : E2.length = b.sz := (by have h9 := congrArg List.length hE2; rw [List.length_map] at h9; rw [h9]; exact flT_len b)
    replace HL := hide9 (HL.out.trans (hb2.mono HL.out.size))
    rw [hl2]
    clear ho2 hE2 hb2 hl2 HB HR2
    by_cases g60 : b.sz ≤ 60
    · have k2 : (b.sz : Int) ≤ 60 := by omega
      have Hg : Hid (decide (b.sz ≤ 60) = true) := decide_eq_true g60
      go_wp2
      (try rw [Exit.noGoto_ret])
      go_ret
      exact ⟨(by rw [Hd.out, Hg.out]; rfl), HL.out⟩
    · have k2 : ¬ (b.sz : Int) ≤ 60 := by omega
      have Hg : Hid (decide (b.sz ≤ 60) = false) := decide_eq_false g60
      go_wp2
      (try rw [Exit.noGoto_ret])
      go_ret
      exact ⟨(by rw [Hd.out, Hg.out]; show Ending.returned (.bool (decide ((b.sz : Int) ≤ 60))) = _; rw [decide_eq_false (by omega)]; rfl), HL.out⟩
  · have k1 : ¬ (a.sz : Int) ≤ 60 := by omega
    have Hd : Hid (decide (a.sz ≤ 60) = false) := decide_eq_false h60
    clear h60
    go_wp2
    (try rw [Exit.noGoto_ret])
    go_ret
    exact ⟨(by rw [Hd.out]; rfl), HL.out⟩
set_option maxRecDepth 100000 in
set_option maxHeartbeats 4000000 in
theorem awakeD_any (w : World) : Calls Try.prog 10 #[] w fun e w' => e = .returned (.bool true) ∧ Below w.heap.size w w' := by
  obtain ⟨W1, eW⟩ : ∃ X, X = w.alloc (.cells #[.int .i64 1, .int .i64 0, .string ⟨#[112]⟩, .string ⟨#[]⟩, .slice none 0 0, .slice none 0 0] 27) := ⟨_, rfl⟩
  have hb1 : Below w.heap.size w W1 := (by rw [eW]; exact (Below.refl _ _).alloc (Nat.le_refl _) _)
  have hr : W1.heap[w.heap.size]? = some (.cells #[.int .i64 1, .int .i64 0, .string ⟨#[112]⟩, .string ⟨#[]⟩, .slice none 0 0, .slice none 0 0] 27) := (by rw [eW]; exact heap_alloc_new _ _)
  have HV : Hid (VIs (fun _ => True) W1 (.agg #[.int .i64 0, .int .i64 0, .string ⟨#[114, 111, 111, 116]⟩, .string ⟨#[]⟩, .slice none 0 0, .slice (some ⟨w.heap.size, 0, none⟩) 1 1]) tQ) := visQ hr
  have HB := hide9 hb1
  have HE := hide9 eW
  clear hb1 hr eW
  go_enter Try.func10, Try.ntmps10
  go_wp2_with fail
  rw [← HE.out]
  clear HE
  refine (of_any (fun _ => True) tR tQ _ _ _ ((visR _).turn (Nat.le_refl _) fun k q _ => q.elim) HV.out (by rw [szR]; decide) bnR (by rw [szQ]; decide) bnQ).mono ?_
  rintro e w2 ⟨v, c, rfl, hP, hb2⟩
  unfold OfP at hP
  rw [if_pos whyRQ] at hP
  obtain ⟨rfl, X, Ba, Bb, ho⟩ := hP
  rw [aw_list] at ho
  replace HB := hide9 (HB.out.trans (hb2.mono HB.out.size))
  obtain ⟨g, cp, e1, _, hc0, _⟩ := OwnE.cells pzLen ho (i := 0) (by decide)
  obtain ⟨g2, cp2, e2, _, hc1, _⟩ := OwnE.cells pzLen ho (i := 1) (by decide)
  rw [e1] at e2
  injection e2 with e3 e4 e5
  injection e3 with e3
  injection e3 with e3 e6 e7
  subst e3
  have x0 : w2.cell? ⟨g, 0, none⟩ = some (.int .i64 3) := hc0 0 _ rfl
  have x1 : w2.cell? ⟨g, 9, none⟩ = some (.int .i64 4) := hc1 0 _ rfl
  subst e1
  clear hc0 hc1 ho hb2 e4 e5 e6 e7
  simp only [List.length_cons, List.length_nil]
  go_wp2
  clear x0 x1
  (try rw [Exit.noGoto_ret])
  go_ret
  exact ⟨rfl, HB.out⟩
end Go.Proofs.Ythhnglpkfcmjiaa
