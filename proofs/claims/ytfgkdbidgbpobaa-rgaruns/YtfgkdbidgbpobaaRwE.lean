/- layAll. -/
import Derived.Test.YtfgkdbidgbpobaaRwD
namespace Go.Proofs.Ytfgkdbidgbpobaa
open Go.RowKit Go.Shelf
set_option linter.unusedVariables false
set_option linter.unusedSimpArgs false

attribute [local go_sem] Oper.semAt_some

def markD (d : Nat) : Deferred := { target := .collected d, args := #[] }
/-- What the loop of layAll goes by: those under c are to be laid out. -/
structure LpS (F : Nat → Prop) (N bo bl ba br rb : Nat) (L : List Sl) (ma mb : Nat) (fv : Value) (E : List (St × Value)) (D : List Sl) (v : Value) (w : World) (c : St) (kv : Value) (X : List Sl) (v1 : Value) (ds : List Nat) (W : World) : Prop where
  s : LyS F N bo bl ba br rb L ma mb fv E (D ++ X) v1 W
  to : Touch (OutK bo v) w W
  at_ : v1.ownBlock = v.ownBlock ∨ ∃ k, v1.ownBlock = some k ∧ w.heap.size ≤ k
  nd : Nd L c
  ks : LsE stCells 2 F W kv (kidL L c)
  dn : ds.Nodup
  dm : ∀ d ∈ ds, w.heap.size ≤ d ∧ W.heap[d]? = some (.deferred (some []))
  sz : N ≤ w.heap.size
/-- Two boxes that are only read. -/
def LyB (br rb ba bl : Nat) (W : World) : Prop := BxC br [.pointer (some ⟨rb, 0, none⟩)] 23 W ∧ BxC ba [layAV bl ba br] 69 W
section
variable {F : Nat → Prop} {N bo bl ba br rb : Nat} {L : List Sl} {ma mb : Nat} {fv : Value} {E : List (St × Value)} {D : List Sl} {v : Value} {w : World} {c : St} {kv : Value} {X Y : List Sl} {v1 : Value} {ds : List Nat} {W W' : World}
theorem LyB.below {W W' : World} (h : LyB br rb ba bl W) (hb : Below W.heap.size W W') : LyB br rb ba bl W' := ⟨h.1.below hb, h.2.below hb⟩
theorem LyS.lyb (h : LyS F N bo bl ba br rb L ma mb fv E D v W) : LyB br rb ba bl W := ⟨h.r, h.a⟩
theorem LyP.lyb (h : LyP F N bo bl ba br rb L ma mb fv E D v W Y W') : LyB br rb ba bl W' := by obtain ⟨v2, h1, _⟩ := h; exact h1.lyb
theorem LyP.row (h : LyP F N bo bl ba br rb L ma mb fv E D v W Y W') : RowIs F W' rb L (behZ L) (frL L) ma mb fv E := by obtain ⟨v2, h1, _⟩ := h; exact h1.row
theorem LyP.box (h : LyP F N bo bl ba br rb L ma mb fv E D v W Y W') {b : Nat} {cs : List Value} {T : TypeId} (hb : BxC b cs T W) (h1 : T ≠ 36) (h2 : T ≠ 22) (hs : LyS F N bo bl ba br rb L ma mb fv E D v W) : BxC b cs T W' := by
  obtain ⟨v2, _, ht, _⟩ := h
  exact hb.touch ht fun e => e.elim (box_ne hb hs.o h2) (own_ne hs.own hb h1)
/-- What is touched are cells. -/
theorem LyP.cells (h : LyP F N bo bl ba br rb L ma mb fv E D v W Y W') (hs : LyS F N bo bl ba br rb L ma mb fv E D v W) {k : Nat} {o : Obj} (hk : W.heap[k]? = some o) (ho : o.isCells = false) : W'.heap[k]? = some o := by
  obtain ⟨v2, _, ht, _⟩ := h
  refine (ht.block k (Array.getElem?_eq_some_iff.1 hk).1 fun e => ?_).trans hk
  rcases e with e | e
  · have h2 : W.heap[k]? = some (.cells [v].toArray 22) := e ▸ hs.o
    rw [hk] at h2
    cases h2
    simp [Obj.isCells] at ho
  · obtain ⟨cur, hc⟩ := ownsRow_type hs.own k e
    rw [hk] at hc
    cases hc
    simp [Obj.isCells] at ho
theorem LyP.from (h : LyP F N bo bl ba br rb L ma mb fv E D v W Y W') (hs : LyS F N bo bl ba br rb L ma mb fv E D v W) (B : Nat) : KeepsFrom B W W' := ⟨by obtain ⟨v2, _, ht, _⟩ := h; exact ht.size, fun k o _ hk ho => h.cells hs hk ho⟩
theorem LyP.keeps (h : LyP F N bo bl ba br rb L ma mb fv E D v W Y W') (hs : LyS F N bo bl ba br rb L ma mb fv E D v W) {bk : Nat} {cs : List Value} (hb : BxC bk cs 38 W) : KeepsS (fun k => k = bk ∨ F k) W W' := by
  have hbx := h.box hb (by decide) (by decide) hs
  obtain ⟨v2, _, ht, _⟩ := h
  refine ⟨ht.size, fun k hk => ?_⟩
  rcases hk with rfl | hk
  · exact hbx.trans hb.symm
  · refine ht.block k (hs.row.lt k hk) fun e => ?_
    have := hs.low k hk
    rcases e with e | e
    · have := hs.q.1; omega
    · have := (hs.own.lt k e).1; omega
theorem LpS.below (h : LpS F N bo bl ba br rb L ma mb fv E D v w c kv X v1 ds W) (hb : Below W.heap.size W W') : LpS F N bo bl ba br rb L ma mb fv E D v w c kv X v1 ds W' :=
  ⟨h.s.below hb, h.to.trans (Touch.of_below (F := fun _ => False) hb) (fun j h => h.elim), h.at_, h.nd, h.ks.below hb, h.dn, fun d hd => ⟨(h.dm d hd).1, (hb.block d (Array.getElem?_eq_some_iff.1 (h.dm d hd).2).1).trans (h.dm d hd).2⟩, h.sz⟩
theorem LpS.step (h : LpS F N bo bl ba br rb L ma mb fv E D v w c kv X v1 ds W) (hp : LyP F N bo bl ba br rb L ma mb fv E (D ++ X) v1 W Y W') : ∃ v2, LpS F N bo bl ba br rb L ma mb fv E D v w c kv (X ++ Y) v2 ds W' := by
  have hc := fun {k : Nat} {o : Obj} (hk : W.heap[k]? = some o) (ho : o.isCells = false) => hp.cells h.s hk ho
  obtain ⟨v2, b1, b2, b3⟩ := hp
  refine ⟨v2, by rw [← List.append_assoc]; exact b1, h.to.trans b2 fun j hj => ?_, ?_, h.nd, h.ks.touch b2 fun k hk e => ?_, h.dn, fun d hd => ⟨(h.dm d hd).1, hc (h.dm d hd).2 rfl⟩, h.sz⟩
  · rcases hj with hj | hj
    · exact .inl (.inl hj)
    · rcases h.at_ with a3 | ⟨k, a3, a4⟩
      · exact .inl (.inr (a3 ▸ hj))
      · rw [hj] at a3; cases a3; exact .inr a4
  · rcases b3 with b3 | ⟨k, b3, b4⟩
    · rw [b3]; exact h.at_
    · exact .inr ⟨k, b3, Nat.le_trans h.to.size b4⟩
  · have := h.s.low k hk
    rcases e with e | e
    · have := h.s.q.1; omega
    · have := (h.s.own.lt k e).1; omega
theorem LpS.grown (h : LpS F N bo bl ba br rb L ma mb fv E D v w c kv X v1 ds W) {row : Option Nat} {B : Nat} (hB : ∀ d ∈ ds, d < B) (hw : w.heap.size ≤ B) (hg : W.grownBy W' row) (hr : ∀ r, row = some r → B ≤ r ∧ ∃ o : Obj, W.heap[r]? = some o ∧ o.isCells = false) : LpS F N bo bl ba br rb L ma mb fv E D v w c kv X v1 ds W' := by
  have hN := h.sz
  have hlow := h.s.low
  refine ⟨h.s.grown hg (fun r e => ⟨by have := (hr r e).1; omega, (hr r e).2⟩), h.to.trans (Touch.of_grown (F := fun k => B ≤ k) hg fun j e _ => (hr j e).1) (fun j hj => .inr (by omega)), h.at_, h.nd, h.ks.touch (Touch.of_grown (F := fun k => B ≤ k) hg fun j e _ => (hr j e).1) (fun k hk e => by have := hlow k hk; omega), h.dn, fun d hd => ⟨(h.dm d hd).1, ?_⟩, h.sz⟩
  exact (hg.block d (Array.getElem?_eq_some_iff.1 (h.dm d hd).2).1 (fun e => by have := (hr d e.symm).1; have := hB d hd; omega)).trans (h.dm d hd).2
theorem kid_beh {L : List Sl} {x : St} (h : GoodL L) (hx : hasL L x = true) : behZ L x = kidL L x := by
  have hz : x ≠ z0 := fun e => by rw [e, h.zero] at hx; cases hx
  unfold behZ kidL
  rw [if_neg hz, if_neg hz]
theorem kidL_length (L : List Sl) (a : St) : (kidL L a).length ≤ L.length := by unfold kidL; split; exact frL_length L; exact behL_length L a
theorem LpS.next (h : LpS F N bo bl ba br rb L ma mb fv E D v w c kv X v1 ds W) (hG : GoodL L) {x : St} (hx : hasL L x = true) (hl : L.length ≤ 4096) : LpS F N bo bl ba br rb L ma mb fv E D v w x (vB E x) X v1 ds W := by
  refine ⟨h.s, h.to, h.at_, .inr hx, ?_, h.dn, h.dm, h.sz⟩
  have h9 := h.s.row.ownB x
  rw [kid_beh hG hx] at h9
  exact h9.lsE stCells_len (by have := kidL_length L x; omega) (fun j e => (h.s.row.inB e).1)
theorem LpS.push (h : LpS F N bo bl ba br rb L ma mb fv E D v w c kv X v1 ds W) {Dd : Nat} (h1 : w.heap.size ≤ Dd) (h2 : Dd ∉ ds) (h3 : W.heap[Dd]? = some (.deferred (some []))) : LpS F N bo bl ba br rb L ma mb fv E D v w c kv X v1 (Dd :: ds) W :=
  ⟨h.s, h.to, h.at_, h.nd, h.ks, List.nodup_cons.2 ⟨h2, h.dn⟩, fun d hd => (List.mem_cons.1 hd).elim (fun e => e ▸ ⟨h1, h3⟩) (h.dm d), h.sz⟩
theorem take_flat {α β : Type} (f : α → List β) (l : List α) (k : Nat) : ((l.take k).flatMap f).length ≤ (l.flatMap f).length := by
  conv => rhs; rw [← List.take_append_drop k l, List.flatMap_append, List.length_append]
  omega
/-- .. and while it goes over those behind the first one. -/
structure RgE (F : Nat → Prop) (N bo bl ba br rb : Nat) (L : List Sl) (ma mb : Nat) (fv : Value) (E : List (St × Value)) (D : List Sl) (v : Value) (w : World) (c : St) (kv : Value) (X : List Sl) (ds : List Nat) (W2 : World) (bf bk : Nat) (first : St) (tv : Value) (Y : List Sl) (W : World) : Prop where
  f : BxC bf (stCells first) 33 W
  k : BxC bk [tv] 38 W
  size : W2.heap.size ≤ W.heap.size
  dl : ∀ d ∈ ds, d < W2.heap.size
  wl : w.heap.size ≤ W2.heap.size
def RgS (F : Nat → Prop) (N bo bl ba br rb : Nat) (L : List Sl) (ma mb : Nat) (fv : Value) (E : List (St × Value)) (D : List Sl) (v : Value) (w : World) (c : St) (kv : Value) (X : List Sl) (ds : List Nat) (W2 : World) (bf bk : Nat) (first : St) (tv : Value) (rest : List St) (Z : List St) (W : World) : Prop :=
  ∃ v2, LpS F N bo bl ba br rb L ma mb fv E D v w c kv (X ++ Z.map (slO L)) v2 ds W ∧ RgE F N bo bl ba br rb L ma mb fv E D v w c kv X ds W2 bf bk first tv (Z.map (slO L)) W
variable {W2 : World} {bf bk : Nat} {first : St} {tv : Value} {rest Z : List St}
theorem RgE.below (h : RgE F N bo bl ba br rb L ma mb fv E D v w c kv X ds W2 bf bk first tv Y W) (hb : Below W.heap.size W W') : RgE F N bo bl ba br rb L ma mb fv E D v w c kv X ds W2 bf bk first tv Y W' := ⟨h.f.below hb, h.k.below hb, Nat.le_trans h.size hb.size, h.dl, h.wl⟩
theorem RgS.below (h : RgS F N bo bl ba br rb L ma mb fv E D v w c kv X ds W2 bf bk first tv rest Z W) (hb : Below W.heap.size W W') : RgS F N bo bl ba br rb L ma mb fv E D v w c kv X ds W2 bf bk first tv rest Z W' := by obtain ⟨v2, h1, h2⟩ := h; exact ⟨v2, h1.below hb, h2.below hb⟩
theorem RgS.size (h : RgS F N bo bl ba br rb L ma mb fv E D v w c kv X ds W2 bf bk first tv rest Z W) : W2.heap.size ≤ W.heap.size := by obtain ⟨v2, h1, h2⟩ := h; exact h2.size
theorem RgS.grown (h : RgS F N bo bl ba br rb L ma mb fv E D v w c kv X ds W2 bf bk first tv rest Z W) {row : Option Nat} (hg : W.grownBy W' row) (hr : ∀ r, row = some r → W2.heap.size ≤ r ∧ ∃ o : Obj, W.heap[r]? = some o ∧ o.isCells = false) : RgS F N bo bl ba br rb L ma mb fv E D v w c kv X ds W2 bf bk first tv rest Z W' := by
  obtain ⟨v2, h1, h2⟩ := h
  exact ⟨v2, h1.grown h2.dl h2.wl hg hr, ⟨row_own h2.f hg (fun r e => (hr r e).2), row_own h2.k hg (fun r e => (hr r e).2), Nat.le_trans h2.size hg.size, h2.dl, h2.wl⟩⟩
theorem RgE.step (h : RgE F N bo bl ba br rb L ma mb fv E D v w c kv X ds W2 bf bk first tv Y W) {Y' Y2 D2 : List Sl} (hp : LyP F N bo bl ba br rb L ma mb fv E D2 v1 W Y2 W') (hs : LyS F N bo bl ba br rb L ma mb fv E D2 v1 W) : RgE F N bo bl ba br rb L ma mb fv E D v w c kv X ds W2 bf bk first tv Y' W' := ⟨hp.box h.f (by decide) (by decide) hs, hp.box h.k (by decide) (by decide) hs, by (obtain ⟨_, _, ht, _⟩ := hp; exact Nat.le_trans h.size ht.size), h.dl, h.wl⟩
/-- One more, and all under it. -/
theorem RgE.more {Z' : List St} {Y3 Y4 : List Sl} {v3 : Value} {w3 Wn Wb : World} (h : RgE F N bo bl ba br rb L ma mb fv E D v w c kv X ds W2 bf bk first tv Y3 w3) (hZ : Z'.map (slO L) = Y3 ++ Y4) (hp : LyP F N bo bl ba br rb L ma mb fv E (D ++ (X ++ Y3)) v3 w3 Y4 Wn) (hs : LpS F N bo bl ba br rb L ma mb fv E D v w c kv (X ++ Y3) v3 ds w3) (hk : KeepsS (fun k => k = bk ∨ F k) Wb w3 ∧ KeepsFrom W2.heap.size Wb w3) :
    RgS F N bo bl ba br rb L ma mb fv E D v w c kv X ds W2 bf bk first tv rest Z' Wn ∧ KeepsS (fun k => k = bk ∨ F k) Wb Wn ∧ KeepsFrom W2.heap.size Wb Wn := by
  obtain ⟨v4, h4⟩ := hs.step hp
  rw [List.append_assoc, ← hZ] at h4
  exact ⟨⟨v4, h4, h.step hp hs.s⟩, hk.1.trans (hp.keeps hs.s h.k), hk.2.trans (hp.from hs.s _)⟩
theorem leave_marks {n : Nat} {P : Program} {fn : Func} {tmps : Array Value} {R : Ending → World → Prop} {u : Value} (hr : ∀ w, (results fn tmps).run P w = .ok u w) : ∀ (ds : List Nat) (W : World), ds.Nodup → (∀ d ∈ ds, W.heap[d]? = some (.deferred (some []))) → (∀ W', Touch (fun k => k ∈ ds) W W' → R (.returned u) W') → LeavesInM Fence.wide n P fn tmps R (ds.map markD) .returning W
  | [], W, _, _, h => ⟨u, hr W, h W (Touch.refl _ _)⟩
  | d :: ds, W, hn, hd, h => by
    have h1 := List.nodup_cons.1 hn
    refine ⟨by simp, .inl ⟨d, _, rfl, run_takeDeferred (hd d (List.mem_cons_self ..)), leave_marks hr ds _ h1.2 (fun e he => (World.putObj_heap_other (by intro e2; exact h1.1 (by first | exact e2 ▸ he | exact e2.symm ▸ he))).trans (hd e (List.mem_cons_of_mem _ he))) fun W' ht => h W' ?_⟩⟩
    exact (Touch.of_grown (grownBy_putObj' W d _) (fun j e _ => by cases e; exact List.mem_cons_self ..)).trans ht fun j hj => .inl (List.mem_cons_of_mem _ hj)
/-- All is laid out. -/
theorem LpS.done (h : LpS F N bo bl ba br rb L ma mb fv E D v w c kv X v1 ds W) (ht : Touch (fun k => k ∈ ds) W W') : LyP F N bo bl ba br rb L ma mb fv E D v w X W' := by
  have hd : ∀ k, k ∈ ds → w.heap.size ≤ k ∧ ∀ cs T, ¬ BxC k cs T W := fun k hk => ⟨(h.dm k hk).1, fun cs T hb => by
    have h2 : W.heap[k]? = some (.cells cs.toArray T) := hb
    rw [(h.dm k hk).2] at h2
    cases h2⟩
  have hb : ∀ b cs T, BxC b cs T W → W'.heap[b]? = W.heap[b]? := fun b cs T hx => ht.block b hx.lt fun hk => (hd b hk).2 cs T hx
  refine ⟨v1, h.s.keep ⟨ht.size, fun k hk => ht.block k (h.s.row.lt k hk) fun e => by have := (hd k e).1; have := h.s.low k hk; have := h.sz; omega⟩ (hb _ _ _ h.s.o) (hb _ _ _ h.s.l) (hb _ _ _ h.s.a) (hb _ _ _ h.s.r) (fun k e => ?_), h.to.trans ht fun j hj => .inr (hd j hj).1, h.at_⟩
  obtain ⟨cur, hc⟩ := ownsRow_type h.s.own k e
  exact ht.block k (row_lt hc) fun hk => by
    rw [(h.dm k hk).2] at hc
    cases hc
end
theorem LsE.tail {α : Type} {enc : α → List Value} {n : Nat} {G : Nat → Prop} {w : World} {b o cap : Nat} {x : α} {D : List α} (h : LsE enc n G w (.slice (some ⟨b, o, none⟩) (D.length + 1) cap) (x :: D)) {A : Option Addr} (hA : cap ≠ 1 → A = some ⟨b, o + n, none⟩) : LsE enc n G w (.slice A D.length (cap - 1)) D := by
  obtain ⟨a', cap', e, hc, hl, hr⟩ := h
  injection e with e1 e2 e3
  subst e1 e3
  simp only [List.length_cons] at hc hl
  refine ⟨A, cap - 1, rfl, by omega, by omega, ?_⟩
  by_cases hD : D = []
  · exact .inl hD
  · have hpos : 0 < D.length := by cases D with | nil => exact absurd rfl hD | cons y t => simp
    obtain ⟨b', o', e4, hg, hlt, hr⟩ := hr.resolve_left (by simp)
    cases e4
    refine .inr ⟨b, o + n, hA (by omega), hg, hlt, fun i hi j u hj => ?_⟩
    have := hr (i + 1) (by simpa using hi) j u (by simpa using hj)
    rw [show o + n + i * n + j = o + (i + 1) * n + j by rw [Nat.add_mul]; omega]
    exact this

set_option maxRecDepth 100000 in
set_option maxHeartbeats 16000000 in
theorem layAll_any (F : Nat → Prop) (N bo bl ba br rb : Nat) (L : List Sl) (ma mb : Nat) (fv : Value) (E : List (St × Value)) (hLl : L.length ≤ 4096) (hG : GoodL L) : ∀ (nn : Nat) (a0 : St) (kv0 : Value) (D : List Sl) (v : Value) (w : World), Nd L a0 → latN L a0 < nn → LyS F N bo bl ba br rb L ma mb fv E (D) v w → LsE stCells 2 F w kv0 (kidL L a0) → D.length + (bel L a0).length ≤ 16384 →
    Calls Try.prog 32 #[kv0, .pointer (some ⟨bl, 0, none⟩), .pointer (some ⟨ba, 0, none⟩), .pointer (some ⟨br, 0, none⟩)] w fun e w' => (∃ u, e = .returned u) ∧ LyP F N bo bl ba br rb L ma mb fv E D v w ((bel L a0).map (slO L)) w' := by
  intro nn
  induction nn with
  | zero => intro a0 kv0 D v w hnd hlat; exact absurd hlat (Nat.not_lt_zero _)
  | succ nn ih =>
    intro a0 kv0 D v w hnd hlat hS hks hlen
    refine (callsIn_wide (n := 9)).1 ?_
    refine callsIn_of_wp_marksN Try.func32 rfl trivial ?_ rfl
    simp only [Try.ntmps32, List.size_toArray, List.length_cons, List.length_nil, Nat.reduceAdd, Nat.reduceSub, Array.replicate_succ, Array.replicate_zero, List.push_toArray, List.append_toArray, List.nil_append, List.cons_append]
    have HLn : Hid (D.length + (bel L a0).length ≤ 16384) := hlen
    have HG : Hid (GoodL L) := hG
    have HL0 : Hid (LpS F N bo bl ba br rb L ma mb fv E D v w a0 kv0 [] v [] w) := ⟨by simpa using hS, Touch.refl _ _, .inl rfl, hnd, hks, List.nodup_nil, fun d hd => absurd hd (by simp), hS.nle⟩
    have HIH := ih
    clear hlen hS hks
    gi_wp2
    refine wpIn_loop_rounds (latN L a0 + 1) ?_
    refine (?key : ∀ (m : Nat) (a : Act) (W : World) (c : St) (kv : Value) (X : List Sl) (v1 : Value) (ds : List Nat) (u4 u5 u6 u7 u8 u9 u10 u11 u12 u13 u14 u15 u16 u17 u18 u19 u20 u21 u22 u23 u24 u25 u26 u27 u28 u29 u30 u31 u32 u33 u34 u35 u36 u37 u38 : Value), a = { tmps := #[kv, .pointer (some ⟨bl, 0, none⟩), .pointer (some ⟨ba, 0, none⟩), .pointer (some ⟨br, 0, none⟩), u4, u5, u6, u7, u8, u9, u10, u11, u12, u13, u14, u15, u16, u17, u18, u19, u20, u21, u22, u23, u24, u25, u26, u27, u28, u29, u30, u31, u32, u33, u34, u35, u36, u37, u38], defers := ds.map markD } → LpS F N bo bl ba br rb L ma mb fv E D v w c kv X v1 ds W → latN L c < m → latN L c < nn + 1 → X ++ (bel L c).map (slO L) = (bel L a0).map (slO L) → Code.roundsIn _ _ _ _ _ m a W) _ _ _ a0 kv0 [] v [] _ _ _ _ _ _ _ _ _ _ _ _ _ _ _ _ _ _ _ _ _ _ _ _ _ _ _ _ _ _ _ _ _ _ _ rfl HL0.out (Nat.lt_succ_self _) hlat rfl
    intro m
    induction m with
    | zero => intro a W c kv X v1 ds u4 u5 u6 u7 u8 u9 u10 u11 u12 u13 u14 u15 u16 u17 u18 u19 u20 u21 u22 u23 u24 u25 u26 u27 u28 u29 u30 u31 u32 u33 u34 u35 u36 u37 u38 e h hm; exact absurd hm (Nat.not_lt_zero _)
    | succ m ihm =>
      intro a W c kv X v1 ds u4 u5 u6 u7 u8 u9 u10 u11 u12 u13 u14 u15 u16 u17 u18 u19 u20 u21 u22 u23 u24 u25 u26 u27 u28 u29 u30 u31 u32 u33 u34 u35 u36 u37 u38 e h hm hcn hX
      subst e
      rw [roundsIn_succ]
      have HS : Hid (LpS F N bo bl ba br rb L ma mb fv E D v w c kv X v1 ds W) := h
      have HX0 : Hid (X ++ (bel L c).map (slO L) = (bel L a0).map (slO L)) := hX
      clear hX
      cases hk : kidL L c with
      | nil =>
        have HE : Hid (X = (bel L a0).map (slO L)) := by (show X = _; rw [← HX0.out, bel_eq hG h.nd, hk]; simp)
        obtain ⟨ak, ck, ek, _⟩ := h.ks
        rw [hk] at ek
        subst ek
        clear h hk
        gi_wp2
        exact leave_marks (fun w => results_none rfl _ _ _) ds W HS.out.dn (fun d hd => (HS.out.dm d hd).2) (fun W' ht => ⟨⟨_, rfl⟩, HE.out ▸ HS.out.done ht⟩)
      | cons first rest =>
        have hmem : ∀ x ∈ first :: rest, hasL L x = true ∧ latN L x < latN L c := fun x hx => by
          obtain ⟨h1, h2, h3⟩ := kid_up hG (a := c) (k := x) (by rw [hk]; exact hx) h.nd
          exact ⟨h1, latN_lt h1 h3⟩
        have HHf : Hid (hasL L first = true) := (hmem first (by simp)).1
        have HLf : Hid (latN L first < m) := by (have := (hmem first (by simp)).2; show _ < _; omega)
        have HLc : Hid (latN L first < nn + 1) := by (have := (hmem first (by simp)).2; show _ < _; omega)
        have HMr : Hid (∀ x ∈ rest, hasL L x = true ∧ latN L x < latN L c) := fun x hx => hmem x (by simp [hx])
        have HBc : Hid (bel L c = (rest.reverse.flatMap fun k => k :: bel L k) ++ (first :: bel L first)) := by (show bel L c = _; rw [bel_eq hG h.nd, hk]; simp [List.flatMap_append])
        obtain ⟨ak, ck, ek, hcap, hlen1, hrow⟩ := h.ks
        have hks := h.ks
        rw [hk] at ek hcap hlen1 hrow hks
        obtain ⟨b, o, eb, hFb, hbl, hcs⟩ := hrow.resolve_left (by simp)
        subst eb
        simp only [List.length_cons] at ek hcap
        subst ek
        have f0 : W.cell? ⟨b, o, none⟩ = some (.int .i64 first.1) := hcs 0 (by simp) 0 _ rfl
        have f1 : W.cell? ⟨b, o + 1, none⟩ = some (.int .i64 first.2) := hcs 0 (by simp) 1 _ rfl
        have HKs : Hid (LsE stCells 2 F W (.slice (some ⟨b, o, none⟩) (rest.length + 1) ck) (first :: rest)) := by (show LsE _ _ _ _ _ _; have := hks; simpa using this)
        have HCk : Hid (rest.length + 1 ≤ ck) := hcap
        have hck : rest.length + 1 ≤ ck := hcap
        have hrl : rest.length ≤ 4096 := by (have := kidL_length L c; rw [hk] at this; simp at this; omega)
        clear hrow hcs hks hk hmem h hlen1 hcap
        obtain ⟨A, hA⟩ : ∃ A : Option Addr, (if ck = 1 then some (⟨b, o, none⟩ : Addr) else some ⟨b, o + 2, none⟩) = A := ⟨_, rfl⟩
        have HA : Hid (ck ≠ 1 → A = some ⟨b, o + 2, none⟩) := fun e => by (rw [← hA, if_neg e])
        gi_wp2_with fail
        clear hA f0 f1
        obtain ⟨W1, eW⟩ : ∃ X, X = W.alloc (.cells (stCells first).toArray 33) := ⟨_, rfl⟩
        have eW2 := eW
        simp only [stCells] at eW2
        rw [← eW2]
        clear eW2
        have hb1 : Below W.heap.size W W1 := by rw [eW]; exact (Below.refl _ _).alloc (Nat.le_refl _) _
        have HF1 : Hid (BxC W.heap.size (stCells first) 33 W1) := by rw [eW]; exact BxC.new _ _ _
        clear eW
        refine ⟨trivial, ?_⟩
        refine (callsIn_wide.2 (back_any _ _ ⟨_, _, _, rfl⟩)).mono ?_
        rintro e W2 ⟨rfl, hw⟩
        have hb2 : Below W1.heap.size W1 W2 := by rw [hw]; exact (Below.refl _ _).alloc (Nat.le_refl _) _
        have HBk : Hid (BxC W1.heap.size [.slice A rest.length (ck - 1)] 38 W2) := by rw [hw]; exact BxC.new _ _ _
        clear hw
        have HF2 : Hid (BxC W.heap.size (stCells first) 33 W2) := HF1.out.below hb2
        have HS2 : Hid (LpS F N bo bl ba br rb L ma mb fv E D v w c (.slice (some ⟨b, o, none⟩) (rest.length + 1) ck) X v1 ds W2) := (HS.out.below hb1).below hb2
        have HTl : Hid (LsE stCells 2 F W2 (.slice A rest.length (ck - 1)) rest) := ((HKs.out.tail HA.out).below hb1).below hb2
        have HDl : Hid (∀ d ∈ ds, d < W2.heap.size) := fun d hd => (Array.getElem?_eq_some_iff.1 (HS2.out.dm d hd).2).1
        obtain ⟨bf, ebf⟩ : ∃ b, b = W.heap.size := ⟨_, rfl⟩
        obtain ⟨bk, ebk⟩ : ∃ b, b = W1.heap.size := ⟨_, rfl⟩
        rw [← ebf] at HF2 ⊢
        rw [← ebk] at HBk ⊢
        clear ebf ebk hb1 hb2 HF1 HS HKs HA HCk
        obtain ⟨ct, ect⟩ : ∃ ct, ct = ck - 1 := ⟨_, rfl⟩
        rw [← ect] at HTl HBk ⊢
        clear ect
        have HSl : Hid (∀ k, (fun k => k = bk ∨ F k) k → k < W2.heap.size) := fun k hk => hk.elim (fun e => by rw [e]; exact HBk.out.lt) (HS2.out.s.row.lt k)
        have HSq := back_seq (9 - 1) (by omega) bk ct (fun k => k = bk ∨ F k) A rest W2 (.inl rfl) HSl.out (HBk.out.cell 0 _ rfl) (HTl.out.mono (fun k hk => .inr hk)) (by omega)
        have HR0 : Hid (RgS F N bo bl ba br rb L ma mb fv E D v w c (.slice (some ⟨b, o, none⟩) (rest.length + 1) ck) X ds W2 bf bk first (.slice A rest.length ct) rest [] W2) := ⟨v1, by simpa using HS2.out, ⟨HF2.out, HBk.out, Nat.le_refl _, HDl.out, HS2.out.to.size⟩⟩
        gi_wp2
        refine range_of (by decide) (gf := 39) (lb := #[.pointer (some ⟨bk, 0, none⟩)]) rfl (enters_of Try.func39 (by kernel_rfl) rfl) HSq KeepsS.trans (keepsSK_b HSl.out) (Below.refl _ _) (fun _ => rfl)
          (fun k W => RgS F N bo bl ba br rb L ma mb fv E D v w c (.slice (some ⟨b, o, none⟩) (rest.length + 1) ck) X ds W2 bf bk first (.slice A rest.length ct) rest ((((backL rest).map Prod.fst).take k).flatMap fun k => k :: bel L k) W) (fun _ _ _ => False)
          (fun k A B row h1 hg hr => h1.grown hg hr) (fun c k A B row hf _ _ => hf) HR0.out
          (fun x a' W => ∃ Bx, W2.heap.size ≤ Bx ∧ BxC Bx (stCells x.1) 33 W ∧ ∃ u4 u6 u8 u9 u10 u11 u12 u13 u14 u15 u16 u17 u18 u19 u20 u21 u22 u23 u24 u25 u26 u27 u28 u29 u30 u31 u32 u33 u34 u35 u36 u37 u38 : Value, a' = { tmps := #[.slice (some ⟨b, o, none⟩) (rest.length + 1) ck, .pointer (some ⟨bl, 0, none⟩), .pointer (some ⟨ba, 0, none⟩), .pointer (some ⟨br, 0, none⟩), u4, .pointer (some ⟨bf, 0, none⟩), u6, .pointer (some ⟨Bx, 0, none⟩), u8, u9, u10, u11, u12, u13, u14, u15, u16, u17, u18, u19, u20, u21, u22, u23, u24, u25, u26, u27, u28, u29, u30, u31, u32, u33, u34, u35, u36, u37, u38], defers := [] })
          (fun x a' u A B row ⟨Bx, h1, h2, h5⟩ hg hr => ⟨Bx, h1, row_own h2 hg (fun r e => (hr r e).2), h5⟩)
          ?assign ?body ?done ?stop
        case assign =>
          rintro l k hk Wa K hA hK
          obtain ⟨x, hx⟩ : ∃ x, x = (backL rest)[k] := ⟨_, rfl⟩
          rw [← hx] at hK ⊢
          clear hx
          have hb : Below Wa.heap.size Wa (Wa.alloc (.cells (stCells x.1).toArray 33)) := (Below.refl _ _).alloc (Nat.le_refl _) _
          have hfin := fun a' e5 => hK a' (Wa.alloc (.cells (stCells x.1).toArray 33)) (keepsFrom_below hb) (KeepsS.of_below hb (fun j hj => Nat.lt_of_lt_of_le (HSl.out j hj) hA.size)) (hA.below hb) ⟨Wa.heap.size, hA.size, BxC.new _ _ _, e5⟩
          have HFin2 : Hid (∀ a', (∃ u4 u6 u8 u9 u10 u11 u12 u13 u14 u15 u16 u17 u18 u19 u20 u21 u22 u23 u24 u25 u26 u27 u28 u29 u30 u31 u32 u33 u34 u35 u36 u37 u38 : Value, a' = { tmps := #[.slice (some ⟨b, o, none⟩) (rest.length + 1) ck, .pointer (some ⟨bl, 0, none⟩), .pointer (some ⟨ba, 0, none⟩), .pointer (some ⟨br, 0, none⟩), u4, .pointer (some ⟨bf, 0, none⟩), u6, .pointer (some ⟨Wa.heap.size, 0, none⟩), u8, u9, u10, u11, u12, u13, u14, u15, u16, u17, u18, u19, u20, u21, u22, u23, u24, u25, u26, u27, u28, u29, u30, u31, u32, u33, u34, u35, u36, u37, u38], defers := [] }) → K a' (Wa.alloc (.cells (stCells x.1).toArray 33))) := hfin
          clear hK hfin hb hA
          simp only [encB]
          gi_wp2
          exact HFin2.out _ ⟨_, _, _, _, _, _, _, _, _, _, _, _, _, _, _, _, _, _, _, _, _, _, _, _, _, _, _, _, _, _, _, _, _, rfl⟩
        case body =>
          rintro l k hk a' Wb hlD hA ⟨Bx, hx1, hx2, u4, u6, u8, u9, u10, u11, u12, u13, u14, u15, u16, u17, u18, u19, u20, u21, u22, u23, u24, u25, u26, u27, u28, u29, u30, u31, u32, u33, u34, u35, u36, u37, u38, rfl⟩
          obtain ⟨x, hx⟩ : ∃ x, x = (backL rest)[k] := ⟨_, rfl⟩
          rw [← hx] at hx2
          obtain ⟨v2, hS, hE⟩ := hA
          have h9 : x ∈ backL rest := by (rw [hx]; exact List.getElem_mem hk)
          have hxm : x.1 ∈ rest := by (have h8 : x.1 ∈ (backL rest).map Prod.fst := List.mem_map_of_mem h9; rw [backL_fst] at h8; simpa using h8)
          have HHx : Hid (hasL L x.1 = true) := (HMr.out x.1 hxm).1
          have HLx : Hid (latN L x.1 < nn) := by (have := (HMr.out x.1 hxm).2; show _ < _; omega)
          obtain ⟨Zk, eZk⟩ : ∃ Zk, Zk = (((backL rest).map Prod.fst).take k).flatMap fun k => k :: bel L k := ⟨_, rfl⟩
          have hZ1 : (((backL rest).map Prod.fst).take (k + 1)).flatMap (fun k => k :: bel L k) = Zk ++ (x.1 :: bel L x.1) := by (rw [List.take_succ_eq_append_getElem (by simpa using hk), List.flatMap_append, ← eZk, List.getElem_map, ← hx]; simp)
          have hlen9 : (Zk ++ (x.1 :: bel L x.1)).length ≤ (bel L c).length := by (rw [← hZ1]; have h9 := take_flat (fun k => k :: bel L k) ((backL rest).map Prod.fst) (k + 1); have h8 := congrArg List.length HBc.out; rw [List.length_append, ← backL_fst] at h8; omega)
          have hlenX : X.length + (bel L c).length = (bel L a0).length := by (have := congrArg List.length HX0.out; simpa using this)
          have HTk : Hid (((((backL rest).map Prod.fst).take (k + 1)).flatMap (fun k => k :: bel L k)).map (slO L) = (Zk.map (slO L) ++ [slO L x.1]) ++ (bel L x.1).map (slO L)) := by (show _ = _; rw [hZ1]; simp)
          have HLn2 : Hid ((D ++ (X ++ (Zk.map (slO L) ++ [slO L x.1]))).length + (bel L x.1).length ≤ 16384) := by (show _ ≤ _; have h9 := HLn.out; simp only [List.length_append, List.length_cons, List.length_map, List.length_nil] at hlen9 ⊢; omega)
          have hln1 : (D ++ (X ++ Zk.map (slO L))).length ≤ 16384 := by (have h9 := HLn.out; simp only [List.length_append, List.length_cons, List.length_map] at hlen9 ⊢; omega)
          rw [← eZk] at hS hE
          clear hZ1 eZk hlen9 hlenX hxm hx
          have HS : Hid (LpS F N bo bl ba br rb L ma mb fv E D v w c (.slice (some ⟨b, o, none⟩) (rest.length + 1) ck) (X ++ Zk.map (slO L)) v2 ds Wb) := hS
          have HE : Hid (RgE F N bo bl ba br rb L ma mb fv E D v w c (.slice (some ⟨b, o, none⟩) (rest.length + 1) ck) X ds W2 bf bk first (.slice A rest.length ct) (Zk.map (slO L)) Wb) := hE
          have HX : Hid (BxC Bx (stCells x.1) 33 Wb) := hx2
          have l0 := hS.s.l.cell 0 _ rfl
          have x0 := hx2.cell 0 _ rfl
          have x1 := hx2.cell 1 _ rfl
          simp only [layV] at l0
          have HWb : Hid (W2.heap.size ≤ Wb.heap.size) := hE.size
          clear hS hE hx2
          gi_wp2_with fail
          refine ⟨trivial, ((callsIn_wide.2 (lay_any F N bo bl ba br rb L ma mb fv E _ v2 x.1 _ HS.out.s hln1)).inRound l).mono ?_⟩
          rintro e w3 ⟨⟨u9, rfl⟩, hP⟩
          obtain ⟨v3, hS3⟩ := HS.out.step hP
          rw [List.append_assoc] at hS3
          have HR1 : Hid (RgE F N bo bl ba br rb L ma mb fv E D v w c (.slice (some ⟨b, o, none⟩) (rest.length + 1) ck) X ds W2 bf bk first (.slice A rest.length ct) (Zk.map (slO L) ++ [slO L x.1]) w3) := HE.out.step hP HS.out.s
          have HK : Hid (KeepsS (fun k => k = bk ∨ F k) Wb w3 ∧ KeepsFrom W2.heap.size Wb w3) := ⟨hP.keeps HS.out.s HE.out.k, hP.from HS.out.s _⟩
          replace HX : Hid (BxC Bx (stCells x.1) 33 w3) := hP.box HX.out (by decide) (by decide) HS.out.s
          obtain ⟨Y3, eY3⟩ : ∃ Y3, Y3 = Zk.map (slO L) ++ [slO L x.1] := ⟨_, rfl⟩
          replace HS : Hid (LpS F N bo bl ba br rb L ma mb fv E D v w c (.slice (some ⟨b, o, none⟩) (rest.length + 1) ck) (X ++ Y3) v3 ds w3) := by (rw [eY3]; exact hS3)
          rw [← eY3] at HTk HLn2 HR1
          clear hS3 hP l0 x0 x1 HE eY3 hln1
          gi_wp2
          refine region_round_held (S := fun W' => LyB br rb ba bl W' ∧ BxC Bx (stCells x.1) 33 W' ∧ RowIs F W' rb L (behZ L) (frL L) ma mb fv E) l (by kernel_rfl) (by kernel_rfl) (lets_block lets_round) ⟨HS.out.s.lyb.below (Below.refl _ _).drew, HX.out.below (Below.refl _ _).drew, HS.out.s.row.below (Below.refl _ _).drew⟩ (fun hHeld => ?_)
          obtain ⟨Ub2u0, eW⟩ : ∃ X, X = w3.drew := ⟨_, rfl⟩
          have hb : Below w3.heap.size w3 Ub2u0 := by rw [eW]; exact (Below.refl _ _).drew
          replace HS : Hid (LpS F N bo bl ba br rb L ma mb fv E D v w c (.slice (some ⟨b, o, none⟩) (rest.length + 1) ck) (X ++ Y3) v3 ds Ub2u0) := HS.out.below hb
          replace HX : Hid (BxC Bx (stCells x.1) 33 Ub2u0) := HX.out.below hb
          replace HK : Hid (KeepsS (fun k => k = bk ∨ F k) Wb Ub2u0 ∧ KeepsFrom W2.heap.size Wb Ub2u0) := ⟨HK.out.1.trans (KeepsS.of_below hb (fun j hj => Nat.lt_of_lt_of_le (HSl.out j hj) (Nat.le_trans HWb.out HK.out.1.1))), HK.out.2.trans (keepsFrom_below hb)⟩
          replace HR1 : Hid (RgE F N bo bl ba br rb L ma mb fv E D v w c (.slice (some ⟨b, o, none⟩) (rest.length + 1) ck) X ds W2 bf bk first (.slice A rest.length ct) Y3 Ub2u0) := HR1.out.below hb
          rw [← eW] at hHeld ⊢
          clear eW hb
          refine tkW 0 (some 22) (v := ?_) ?_ hHeld ?_
          rotate_left
          · (intro ww hSw; (try dsimp only at hSw); have hS := hSw; have c1 := hS.2.2.c1; have hlk : (Instr.lookup 55 (.map (some mb)) (.agg #[.int .i64 x.1.1, .int .i64 x.1.2]) false).run Try.prog ww = .ok (vB E x.1) ww := hS.2.2.lookB x.1; have x0 := hS.2.1.cell 0 _ rfl; have x1 := hS.2.1.cell 1 _ rfl; have p0 := hS.1.1.cell 0 _ rfl; have p1 := hS.1.2.cell 0 _ rfl; simp only [layAV] at p1; go_simp; try with_reducible rfl)
          refine tkW 1 (some 23) (v := ?_) ?_ hHeld ?_
          rotate_left
          · (intro ww hSw; (try dsimp only at hSw); have hS := hSw; have c1 := hS.2.2.c1; have hlk : (Instr.lookup 55 (.map (some mb)) (.agg #[.int .i64 x.1.1, .int .i64 x.1.2]) false).run Try.prog ww = .ok (vB E x.1) ww := hS.2.2.lookB x.1; have x0 := hS.2.1.cell 0 _ rfl; have x1 := hS.2.1.cell 1 _ rfl; have p0 := hS.1.1.cell 0 _ rfl; have p1 := hS.1.2.cell 0 _ rfl; simp only [layAV] at p1; go_simp; try with_reducible rfl)
          refine tkW 2 (some 24) (v := ?_) ?_ hHeld ?_
          rotate_left
          · (intro ww hSw; (try dsimp only at hSw); have hS := hSw; go_simp; try with_reducible rfl)
          refine tkW 3 (some 25) (v := ?_) ?_ hHeld ?_
          rotate_left
          · (intro ww _; go_simp; try with_reducible rfl)
          refine tkW 4 (some 26) (v := ?_) ?_ hHeld ?_
          rotate_left
          · (intro ww hSw; (try dsimp only at hSw); have hS := hSw; have c1 := hS.2.2.c1; have hlk : (Instr.lookup 55 (.map (some mb)) (.agg #[.int .i64 x.1.1, .int .i64 x.1.2]) false).run Try.prog ww = .ok (vB E x.1) ww := hS.2.2.lookB x.1; have x0 := hS.2.1.cell 0 _ rfl; have x1 := hS.2.1.cell 1 _ rfl; have p0 := hS.1.1.cell 0 _ rfl; have p1 := hS.1.2.cell 0 _ rfl; simp only [layAV] at p1; go_simp; try with_reducible rfl)
          refine tkW 5 (some 27) (v := ?_) ?_ hHeld ?_
          rotate_left
          · (intro ww hSw; (try dsimp only at hSw); have hS := hSw; have c1 := hS.2.2.c1; have hlk : (Instr.lookup 55 (.map (some mb)) (.agg #[.int .i64 x.1.1, .int .i64 x.1.2]) false).run Try.prog ww = .ok (vB E x.1) ww := hS.2.2.lookB x.1; have x0 := hS.2.1.cell 0 _ rfl; have x1 := hS.2.1.cell 1 _ rfl; have p0 := hS.1.1.cell 0 _ rfl; have p1 := hS.1.2.cell 0 _ rfl; simp only [layAV] at p1; go_simp; try with_reducible rfl)
          refine tkW 6 (some 28) (v := ?_) ?_ hHeld ?_
          rotate_left
          · (intro ww hSw; (try dsimp only at hSw); have hS := hSw; have c1 := hS.2.2.c1; have hlk : (Instr.lookup 55 (.map (some mb)) (.agg #[.int .i64 x.1.1, .int .i64 x.1.2]) false).run Try.prog ww = .ok (vB E x.1) ww := hS.2.2.lookB x.1; have x0 := hS.2.1.cell 0 _ rfl; have x1 := hS.2.1.cell 1 _ rfl; have p0 := hS.1.1.cell 0 _ rfl; have p1 := hS.1.2.cell 0 _ rfl; simp only [layAV] at p1; go_simp; try with_reducible rfl)
          refine wpAnyH_ready (rs := [7]) (by kernel_rfl) (by simp) ?_
          refine AllReadyH.cons (o := ⟨some 29, _, _, _, _, _⟩) rfl (fun K hK => ?_) AllReadyH.nil
          go_simp
          have hkx : LsE stCells 2 F Ub2u0 (vB E x.1) (kidL L x.1) := (by have h9 := HS.out.s.row.ownB x.1; rw [kid_beh hG HHx.out] at h9; exact h9.lsE stCells_len (by have := kidL_length L x.1; omega) (fun j e => (HS.out.s.row.inB e).1))
          refine (ih x.1 (vB E x.1) _ v3 Ub2u0 (.inr HHx.out) HLx.out HS.out.s hkx HLn2.out).mono ?_
          rintro e Ub2u1 ⟨⟨u9, rfl⟩, hP⟩
          (try go_wp2_with fail)
          have HN : Hid (RgS F N bo bl ba br rb L ma mb fv E D v w c (.slice (some ⟨b, o, none⟩) (rest.length + 1) ck) X ds W2 bf bk first (.slice A rest.length ct) rest ((((backL rest).map Prod.fst).take (k + 1)).flatMap fun k => k :: bel L k) Ub2u1 ∧ KeepsS (fun k => k = bk ∨ F k) Wb Ub2u1 ∧ KeepsFrom W2.heap.size Wb Ub2u1) := HR1.out.more HTk.out hP HS.out HK.out
          have hS2 : LyB br rb ba bl Ub2u1 ∧ BxC Bx (stCells x.1) 33 Ub2u1 ∧ RowIs F Ub2u1 rb L (behZ L) (frL L) ma mb fv E := ⟨hP.lyb, hP.box hHeld.2.1 (by decide) (by decide) HS.out.s, hP.row⟩
          refine hK.out _ _ (hS2) (fun hHeld2 => ?_)
          clear hK K hHeld
          have hHeld := hHeld2
          clear hHeld2
          (try simp only [Act.put, List.setIfInBounds_toArray, List.set_cons_zero, List.set_cons_succ])
          clear hP hS2 hkx
          refine wpAnyH_done (by kernel_rfl) ?_ _
          clear hHeld
          gi_wp2
          exact ⟨HN.out.2.2, HN.out.2.1, HN.out.1⟩
        case done =>
          rintro Dd Wd hDd ⟨v3, hS, hE⟩ hDf
          have hz : ((((backL rest).map Prod.fst).take (backL rest).length).flatMap fun k => k :: bel L k) = rest.reverse.flatMap fun k => k :: bel L k := by (rw [List.take_of_length_le (by simp), backL_fst])
          rw [hz] at hS hE
          obtain ⟨Za, eZa⟩ : ∃ Za, Za = (rest.reverse.flatMap fun k => k :: bel L k).map (slO L) := ⟨_, rfl⟩
          rw [← eZa] at hS hE
          have hXf : (X ++ (Za ++ [slO L first])) ++ (bel L first).map (slO L) = (bel L a0).map (slO L) := by (rw [← HX0.out, HBc.out, eZa]; simp)
          have HXf : Hid ((X ++ (Za ++ [slO L first])) ++ (bel L first).map (slO L) = (bel L a0).map (slO L)) := hXf
          have hlnF : (D ++ (X ++ Za)).length ≤ 16384 := by (have h9 := HLn.out; have h8 := congrArg List.length hXf; simp only [List.length_append, List.length_cons, List.length_map, List.length_nil] at h8 ⊢; omega)
          have HCf : Hid (latN L first < nn + 1) := HLc.out
          have HS : Hid (LpS F N bo bl ba br rb L ma mb fv E D v w c (.slice (some ⟨b, o, none⟩) (rest.length + 1) ck) (X ++ Za) v3 ds Wd) := hS
          have HDn : Hid (Dd ∉ ds) := fun h => by (have := hE.dl Dd h; omega)
          have HDw : Hid (w.heap.size ≤ Dd) := Nat.le_trans hE.wl hDd
          have HF : Hid (BxC bf (stCells first) 33 Wd) := hE.f
          have HDf : Hid (Wd.heap[Dd]? = some (.deferred (some []))) := hDf
          have l0 := hS.s.l.cell 0 _ rfl
          have x0 := hE.f.cell 0 _ rfl
          have x1 := hE.f.cell 1 _ rfl
          simp only [layV] at l0
          clear hS hE hz hDf hXf eZa
          gi_wp2_with fail
          refine ⟨trivial, (callsIn_wide.2 (lay_any F N bo bl ba br rb L ma mb fv E _ v3 first _ HS.out.s hlnF)).mono ?_⟩
          rintro e w5 ⟨⟨u9, rfl⟩, hP⟩
          obtain ⟨v5, hS5⟩ := HS.out.step hP
          rw [List.append_assoc] at hS5
          obtain ⟨Z, eZ⟩ : ∃ Z, Z = Za ++ [slO L first] := ⟨_, rfl⟩
          rw [← eZ] at hS5 HXf
          have HS5 : Hid (LpS F N bo bl ba br rb L ma mb fv E D v w c (.slice (some ⟨b, o, none⟩) (rest.length + 1) ck) (X ++ Z) v5 (Dd :: ds) w5) := hS5.push HDw.out HDn.out (hP.cells HS.out.s HDf.out rfl)
          have HF5 : Hid (BxC bf (stCells first) 33 w5) := hP.box HF.out (by decide) (by decide) HS.out.s
          clear hS5 hP l0 x0 x1 HS HF HDf eZ hlnF
          gi_wp2
          refine wpIn_wide.2 ?_
          refine wp_region_held_drew (S := fun W' => LyB br rb ba bl W' ∧ BxC bf (stCells first) 33 W' ∧ RowIs F W' rb L (behZ L) (frL L) ma mb fv E) (by kernel_rfl) ⟨HS5.out.s.lyb.below (Below.refl _ _).drew, HF5.out.below (Below.refl _ _).drew, HS5.out.s.row.below (Below.refl _ _).drew⟩ (fun hHeld => ?_)
          obtain ⟨Ud3u0, eW⟩ : ∃ X, X = w5.drew := ⟨_, rfl⟩
          have hb : Below w5.heap.size w5 Ud3u0 := by rw [eW]; exact (Below.refl _ _).drew
          replace HS5 : Hid (LpS F N bo bl ba br rb L ma mb fv E D v w c (.slice (some ⟨b, o, none⟩) (rest.length + 1) ck) (X ++ Z) v5 (Dd :: ds) Ud3u0) := HS5.out.below hb
          rw [← eW] at hHeld ⊢
          clear eW hb
          refine tkW 0 (some 33) (v := ?_) ?_ hHeld ?_
          rotate_left
          · (intro ww hSw; (try dsimp only at hSw); have hS := hSw; have c1 := hS.2.2.c1; have hlk : (Instr.lookup 55 (.map (some mb)) (.agg #[.int .i64 first.1, .int .i64 first.2]) false).run Try.prog ww = .ok (vB E first) ww := hS.2.2.lookB first; have x0 := hS.2.1.cell 0 _ rfl; have x1 := hS.2.1.cell 1 _ rfl; have p0 := hS.1.1.cell 0 _ rfl; go_simp; try with_reducible rfl)
          refine tkW 1 (some 34) (v := ?_) ?_ hHeld ?_
          rotate_left
          · (intro ww hSw; (try dsimp only at hSw); have hS := hSw; go_simp; try with_reducible rfl)
          refine tkW 2 (some 35) (v := ?_) ?_ hHeld ?_
          rotate_left
          · (intro ww _; go_simp; try with_reducible rfl)
          refine tkW 3 (some 36) (v := ?_) ?_ hHeld ?_
          rotate_left
          · (intro ww hSw; (try dsimp only at hSw); have hS := hSw; have c1 := hS.2.2.c1; have hlk : (Instr.lookup 55 (.map (some mb)) (.agg #[.int .i64 first.1, .int .i64 first.2]) false).run Try.prog ww = .ok (vB E first) ww := hS.2.2.lookB first; have x0 := hS.2.1.cell 0 _ rfl; have x1 := hS.2.1.cell 1 _ rfl; have p0 := hS.1.1.cell 0 _ rfl; go_simp; try with_reducible rfl)
          refine tkW 4 (some 37) (v := ?_) ?_ hHeld ?_
          rotate_left
          · (intro ww hSw; (try dsimp only at hSw); have hS := hSw; have c1 := hS.2.2.c1; have hlk : (Instr.lookup 55 (.map (some mb)) (.agg #[.int .i64 first.1, .int .i64 first.2]) false).run Try.prog ww = .ok (vB E first) ww := hS.2.2.lookB first; have x0 := hS.2.1.cell 0 _ rfl; have x1 := hS.2.1.cell 1 _ rfl; have p0 := hS.1.1.cell 0 _ rfl; go_simp; try with_reducible rfl)
          refine tkW 5 (some 38) (v := ?_) ?_ hHeld ?_
          rotate_left
          · (intro ww hSw; (try dsimp only at hSw); have hS := hSw; have c1 := hS.2.2.c1; have hlk : (Instr.lookup 55 (.map (some mb)) (.agg #[.int .i64 first.1, .int .i64 first.2]) false).run Try.prog ww = .ok (vB E first) ww := hS.2.2.lookB first; have x0 := hS.2.1.cell 0 _ rfl; have x1 := hS.2.1.cell 1 _ rfl; have p0 := hS.1.1.cell 0 _ rfl; go_simp; try with_reducible rfl)
          refine tkW 6 (some 0) (v := ?_) ?_ hHeld ?_
          rotate_left
          · (intro ww _; go_simp; try with_reducible rfl)
          refine wpAnyH_done (by kernel_rfl) ?_ _
          clear hHeld
          gi_wp2
          exact ihm _ Ud3u0 first (vB E first) (X ++ Z) v5 (Dd :: ds) _ _ _ _ _ _ _ _ _ _ _ _ _ _ _ _ _ _ _ _ _ _ _ _ _ _ _ _ _ _ _ _ _ _ _ rfl (HS5.out.next hG HHf.out hLl) HLf.out HCf.out HXf.out
        case stop => rintro D c k W hD hk hf; exact hf.elim

end Go.Proofs.Ytfgkdbidgbpobaa
