/- Add. -/
import Derived.Test.YtfgkdbidgbpobaaRwR
namespace Go.Proofs.Ytfgkdbidgbpobaa
open Go.RowKit Go.Shelf
set_option linter.unusedVariables false
set_option linter.unusedSimpArgs false

attribute [local go_sem] Oper.semAt_some

/-- A row's pointer and two stamps in boxes. -/
structure Bx3R (bx rb : Nat) (s : Sl) (W : World) : Prop where
  r0 : BxC bx [.pointer (some ⟨rb, 0, none⟩)] 23 W
  r1 : BxC (bx + 1) (stCells s.ts) 33 W
  r2 : BxC (bx + 2) (stCells s.af) 33 W
section
variable {bx rb : Nat} {s : Sl} {W W' : World}
theorem Bx3R.keep (h : Bx3R bx rb s W) (hk : ∀ j, bx ≤ j → j ≤ bx + 2 → W'.heap[j]? = W.heap[j]?) : Bx3R bx rb s W' := ⟨h.r0.keep (hk _ (by omega) (by omega)), h.r1.keep (hk _ (by omega) (by omega)), h.r2.keep (hk _ (by omega) (by omega))⟩
theorem Bx3R.below (h : Bx3R bx rb s W) (hb : Below W.heap.size W W') : Bx3R bx rb s W' := h.keep fun j h1 h2 => hb.block j (by have := h.r2.lt; omega)
theorem Bx3R.drew (h : Bx3R bx rb s W) : Bx3R bx rb s W.drew := h.below (Below.refl _ _).drew
theorem Bx3R.touch (h : Bx3R bx rb s W) {G : Nat → Prop} (ht : Touch G W W') (hG : ∀ j, G j → j < bx ∨ bx + 2 < j) : Bx3R bx rb s W' := h.keep fun j h1 h2 => ht.block j (by have := h.r2.lt; omega) (fun h3 => by have := hG j h3; omega)
theorem Bx3R.p0 (h : Bx3R bx rb s W) : W.cell? ⟨bx, 0, none⟩ = some (.pointer (some ⟨rb, 0, none⟩)) := h.r0.cell 0 _ rfl
theorem Bx3R.a0 (h : Bx3R bx rb s W) : W.cell? ⟨bx + 1, 0, none⟩ = some (.int .i64 s.ts.1) := h.r1.cell 0 _ rfl
theorem Bx3R.a1 (h : Bx3R bx rb s W) : W.cell? ⟨bx + 1, 1, none⟩ = some (.int .i64 s.ts.2) := h.r1.cell 1 _ rfl
theorem Bx3R.f0 (h : Bx3R bx rb s W) : W.cell? ⟨bx + 2, 0, none⟩ = some (.int .i64 s.af.1) := h.r2.cell 0 _ rfl
theorem Bx3R.f1 (h : Bx3R bx rb s W) : W.cell? ⟨bx + 2, 1, none⟩ = some (.int .i64 s.af.2) := h.r2.cell 1 _ rfl
end
/-- What Add leaves. -/
def AddP (F : Nat → Prop) (w : World) (rb : Nat) (L : List Sl) (s : Sl) (e : Ending) (w' : World) : Prop := e = .returned (.int .i64 (addC L s)) ∧ ∃ F', RowOk F' w' rb (addL L s) ∧ (∀ k, F k → F' k) ∧ (∀ k, F' k → F k ∨ w.heap.size ≤ k) ∧ Touch F w w'
/-- What stands while a slot is added. -/
structure AdS (F0 : Nat → Prop) (w : World) (bx rb : Nat) (s : Sl) (F : Nat → Prop) (W : World) (A : List Sl) (B : St → List St) (Fr : List St) (ma mb : Nat) (fv : Value) (E : List (St × Value)) : Prop where
  row : RowIs F W rb A B Fr ma mb fv E
  inc : ∀ k, F0 k → F k
  out : ∀ k, F k → F0 k ∨ bx + 2 < k
  low : ∀ k, F0 k → k < bx
  to : Touch F0 w W
  bxs : Bx3R bx rb s W
  sz : w.heap.size = bx
section
variable {F0 F : Nat → Prop} {w W W' W1 : World} {bx rb : Nat} {s : Sl} {A L : List Sl} {B : St → List St} {Fr dk : List St} {ma mb : Nat} {fv : Value} {E : List (St × Value)}
theorem AdS.start (h : RowIs F w rb A B Fr ma mb fv E) : AdS F w w.heap.size rb s F (((w.alloc (.cells [.pointer (some ⟨rb, 0, none⟩)].toArray 23)).alloc (.cells (stCells s.ts).toArray 33)).alloc (.cells (stCells s.af).toArray 33)) A B Fr ma mb fv E := by
  obtain ⟨h1, h2, h3⟩ := BxC.new3 w [.pointer (some ⟨rb, 0, none⟩)] (stCells s.ts) (stCells s.af) 23 33 33
  have hb : Below w.heap.size w (((w.alloc (.cells [.pointer (some ⟨rb, 0, none⟩)].toArray 23)).alloc (.cells (stCells s.ts).toArray 33)).alloc (.cells (stCells s.af).toArray 33)) := (((Below.refl _ _).alloc (Nat.le_refl _) _).alloc (by simp) _).alloc (by simp; omega) _
  exact ⟨h.below hb, fun _ h => h, fun _ h => .inl h, h.lt, Touch.of_below hb, ⟨h1, h2, h3⟩, rfl⟩
theorem AdS.below (h : AdS F0 w bx rb s F W A B Fr ma mb fv E) (hb : Below W.heap.size W W') : AdS F0 w bx rb s F W' A B Fr ma mb fv E := ⟨h.row.below hb, h.inc, h.out, h.low, h.to.trans (Touch.of_below (F := fun _ => False) hb) (fun j h => h.elim), h.bxs.below hb, h.sz⟩
theorem AdS.bxGrown (h : AdS F0 w bx rb s F W A B Fr ma mb fv E) {v : Value} (hg : W.grownBy W1 v.ownBlock) (hv : ∀ k, v.ownBlock = some k → F k) : Bx3R bx rb s W1 :=
  h.bxs.touch (Touch.of_grown (F := F) hg fun j e _ => hv j e) fun j hj => (h.out j hj).imp (h.low j) id
theorem AdS.storeB (h : AdS F0 w bx rb s F W A B Fr ma mb fv E) {a : St} {v' : Value} {l' : List St} (hg : W.grownBy W1 (vB E a).ownBlock) (ho : OwnSt 0 W1 v' l') (hv : v'.ownBlock = (vB E a).ownBlock ∨ ∃ k, v'.ownBlock = some k ∧ W.heap.size ≤ k) :
    ∃ w2 E' F', (Instr.mapUpdate 55 (.map (some mb)) (stV a) v').run Try.prog W1 = .ok () w2 ∧ AdS F0 w bx rb s F' w2 A (updB B a l') Fr ma mb fv E' := by
  obtain ⟨w2, E', h1, h2, h3, h4⟩ := h.row.storeB hg ho hv
  have hbl := h.bxs.r2.lt
  have hout : ∀ k, v'.ownBlock = some k → F k ∨ bx + 2 < k := fun k e => by
    rcases hv with hv | ⟨j, hv, hj⟩
    · exact .inl (h.row.inB (hv ▸ e)).1
    · rw [e] at hv; cases hv; exact .inr (by omega)
  refine ⟨w2, E', _, h1, h2, fun k hk => .inl (h.inc k hk), fun k hk => ?_, h.low, h.to.trans h3 (fun j hj => (h.out j hj).imp id fun e => by have := h.sz; omega), h.bxs.touch h3 (fun j hj => (h.out j hj).imp (h.low j) id), h.sz⟩
  rcases hk with hk | hk
  · exact h.out k hk
  · exact (hout k hk).elim (h.out k) .inr
theorem AdS.storeF (h : AdS F0 w bx rb s F W A B Fr ma mb fv E) {v' : Value} {l' : List St} (hg : W.grownBy W1 fv.ownBlock) (ho : OwnSt 0 W1 v' l') (hv : v'.ownBlock = fv.ownBlock ∨ ∃ k, v'.ownBlock = some k ∧ W.heap.size ≤ k) :
    ∃ F', AdS F0 w bx rb s F' (W1.setCell ⟨rb, 2, none⟩ v') A B l' ma mb v' E := by
  obtain ⟨h2, h3⟩ := h.row.storeF hg ho hv
  have hbl := h.bxs.r2.lt
  have hout : ∀ k, v'.ownBlock = some k → F k ∨ bx + 2 < k := fun k e => by
    rcases hv with hv | ⟨j, hv, hj⟩
    · exact .inl (h.row.ff k (hv ▸ e))
    · rw [e] at hv; cases hv; exact .inr (by omega)
  refine ⟨_, h2, fun k hk => .inl (h.inc k hk), fun k hk => ?_, h.low, h.to.trans h3 (fun j hj => (h.out j hj).imp id fun e => by have := h.sz; omega), h.bxs.touch h3 (fun j hj => (h.out j hj).imp (h.low j) id), h.sz⟩
  rcases hk with hk | hk
  · exact h.out k hk
  · exact (hout k hk).elim (h.out k) .inr
/-- .. and while those that came ahead of it go from the front. -/
structure RngI (F0 : Nat → Prop) (w : World) (bx rb : Nat) (s : Sl) (F : Nat → Prop) (Wr : World) (bk : Nat) (A : List Sl) (B : St → List St) (Fr : List St) (ma mb : Nat) (fv : Value) (E : List (St × Value)) (W : World) : Prop where
  ad : AdS F0 w bx rb s F W A B Fr ma mb fv E
  size : Wr.heap.size ≤ W.heap.size
  hi : ∀ k, F k → k < Wr.heap.size ∧ k ≠ bk
  bb : bx + 2 < bk
  bkl : bk < Wr.heap.size
def RngS (F0 : Nat → Prop) (w : World) (bx rb : Nat) (s : Sl) (F : Nat → Prop) (Wr : World) (bk : Nat) (A : List Sl) (B : St → List St) (Fr : List St) (ma mb : Nat) (E : List (St × Value)) (W : World) : Prop := ∃ fv, RngI F0 w bx rb s F Wr bk A B Fr ma mb fv E W
variable {Wr : World} {bk : Nat}
theorem RngI.row (h : RngI F0 w bx rb s F Wr bk A B Fr ma mb fv E W) : RowIs F W rb A B Fr ma mb fv E := h.ad.row
theorem RngI.bxs (h : RngI F0 w bx rb s F Wr bk A B Fr ma mb fv E W) : Bx3R bx rb s W := h.ad.bxs
theorem RngI.below (h : RngI F0 w bx rb s F Wr bk A B Fr ma mb fv E W) (hb : Below W.heap.size W W') : RngI F0 w bx rb s F Wr bk A B Fr ma mb fv E W' := ⟨h.ad.below hb, Nat.le_trans h.size hb.size, h.hi, h.bb, h.bkl⟩
theorem RngS.below (h : RngS F0 w bx rb s F Wr bk A B Fr ma mb E W) (hb : Below W.heap.size W W') : RngS F0 w bx rb s F Wr bk A B Fr ma mb E W' := by obtain ⟨fv, h⟩ := h; exact ⟨fv, h.below hb⟩
theorem RngS.size (h : RngS F0 w bx rb s F Wr bk A B Fr ma mb E W) : Wr.heap.size ≤ W.heap.size := by obtain ⟨fv, h⟩ := h; exact h.size
theorem RngS.grown (h : RngS F0 w bx rb s F Wr bk A B Fr ma mb E W) {row : Option Nat} (hg : W.grownBy W' row) (hr : ∀ r, row = some r → Wr.heap.size ≤ r ∧ ∃ o : Obj, W.heap[r]? = some o ∧ o.isCells = false) : RngS F0 w bx rb s F Wr bk A B Fr ma mb E W' := by
  obtain ⟨fv, h⟩ := h
  have ht : Touch (fun k => Wr.heap.size ≤ k) W W' := Touch.of_grown hg fun j e _ => (hr j e).1
  have hsz := h.ad.sz
  have hb1 := h.bb
  have hb2 := h.bkl
  exact ⟨fv, ⟨h.ad.row.touch ht (fun k hk e => by have := (h.hi k hk).1; omega), h.ad.inc, h.ad.out, h.ad.low, h.ad.to.trans ht (fun j hj => .inr (by omega)), h.ad.bxs.touch ht (fun j hj => .inr (by omega)), h.ad.sz⟩, Nat.le_trans h.size hg.size, h.hi, h.bb, h.bkl⟩
theorem AdS.rng (h : AdS F0 w bx rb s F W A B Fr ma mb fv E) (hk : ∀ k, F k → k < bk) (hb : bk < W.heap.size) (h3 : bx + 2 < bk) : RngS F0 w bx rb s F W bk A B Fr ma mb E W := ⟨fv, h, Nat.le_refl _, fun k h1 => ⟨by have := hk k h1; omega, by have := hk k h1; omega⟩, h3, hb⟩
theorem RngI.bxGrown (h : RngI F0 w bx rb s F Wr bk A B Fr ma mb fv E W) (hg : W.grownBy W1 fv.ownBlock) : Bx3R bx rb s W1 := h.ad.bxGrown hg (fun k e => h.row.ff k e)
theorem RngI.far (h : RngI F0 w bx rb s F Wr bk A B Fr ma mb fv E W) (v : Value) {k : Nat} (e : fv.ownBlock = some k) : k < Wr.heap.size := (h.hi k (h.row.ff k e)).1
theorem RngI.rbl (h : RngI F0 w bx rb s F Wr bk A B Fr ma mb fv E W) : rb < Wr.heap.size := (h.hi rb h.row.fr).1
theorem RngI.bxl (h : RngI F0 w bx rb s F Wr bk A B Fr ma mb fv E W) : bx + 2 < Wr.heap.size := by have := h.bb; have := h.bkl; omega
theorem keepsFrom_below {B : Nat} {A C : World} (hb : Below A.heap.size A C) : KeepsFrom B A C := ⟨hb.size, fun k o _ hk _ => (hb.block k (Array.getElem?_eq_some_iff.1 hk).1).trans hk⟩
theorem keepsFrom_touch {B : Nat} {G : Nat → Prop} {A C : World} (ht : Touch G A C) (hG : ∀ k, G k → k < B) : KeepsFrom B A C := ⟨ht.size, fun k o hB hk _ => (ht.block k (Array.getElem?_eq_some_iff.1 hk).1 (fun h => by have := hG k h; omega)).trans hk⟩
theorem keepsSK_b {S : Nat → Prop} {w : World} (hn : ∀ k, S k → k < w.heap.size) (W : World) (l : Nat) (o o' : Obj) (hl : w.heap.size ≤ l) (h : W.heap[l]? = some o) (h1 : o.isCells = false) (h2 : o.isWalk = false) : KeepsS S W (W.putObj l o') :=
  ⟨by simp [World.putObj], fun k hk => World.putObj_heap_other (by have := hn k hk; omega)⟩
theorem row_own {W W' : World} {k : Nat} {cs : Array Value} {t : TypeId} {fr : Nat × Nat} {row : Option Nat} (h : W.heap[k]? = some (.cells cs t fr)) (hg : W.grownBy W' row) (hr : ∀ r, row = some r → ∃ o : Obj, W.heap[r]? = some o ∧ o.isCells = false) : W'.heap[k]? = some (.cells cs t fr) := by
  refine (hg.block k (Array.getElem?_eq_some_iff.1 h).1 fun e => ?_).trans h
  obtain ⟨o, h1, h2⟩ := hr k e.symm
  rw [h] at h1
  cases h1
  simp [Obj.isCells] at h2
theorem grownBy_putObj' (W : World) (l : Nat) (o : Obj) : W.grownBy (W.putObj l o) (some l) := ⟨rfl, rfl, rfl, by simp [World.putObj], fun k hk hne => World.putObj_heap_other (fun e => hne (by rw [e]))⟩
/-- The front's list is another one now, in its place. -/
theorem RngI.storeF (h : RngI F0 w bx rb s F Wr bk A B Fr ma mb fv E W) {v' : Value} {l' : List St} (hg : W.grownBy W1 fv.ownBlock) (ho : OwnSt 0 W1 v' l') (hv : v'.ownBlock = fv.ownBlock) :
    RngS F0 w bx rb s F Wr bk A B l' ma mb E (W1.setCell ⟨rb, 2, none⟩ v') ∧ KeepsS (fun k => k = bk ∨ (∃ x ∈ E, x.2.ownBlock = some k)) W (W1.setCell ⟨rb, 2, none⟩ v') ∧ KeepsFrom Wr.heap.size W (W1.setCell ⟨rb, 2, none⟩ v') := by
  obtain ⟨h2, h3⟩ := h.row.storeF hg ho (.inl hv)
  have hF : (fun k => F k ∨ v'.ownBlock = some k) = F := by
    funext k
    exact propext ⟨fun e => e.elim id fun e => h.row.ff k (hv ▸ e), .inl⟩
  rw [hF] at h2
  have hsz := h.ad.sz
  refine ⟨⟨v', ⟨h2, h.ad.inc, h.ad.out, h.ad.low, h.ad.to.trans h3 (fun j hj => (h.ad.out j hj).imp id fun e => by omega), h.ad.bxs.touch h3 (fun j hj => (h.ad.out j hj).imp (h.ad.low j) id), h.ad.sz⟩, Nat.le_trans h.size h3.size, h.hi, h.bb, h.bkl⟩, ?_, keepsFrom_touch h3 fun k hk => (h.hi k hk).1⟩
  have hg2 := grownBy_setCell W1 rb 2 v'
  refine ⟨h3.size, fun k hk => ?_⟩
  rcases hk with rfl | ⟨x, hx, e⟩
  · exact h3.block k (by have := h.bkl; have := h.size; omega) fun hF => (h.hi k hF).2 rfl
  · have hne := h.row.apart (h.row.beh x hx) e
    exact (Below.heap_setCell _ _ _ _ hne.1).trans (hg.block k (h.row.lt k (h.row.fe x hx k e)) fun e2 => h.row.dif x hx k e e2.symm)
theorem RngI.storeA (h : RngI F0 w bx rb s F Wr bk A B Fr ma mb fv E W) (ho : okS s = true) (hn : hasL A s.ts = false) :
    ∃ w2, (Instr.mapUpdate 53 (.map (some ma)) (stV s.ts) (stV s.af)).run Try.prog W = .ok () w2 ∧ RowIs F w2 rb (A ++ [s]) B Fr ma mb fv E ∧ Touch F0 w w2 ∧ ∀ k, (Wr.heap.size ≤ k ∧ k < W.heap.size) ∨ (bx ≤ k ∧ k ≤ bx + 2) → w2.heap[k]? = W.heap[k]? := by
  obtain ⟨w2, h1, h2, h3, h4⟩ := h.row.storeA s ho hn
  have hsz := h.ad.sz
  refine ⟨w2, h1, h2, h.ad.to.trans h3 (fun j hj => (h.ad.out j hj).imp id fun e => by omega), fun k hk => ?_⟩
  rcases hk with ⟨k1, k2⟩ | ⟨k1, k2⟩
  · exact h3.block k k2 fun hF => by have := (h.hi k hF).1; omega
  · exact h3.block k (by have := h.bxl; have := h.size; omega) fun hF => by
      rcases h.ad.out k hF with h5 | h5
      · have := h.ad.low k h5; omega
      · omega
end
theorem behZ_length (L : List Sl) (a : St) : (behZ L a).length ≤ L.length := by unfold behZ; split; exact Nat.zero_le _; exact behL_length L a
theorem behZ_srt (L : List Sl) (a : St) : SrtS (behZ L a) := by unfold behZ; split; exact List.Pairwise.nil; exact behL_srt L a
theorem behZ_not {L : List Sl} {a t : St} (h : hasL L t = false) : hasS (behZ L a) t = false := by
  refine hasS_no.2 fun m hm e => ?_
  unfold behZ at hm
  split at hm
  · cases hm
  · obtain ⟨s, hs, _, e2⟩ := mem_behL.1 hm
    exact hasL_no.1 h s hs (e2.trans e)
theorem frL_not {L : List Sl} {t : St} (h : hasL L t = false) : hasS (frL L) t = false := by
  refine hasS_no.2 fun m hm e => ?_
  obtain ⟨s, hs, _, e2⟩ := mem_frL.1 hm
  exact hasL_no.1 h s hs (e2.trans e)
theorem vB_mem {E : List (St × Value)} {a : St} {k : Nat} (e : (vB E a).ownBlock = some k) : ∃ x ∈ E, x.2.ownBlock = some k := by
  unfold vB at e
  cases hg : getP Prod.fst E a with
  | none => rw [hg] at e; cases e
  | some x => rw [hg] at e; exact ⟨x, (getE_some hg).1, e⟩
theorem okS_af1 {s : Sl} (h : okS s = true) (hz : s.af ≠ z0) : 1 ≤ s.af.1 := by
  unfold okS at h
  simp only [Bool.and_eq_true, decide_eq_true_eq, Bool.or_eq_true] at h
  exact (h.2.resolve_left hz).1.1
theorem updB_ne {B : St → List St} {a t : St} {l : List St} (h : a ≠ t) : updB B a l t = B t := by unfold updB; rw [if_neg (fun e => h e.symm)]
theorem insS_le (l : List St) (t : St) : (insS l t).length ≤ l.length + 1 := by
  unfold insS
  rw [List.length_append, List.length_cons]
  have : ∀ l : List St, (l.filter fun x => ltS x t).length + (l.filter fun x => ltS t x).length ≤ l.length := by
    intro l
    induction l with
    | nil => simp
    | cons x l ih =>
      cases h1 : ltS x t with
      | true => simp [List.filter_cons, h1, ltS_asym h1]; omega
      | false => cases h2 : ltS t x <;> simp [List.filter_cons, h1, h2] <;> omega
  have := this l
  omega
theorem beh_done {L : List Sl} {s : Sl} (ho : okS s = true) : (if s.af = z0 then behZ L else updB (behZ L) s.af (insS (behZ L s.af) s.ts)) = behZ (L ++ [s]) := by
  funext a
  by_cases e : s.af = z0
  · rw [if_pos e]
    unfold behZ
    split
    · rfl
    · rename_i ha
      rw [beh_snoc, if_neg (fun e2 => ha (by rw [← e2, e]))]
  · rw [if_neg e]
    unfold updB behZ
    by_cases h1 : a = s.af
    · subst h1
      rw [if_pos rfl, if_neg e, if_neg e, beh_snoc, if_pos rfl]
    · rw [if_neg h1]
      split
      · rfl
      · rw [beh_snoc, if_neg (fun e2 => h1 e2.symm)]
theorem fr_done {L : List Sl} (h : GoodL L) {s : Sl} (ho : okS s = true) (hn : hasL L s.ts = false) : delAll (if hasL L s.af = true then frL L else insS (frL L) s.ts) (behZ L s.ts).reverse = frL (L ++ [s]) := by
  have hz : s.ts ≠ z0 := fun e => by have := okS_pos ho; rw [e, ltS_irr] at this; cases this
  rw [fr_snoc h ho hn, show behZ L s.ts = behL L s.ts from by unfold behZ; rw [if_neg hz]]
theorem AdS.done {F0 F : Nat → Prop} {w W : World} {bx rb : Nat} {s : Sl} {L : List Sl} {B : St → List St} {Fr : List St} {ma mb : Nat} {fv : Value} {E : List (St × Value)} (h : AdS F0 w bx rb s F W L B Fr ma mb fv E) (hg : GoodL L) (ho : okS s = true) (hn : hasL L s.ts = false) (hl : L.length < 4096)
    (hB : B = if s.af = z0 then behZ L else updB (behZ L) s.af (insS (behZ L s.af) s.ts)) (hF : Fr = if hasL L s.af = true then frL L else insS (frL L) s.ts)
    {W' : World} {Dd ma' mb' : Nat} {fk : Value} {E' : List (St × Value)} (h1 : RowIs F W' rb (L ++ [s]) B (delAll Fr (behZ L s.ts).reverse) ma' mb' fk E') (h2 : Touch F0 w W') (h3 : W.heap.size ≤ Dd) (he : addC L s = 0) (hL : addL L s = L ++ [s]) : AddP F0 w rb L s (.returned (.int .i64 0)) (W'.putObj Dd (.deferred none)) := by
  have ht : Touch (fun k => W.heap.size ≤ k) W' (W'.putObj Dd (.deferred none)) := Touch.of_grown (grownBy_putObj' W' Dd _) fun j e _ => by cases e; exact h3
  have hsz := h.sz
  have hbl := h.bxs.r2.lt
  refine ⟨by rw [he], F, ?_, h.inc, fun k hk => (h.out k hk).imp id fun e => by omega, h2.trans ht fun j hj => .inr (by omega)⟩
  rw [hL]
  rw [hB, hF, beh_done ho, fr_done hg ho hn] at h1
  exact ⟨ma', mb', fk, E', h1.touch ht (fun k hk e => by have := h.row.lt k hk; omega), by simp; omega⟩
/-- As the library's, of a body that does not panic. -/
def bodyPostN (F : Fence) (n : Nat) (P : Program) (fn : Func) (R : Ending → World → Prop) : Exit → Act → World → Prop
  | .normal, a, w | .ret, a, w => LeavesInM F n P fn a.tmps R a.defers .returning w
  | _, _, _ => False
theorem callsIn_of_wp_marksN {F : Fence} {n : Nat} {P : Program} {f : FuncId} {fn : Func} {c : Code} {args : Array Value} {w : World} {R : Ending → World → Prop}
    (hf : P.funcs[f]? = some fn) (hb : fn.body = some c) (hF : F.fn f)
    (h : c.wpIn F n P (bodyPostN F n P fn R) { tmps := args ++ Array.replicate (fn.ntmps - args.size) undef, defers := [] } w) (hro : F.round = none := by rfl) : CallsIn F n P f args w R := by
  refine callsIn_of_wp_marks hf hb hF (wpIn_mono h ?_) hro
  intro e a w h
  cases e with
  | normal => exact h
  | ret => exact h
  | exit id => exact h.elim
  | goto t => exact h.elim
  | panic ch => exact h.elim
  | outgrown => exact h.elim
theorem leave_plain {n : Nat} {P : Program} {fn : Func} {R : Ending → World → Prop} {a : Act} {w : World} {v : Value} (hd : a.defers = []) (hr : (results fn a.tmps).run P w = .ok v w) (h : R (.returned v) w) : bodyPostN Fence.wide n P fn R .ret a w := by
  show LeavesInM _ _ _ _ _ _ a.defers _ _
  rw [hd]
  exact ⟨v, hr, h⟩

set_option maxRecDepth 100000 in
set_option maxHeartbeats 16000000 in
theorem add_in_form (n0 : Nat) (hn : 5 ≤ n0) (F : Nat → Prop) (rb : Nat) (L : List Sl) (s : Sl) (w : World) (h : RowOk F w rb L) (hlen : L.length < 4096) (hO : okS s = false) :
    CallsIn Fence.wide n0 Try.prog 8 #[.pointer (some ⟨rb, 0, none⟩), .agg #[.int .i64 s.ts.1, .int .i64 s.ts.2], .agg #[.int .i64 s.af.1, .int .i64 s.af.2]] w fun e w' => AddP F w rb L s e w' := by
  have hro : Fence.wide.round = none := rfl
  have h1n : 1 ≤ n0 := by omega
  obtain ⟨ma, mb, fv, E, h, hl0⟩ := h
  have HLn : Hid (L.length ≤ 4096) := hl0
  obtain ⟨W0, eW⟩ : ∃ X, X = ((w.alloc (.cells [.pointer (some ⟨rb, 0, none⟩)].toArray 23)).alloc (.cells (stCells s.ts).toArray 33)).alloc (.cells (stCells s.af).toArray 33) := ⟨_, rfl⟩
  obtain ⟨bx, ebx⟩ : ∃ b, b = w.heap.size := ⟨_, rfl⟩
  have HA : Hid (AdS F w bx rb s F W0 L (behZ L) (frL L) ma mb fv E) := by (rw [eW, ebx]; exact AdS.start h)
  have HGd : Hid (GoodL L) := h.good
  have HLt : Hid (L.length < 4096) := hlen
  have HBl : Hid ((behZ L s.af).length ≤ 4096) := by (show _ ≤ _; have := behZ_length L s.af; omega)
  have HBl2 : Hid ((behZ L s.ts).length ≤ 8192) := by (show _ ≤ _; have := behZ_length L s.ts; omega)
  have HBs : Hid (SrtS (behZ L s.af)) := behZ_srt L s.af
  have HFl : Hid ((frL L).length ≤ 4096) := by (show _ ≤ _; have := frL_length L; omega)
  clear h hlen hl0
  have p0 := HA.out.bxs.p0
  have a0 := HA.out.bxs.a0
  have a1 := HA.out.bxs.a1
  have f0 := HA.out.bxs.f0
  have f1 := HA.out.bxs.f1
  rw [eW] at p0 a0 a1 f0 f1
  have HLe : Hid (addL L s = L) := by (show _ = _; unfold addL; simp [hO])
  have HE : Hid (addC L s = 2) := by (show _ = _; unfold addC; simp [hO])
  refine callsIn_of_wp_marksN Try.func8 rfl trivial ?_ hro
  simp only [Try.ntmps8, List.size_toArray, List.length_cons, List.length_nil, Nat.reduceAdd, Nat.reduceSub, Array.replicate_succ, Array.replicate_zero, List.push_toArray, List.append_toArray, List.nil_append, List.cons_append]
  rw [ebx] at p0 a0 a1 f0 f1
  gi_wp2_with fail
  rw [← ebx] at p0 a0 a1 f0 f1 ⊢
  have eW2 := eW
  simp only [stCells] at eW2
  rw [← eW2]
  clear eW2 eW ebx
  refine ⟨trivial, ?_⟩
  refine (callsIn_wide.2 (okRow_any s _)).mono ?_
  rintro e W1 ⟨rfl, hb⟩
  replace HA : Hid (AdS F w bx rb s F W1 L (behZ L) (frL L) ma mb fv E) := HA.out.below hb
  clear hb p0 a0 a1 f0 f1
  have p0 := HA.out.bxs.p0
  have a0 := HA.out.bxs.a0
  have a1 := HA.out.bxs.a1
  have f0 := HA.out.bxs.f0
  have f1 := HA.out.bxs.f1
  rw [hO]
  gi_wp2
  exact leave_plain rfl (results_tmp rfl _ _ _) ⟨by (rw [HE.out]; rfl), F, by (rw [HLe.out]; exact ⟨ma, mb, fv, E, HA.out.row, HLn.out⟩), fun _ h => h, fun _ h => .inl h, HA.out.to⟩

set_option maxRecDepth 100000 in
set_option maxHeartbeats 16000000 in
theorem add_in_twice (n0 : Nat) (hn : 5 ≤ n0) (F : Nat → Prop) (rb : Nat) (L : List Sl) (s : Sl) (w : World) (h : RowOk F w rb L) (hlen : L.length < 4096) (hO : okS s = true) (hH : hasL L s.ts = true) :
    CallsIn Fence.wide n0 Try.prog 8 #[.pointer (some ⟨rb, 0, none⟩), .agg #[.int .i64 s.ts.1, .int .i64 s.ts.2], .agg #[.int .i64 s.af.1, .int .i64 s.af.2]] w fun e w' => AddP F w rb L s e w' := by
  have hro : Fence.wide.round = none := rfl
  have h1n : 1 ≤ n0 := by omega
  obtain ⟨ma, mb, fv, E, h, hl0⟩ := h
  have HLn : Hid (L.length ≤ 4096) := hl0
  obtain ⟨W0, eW⟩ : ∃ X, X = ((w.alloc (.cells [.pointer (some ⟨rb, 0, none⟩)].toArray 23)).alloc (.cells (stCells s.ts).toArray 33)).alloc (.cells (stCells s.af).toArray 33) := ⟨_, rfl⟩
  obtain ⟨bx, ebx⟩ : ∃ b, b = w.heap.size := ⟨_, rfl⟩
  have HA : Hid (AdS F w bx rb s F W0 L (behZ L) (frL L) ma mb fv E) := by (rw [eW, ebx]; exact AdS.start h)
  have HGd : Hid (GoodL L) := h.good
  have HLt : Hid (L.length < 4096) := hlen
  have HBl : Hid ((behZ L s.af).length ≤ 4096) := by (show _ ≤ _; have := behZ_length L s.af; omega)
  have HBl2 : Hid ((behZ L s.ts).length ≤ 8192) := by (show _ ≤ _; have := behZ_length L s.ts; omega)
  have HBs : Hid (SrtS (behZ L s.af)) := behZ_srt L s.af
  have HFl : Hid ((frL L).length ≤ 4096) := by (show _ ≤ _; have := frL_length L; omega)
  clear h hlen hl0
  have p0 := HA.out.bxs.p0
  have a0 := HA.out.bxs.a0
  have a1 := HA.out.bxs.a1
  have f0 := HA.out.bxs.f0
  have f1 := HA.out.bxs.f1
  rw [eW] at p0 a0 a1 f0 f1
  have HLe : Hid (addL L s = L) := by (show _ = _; unfold addL; simp [hH])
  have HE : Hid (addC L s = 5) := by (show _ = _; unfold addC; simp [hO, hH])
  refine callsIn_of_wp_marksN Try.func8 rfl trivial ?_ hro
  simp only [Try.ntmps8, List.size_toArray, List.length_cons, List.length_nil, Nat.reduceAdd, Nat.reduceSub, Array.replicate_succ, Array.replicate_zero, List.push_toArray, List.append_toArray, List.nil_append, List.cons_append]
  rw [ebx] at p0 a0 a1 f0 f1
  gi_wp2_with fail
  rw [← ebx] at p0 a0 a1 f0 f1 ⊢
  have eW2 := eW
  simp only [stCells] at eW2
  rw [← eW2]
  clear eW2 eW ebx
  refine ⟨trivial, ?_⟩
  refine (callsIn_wide.2 (okRow_any s _)).mono ?_
  rintro e W1 ⟨rfl, hb⟩
  replace HA : Hid (AdS F w bx rb s F W1 L (behZ L) (frL L) ma mb fv E) := HA.out.below hb
  clear hb p0 a0 a1 f0 f1
  have p0 := HA.out.bxs.p0
  have a0 := HA.out.bxs.a0
  have a1 := HA.out.bxs.a1
  have f0 := HA.out.bxs.f0
  have f1 := HA.out.bxs.f1
  rw [hO]
  gi_wp2_with fail
  refine ⟨trivial, ?_⟩
  refine (callsIn_wide.2 (hasIs_any F rb L (behZ L) (frL L) ma mb fv E s.ts _ HA.out.row)).mono ?_
  rintro e W2 ⟨rfl, hb⟩
  replace HA : Hid (AdS F w bx rb s F W2 L (behZ L) (frL L) ma mb fv E) := HA.out.below hb
  clear hb p0 a0 a1 f0 f1
  have p0 := HA.out.bxs.p0
  have a0 := HA.out.bxs.a0
  have a1 := HA.out.bxs.a1
  have f0 := HA.out.bxs.f0
  have f1 := HA.out.bxs.f1
  rw [hH]
  gi_wp2
  exact leave_plain rfl (results_tmp rfl _ _ _) ⟨by (rw [HE.out]; rfl), F, by (rw [HLe.out]; exact ⟨ma, mb, fv, E, HA.out.row, HLn.out⟩), fun _ h => h, fun _ h => .inl h, HA.out.to⟩

end Go.Proofs.Ytfgkdbidgbpobaa
