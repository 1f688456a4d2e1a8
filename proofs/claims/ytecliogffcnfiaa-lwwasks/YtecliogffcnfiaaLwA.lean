/- Registers in memory: a map of what each has, a map of the names of each node; what a store makes of it. -/
import Derived.Test.YtecliogffcnfiaaFlT
namespace Go.Proofs.Ytecliogffcnfiaa
open Go.RowKit
set_option linter.unusedVariables false
set_option linter.unusedSimpArgs false

section
variable {α κ : Type} {f : α → κ}
theorem set_memF {E : List α} (hn : (E.map f).Nodup) {j : Nat} {x y : α} (hj : E[j]? = some x) (e : f x = f y) : (∀ z, z ∈ E.set j y ↔ z = y ∨ (z ∈ E ∧ f z ≠ f y)) ∧ ((E.set j y).map f).Nodup := by
  have hjl := (List.getElem?_eq_some_iff.1 hj).1
  have hx : E[j] = x := (List.getElem?_eq_some_iff.1 hj).2
  have e1 : E = E.take j ++ x :: E.drop (j + 1) := by rw [← hx, ← List.drop_eq_getElem_cons hjl, List.take_append_drop]
  have e2 : E.set j y = E.take j ++ y :: E.drop (j + 1) := List.set_eq_take_append_cons_drop.trans (by rw [if_pos hjl])
  have hn2 := hn
  rw [e1, List.map_append, List.map_cons, List.nodup_append] at hn2
  obtain ⟨n1, n2, n3⟩ := hn2
  have n4 := List.nodup_cons.1 n2
  have f1 : ∀ z ∈ E.take j, f z ≠ f y := fun z hz => by rw [← e]; exact n3 (f z) (List.mem_map_of_mem hz) (f x) (by simp)
  have f2 : ∀ z ∈ E.drop (j + 1), f z ≠ f y := fun z hz e3 => n4.1 (by rw [e, ← e3]; exact List.mem_map_of_mem hz)
  refine ⟨fun z => ?_, ?_⟩
  · rw [e2, List.mem_append, List.mem_cons]
    conv => rhs; rw [e1]
    rw [List.mem_append, List.mem_cons]
    constructor
    · rintro (h | h | h)
      · exact .inr ⟨.inl h, f1 z h⟩
      · exact .inl h
      · exact .inr ⟨.inr (.inr h), f2 z h⟩
    · rintro (h | ⟨h | h | h, h2⟩)
      · exact .inr (.inl h)
      · exact .inl h
      · exact absurd (by rw [h, e]) h2
      · exact .inr (.inr h)
  · rw [e2, List.map_append, List.map_cons, List.nodup_append, List.nodup_cons]
    refine ⟨n1, ⟨by rw [← e]; exact n4.1, n4.2⟩, fun a ha b hb => ?_⟩
    rcases List.mem_cons.1 hb with rfl | hb
    · rw [← e]; exact n3 a ha (f x) (by simp)
    · exact n3 a ha b (List.mem_cons_of_mem _ hb)
theorem nodup_of_map {E : List α} (h : (E.map f).Nodup) : E.Nodup := by
  unfold List.Nodup at *
  rw [List.pairwise_map] at h
  exact h.imp fun h e => h (congrArg f e)
end
theorem SrtR.keys {R : List Rg} (h : SrtR R) : (R.map keyR).Nodup := by
  unfold List.Nodup
  rw [List.pairwise_map]
  exact List.Pairwise.imp (fun h => ltK_ne h) h
theorem SrtR.nodup {R : List Rg} (h : SrtR R) : R.Nodup := nodup_of_map h.keys
theorem perm_keys {D R : List Rg} (h : D.Perm R) (hs : SrtR R) : (D.map keyR).Nodup := (h.map keyR).nodup_iff.2 hs.keys
theorem getD_eq {D R : List Rg} (h : D.Perm R) (hs : SrtR R) (k : Ky) : K.getP keyR D k = getR R k := by
  unfold K.getP getR
  cases h1 : D.find? (fun s => decide (keyR s = k)) with
  | none =>
    symm
    exact List.find?_eq_none.2 fun s hs => List.find?_eq_none.1 h1 s (h.mem_iff.2 hs)
  | some s =>
    have hm : s ∈ D := List.mem_of_find?_eq_some h1
    have e1 : keyR s = k := by simpa using List.find?_some h1
    have := getR_mem hs (h.mem_iff.1 hm)
    rw [e1] at this
    exact this.symm
/-- One is put in, where none was. -/
theorem ins_new {D R : List Rg} (h : D.Perm R) (hs : SrtR R) {r : Rg} (hn : getR R (keyR r) = none) : (D ++ [r]).Perm (insR R r) := by
  have hno := getR_none hn
  have hnD : (D ++ [r]).Nodup := by
    rw [List.nodup_append]
    refine ⟨h.nodup_iff.2 hs.nodup, by simp, fun a ha b hb e => ?_⟩
    have : b = r := by simpa using hb
    rw [e, this] at ha
    exact hno r (h.mem_iff.1 ha) rfl
  refine (List.perm_ext_iff_of_nodup hnD (insR_srt hs r).nodup).2 fun z => ?_
  rw [List.mem_append, List.mem_singleton]
  constructor
  · rintro (hz | rfl)
    · exact insR_other (h.mem_iff.1 hz) (hno z (h.mem_iff.1 hz))
    · exact insR_new hno
  · intro hz
    rcases insR_mem hz with e | e
    · exact .inl (h.mem_iff.2 e)
    · exact .inr e
/-- One is put over another one. -/
theorem ins_over {D R : List Rg} (h : D.Perm R) (hs : SrtR R) {r x : Rg} {j : Nat} (hj : D[j]? = some x) (hk : keyR x = keyR r) (hw : winB r x = true) : (D.set j r).Perm (insR R r) := by
  have hx : x ∈ D := List.mem_of_getElem? hj
  obtain ⟨s1, s2⟩ := set_memF (perm_keys h hs) (y := r) hj hk
  have hr : r ∈ insR R r := by have := insR_there hs (h.mem_iff.1 hx) hk; rwa [if_pos hw] at this
  refine (List.perm_ext_iff_of_nodup (nodup_of_map s2) (insR_srt hs r).nodup).2 fun z => ?_
  rw [s1]
  constructor
  · rintro (rfl | ⟨hz, hne⟩)
    · exact hr
    · exact insR_other (h.mem_iff.1 hz) hne
  · intro hz
    rcases insR_mem hz with e | e
    · by_cases e2 : keyR z = keyR r
      · exact .inl ((insR_srt hs r).uniq hz hr e2)
      · exact .inr ⟨h.mem_iff.2 e, e2⟩
    · exact .inl e
theorem ins_stays {R : List Rg} (hs : SrtR R) {r x : Rg} (hx : x ∈ R) (hk : keyR x = keyR r) (hw : winB r x = false) : insR R r = R := by
  have hr : x ∈ insR R r := by have := insR_there hs hx hk; rwa [if_neg (by rw [hw]; decide)] at this
  refine (insR_srt hs r).ext hs fun z => ⟨fun hz => ?_, fun hz => ?_⟩
  · by_cases e2 : keyR z = keyR r
    · rw [(insR_srt hs r).uniq hz hr (e2.trans hk.symm)]; exact hx
    · exact (insR_mem hz).resolve_right fun e => e2 (by rw [e])
  · by_cases e2 : keyR z = keyR r
    · rw [hs.uniq hz hx (e2.trans hk.symm)]; exact hr
    · exact insR_other hz e2
theorem ins_names {R : List Rg} (hs : SrtR R) (r : Rg) (a : St) (n : ByteArray) : (∃ q ∈ insR R r, q.nd = a ∧ q.nm = n) ↔ (∃ q ∈ R, q.nd = a ∧ q.nm = n) ∨ (a = r.nd ∧ n = r.nm) := by
  constructor
  · rintro ⟨q, hq, e1, e2⟩
    rcases insR_mem hq with h | h
    · exact .inl ⟨q, h, e1, e2⟩
    · subst h; exact .inr ⟨e1.symm, e2.symm⟩
  · have key : ∀ m ∈ R, ∃ q ∈ insR R r, keyR q = keyR m := fun m hm => by
      by_cases e : keyR m = keyR r
      · refine ⟨_, insR_there hs hm e, ?_⟩
        split
        · exact e.symm
        · rfl
      · exact ⟨m, insR_other hm e, rfl⟩
    rintro (⟨m, hm, e1, e2⟩ | ⟨rfl, rfl⟩)
    · obtain ⟨q, hq, e⟩ := key m hm
      exact ⟨q, hq, (congrArg Prod.fst e).trans e1, (congrArg Prod.snd e).trans e2⟩
    · by_cases hm : ∃ m ∈ R, keyR m = keyR r
      · obtain ⟨m, hm, e⟩ := hm
        obtain ⟨q, hq, e3⟩ := key m hm
        exact ⟨q, hq, congrArg Prod.fst (e3.trans e), congrArg Prod.snd (e3.trans e)⟩
      · exact ⟨r, insR_new fun m h e => hm ⟨m, h, e⟩, rfl, rfl⟩

def HMap (w : World) (b : Nat) (R : List Rg) : Prop := ∃ D : List Rg, K.MapIs keyR rgV w b D ∧ D.Perm R
theorem HMap.keep {w w' : World} {b : Nat} {R : List Rg} (h : HMap w b R) (hk : w'.heap[b]? = w.heap[b]?) : HMap w' b R := by obtain ⟨D, h1, h2⟩ := h; exact ⟨D, h1.keep hk, h2⟩
theorem HMap.lt {w : World} {b : Nat} {R : List Rg} (h : HMap w b R) : b < w.heap.size := by obtain ⟨D, h1, h2⟩ := h; exact h1.lt
theorem uHas : Try.prog.underlying 48 = some (.map 53 26) := Try.underlying48
theorem uNames : Try.prog.underlying 49 = some (.map 24 61) := Try.underlying49
theorem zeroRgV (w : World) : (zeroValue 26).run Try.prog w = .ok (rgV zeroR) w := by kernel_rfl
theorem zeroNmV (w : World) : (zeroValue 61).run Try.prog w = .ok (.slice none 0 0) w := by kernel_rfl
def hasR (R : List Rg) (k : Ky) : Bool := (getR R k).isSome
theorem HMap.look {w : World} {b : Nat} {R : List Rg} (h : HMap w b R) (hs : SrtR R) (k : Ky) : (Instr.lookup 48 (.map (some b)) (K.kyV k) true).run Try.prog w = .ok (.tuple #[rgV (atR R k), .bool (hasR R k)]) w := by
  obtain ⟨D, h1, h2⟩ := h
  have := K.look_st _ _ _ uHas zeroRgV h1 k
  rw [getD_eq h2 hs] at this
  rw [this]
  unfold atR hasR
  cases getR R k <;> rfl
theorem HMap.look1 {w : World} {b : Nat} {R : List Rg} (h : HMap w b R) (hs : SrtR R) (k : Ky) : (Instr.lookup 48 (.map (some b)) (K.kyV k) false).run Try.prog w = .ok (rgV (atR R k)) w := by
  obtain ⟨D, h1, h2⟩ := h
  have := K.look1_st _ _ _ uHas zeroRgV h1 k
  rw [getD_eq h2 hs] at this
  rw [this]
  unfold atR
  cases getR R k <;> rfl
/-- What is put, where there is none yet, or it wins. -/
theorem HMap.store {w : World} {b : Nat} {R : List Rg} (h : HMap w b R) (hs : SrtR R) (r : Rg) (hw : hasR R (keyR r) = true → winB r (atR R (keyR r)) = true) : ∃ w', (Instr.mapUpdate 48 (.map (some b)) (K.kyV (keyR r)) (rgV r)).run Try.prog w = .ok () w' ∧ w.grownBy w' (some b) ∧ w'.heap.size = w.heap.size ∧ HMap w' b (insR R r) := by
  obtain ⟨D, h1, h2⟩ := h
  obtain ⟨w', r1, r2, r3, r4⟩ := K.store_st (ky := keyR) (vl := rgV) _ _ uHas h1 r
  refine ⟨w', r1, r2, r3, ?_⟩
  rcases r4 with ⟨a, b⟩ | ⟨x, j, a, b, c⟩
  · rw [getD_eq h2 hs] at a
    exact ⟨_, b, ins_new h2 hs a⟩
  · rw [getD_eq h2 hs] at a
    have hw2 := hw (by unfold hasR; rw [a]; rfl)
    have e : atR R (keyR r) = x := by unfold atR; rw [a]; rfl
    rw [e] at hw2
    exact ⟨_, c, ins_over h2 hs b (getR_some a).2 hw2⟩

/-- A node's names, by a map's entries. -/
def vN (E : List (St × Value)) (a : St) : Value := match getP Prod.fst E a with | some x => x.2 | none => .slice none 0 0
/-- Registers in memory; B: the names of each node, as they came. -/
structure RegIs (F : Nat → Prop) (w : World) (rb : Nat) (R : List Rg) (B : St → List ByteArray) (mh mn : Nat) (E : List (St × Value)) : Prop where
  row : w.heap[rb]? = some (.cells #[.map (some mh), .map (some mn)] 51)
  hm : HMap w mh R
  srt : SrtR R
  nm : MapIs Prod.fst Prod.snd w mn E
  nod : (E.map Prod.fst).Nodup
  own : ∀ x ∈ E, OwnNm 0 w x.2 (B x.1)
  no : ∀ a, (∀ x ∈ E, x.1 ≠ a) → B a = []
  nem : ∀ x ∈ E, B x.1 ≠ []
  bn : ∀ a, (B a).Nodup
  ne : mh ≠ mn
  fr : F rb
  fa : F mh
  fb : F mn
  fe : ∀ x ∈ E, ∀ k, x.2.ownBlock = Option.some k → F k
  dis : ∀ x ∈ E, ∀ y ∈ E, x.1 ≠ y.1 → ∀ k, x.2.ownBlock = Option.some k → y.2.ownBlock ≠ Option.some k
  lt : ∀ k, F k → k < w.heap.size
/-- The names are those of the registers. -/
def NmsOk (R : List Rg) (B : St → List ByteArray) : Prop := ∀ a n, n ∈ B a ↔ ∃ r ∈ R, r.nd = a ∧ r.nm = n
section
variable {F : Nat → Prop} {w w' : World} {rb : Nat} {R : List Rg} {B : St → List ByteArray} {mh mn : Nat} {E : List (St × Value)}
theorem RegIs.keep (h : RegIs F w rb R B mh mn E) (hk : KeepsS F w w') : RegIs F w' rb R B mh mn E where
  row := (hk.2 _ h.fr).trans h.row
  hm := h.hm.keep (hk.2 _ h.fa)
  srt := h.srt
  nm := h.nm.keep (hk.2 _ h.fb)
  nod := h.nod
  own := fun x hx => (h.own x hx).keep fun k e => hk.2 k (h.fe x hx k e)
  no := h.no
  nem := h.nem
  bn := h.bn
  ne := h.ne
  fr := h.fr
  fa := h.fa
  fb := h.fb
  fe := h.fe
  dis := h.dis
  lt := fun k hF => Nat.lt_of_lt_of_le (h.lt k hF) hk.1
theorem RegIs.below (h : RegIs F w rb R B mh mn E) (hb : Below w.heap.size w w') : RegIs F w' rb R B mh mn E := h.keep (KeepsS.of_below hb h.lt)
theorem RegIs.touch (h : RegIs F w rb R B mh mn E) {G : Nat → Prop} (ht : Touch G w w') (hG : ∀ k, F k → ¬ G k) : RegIs F w' rb R B mh mn E := h.keep (ht.keeps fun k hk => ⟨h.lt k hk, hG k hk⟩)
theorem RegIs.c0 (h : RegIs F w rb R B mh mn E) : w.cell? ⟨rb, 0, none⟩ = Option.some (.map (Option.some mh)) := by rw [cell_of_row w rb 0 _ _ _ h.row]; rfl
theorem RegIs.c1 (h : RegIs F w rb R B mh mn E) : w.cell? ⟨rb, 1, none⟩ = Option.some (.map (Option.some mn)) := by rw [cell_of_row w rb 1 _ _ _ h.row]; rfl
theorem nm_ne {w : World} {v : Value} {D : List ByteArray} (h : OwnNm 0 w v D) {k : Nat} (e : v.ownBlock = Option.some k) : (∀ cs, w.heap[k]? ≠ Option.some (.cells cs 51)) ∧ ∀ es c, w.heap[k]? ≠ Option.some (.map es c) := by
  obtain ⟨cur, hc⟩ := ownsRow_type h k e
  refine ⟨fun cs e2 => ?_, fun es c e2 => ?_⟩
  · rw [hc] at e2; simp at e2
  · rw [hc] at e2; simp at e2
theorem RegIs.apart (h : RegIs F w rb R B mh mn E) {v : Value} {D : List ByteArray} (hv : OwnNm 0 w v D) {k : Nat} (e : v.ownBlock = Option.some k) : k ≠ rb ∧ k ≠ mh ∧ k ≠ mn := by
  obtain ⟨n1, n2⟩ := nm_ne hv e
  refine ⟨fun e2 => ?_, fun e2 => ?_, fun e2 => ?_⟩
  · exact n1 _ (e2 ▸ h.row)
  · obtain ⟨D, ⟨es, c, h1, _⟩, _⟩ := h.hm; exact n2 es c (e2 ▸ h1)
  · obtain ⟨es, c, h1, _⟩ := h.nm; exact n2 es c (e2 ▸ h1)
theorem RegIs.rmm (h : RegIs F w rb R B mh mn E) : rb ≠ mh ∧ rb ≠ mn := by
  refine ⟨fun e => ?_, fun e => ?_⟩
  · obtain ⟨D, ⟨es, c, h1, _⟩, _⟩ := h.hm; have := h.row; rw [e, h1] at this; simp at this
  · obtain ⟨es, c, h1, _⟩ := h.nm; have := h.row; rw [e, h1] at this; simp at this
theorem getE_some {E : List (St × Value)} {a : St} {x : St × Value} (h : getP Prod.fst E a = Option.some x) : x ∈ E ∧ x.1 = a := ⟨List.mem_of_find?_eq_some h, by simpa using List.find?_some h⟩
theorem getE_none {E : List (St × Value)} {a : St} (h : getP Prod.fst E a = none) : ∀ x ∈ E, x.1 ≠ a := fun x hx => by simpa using List.find?_eq_none.1 h x hx
theorem RegIs.lookN (h : RegIs F w rb R B mh mn E) (a : St) : (Instr.lookup 49 (.map (Option.some mn)) (stV a) false).run Try.prog w = .ok (vN E a) w := by
  rw [look1_st _ _ _ uNames zeroNmV h.nm a]
  unfold vN
  cases getP Prod.fst E a <;> rfl
theorem RegIs.ownN (h : RegIs F w rb R B mh mn E) (a : St) : OwnNm 0 w (vN E a) (B a) := by
  unfold vN
  cases hg : getP Prod.fst E a with
  | none => rw [h.no a (getE_none hg)]; exact OwnE.nil0 _ _
  | some x => obtain ⟨h1, h2⟩ := getE_some hg; rw [← h2]; exact h.own x h1
theorem RegIs.inN (h : RegIs F w rb R B mh mn E) {a : St} {k : Nat} (e : (vN E a).ownBlock = Option.some k) : F k ∧ ∀ x ∈ E, x.1 ≠ a → x.2.ownBlock ≠ Option.some k := by
  unfold vN at e
  cases hg : getP Prod.fst E a with
  | none => rw [hg] at e; cases e
  | some x =>
    rw [hg] at e
    obtain ⟨h1, h2⟩ := getE_some hg
    exact ⟨h.fe x h1 k e, fun y hy hne => h.dis x h1 y hy (fun e2 => hne (by rw [← e2, h2])) k e⟩
def updN (B : St → List ByteArray) (a : St) (l : List ByteArray) : St → List ByteArray := fun s => if s = a then l else B s
/-- A node's names are others now. -/
theorem RegIs.storeN (h : RegIs F w rb R B mh mn E) {a : St} {w1 : World} {v' : Value} {l' : List ByteArray} (hg : w.grownBy w1 (vN E a).ownBlock) (ho : OwnNm 0 w1 v' l') (hl : l' ≠ []) (hn : l'.Nodup) (hv : v'.ownBlock = (vN E a).ownBlock ∨ ∃ k, v'.ownBlock = Option.some k ∧ w.heap.size ≤ k) :
    ∃ w2 E', (Instr.mapUpdate 49 (.map (Option.some mn)) (stV a) v').run Try.prog w1 = .ok () w2 ∧ RegIs (fun k => F k ∨ v'.ownBlock = Option.some k) w2 rb R (updN B a l') mh mn E' ∧ Touch F w w2 ∧ w2.heap.size = w1.heap.size := by
  have hap := fun {k : Nat} (e : (vN E a).ownBlock = Option.some k) => h.apart (h.ownN a) e
  have hblk : ∀ k, F k → (vN E a).ownBlock ≠ Option.some k → w1.heap[k]? = w.heap[k]? := fun k hk hne => hg.block k (h.lt k hk) (fun e => hne e.symm)
  have hmb1 : w1.heap[mn]? = w.heap[mn]? := hblk mn h.fb fun e => (hap e).2.2 rfl
  obtain ⟨w2, r1, r2, r3, r4⟩ := store_st (ky := Prod.fst) (vl := Prod.snd) _ _ uNames (h.nm.keep hmb1) (a, v')
  have hb2 : ∀ k, k < w1.heap.size → k ≠ mn → w2.heap[k]? = w1.heap[k]? := fun k hk hne => r2.block k hk (fun e => hne (by cases e; rfl))
  have hb3 : ∀ k, F k → k ≠ mn → (vN E a).ownBlock ≠ Option.some k → w2.heap[k]? = w.heap[k]? := fun k hk h1 h2 => (hb2 k (Nat.lt_of_lt_of_le (h.lt k hk) hg.size) h1).trans (hblk k hk h2)
  have hvmb : v'.ownBlock ≠ Option.some mn := fun e => by
    rcases hv with hv | ⟨k, hv, hk⟩
    · exact (hap (hv ▸ e)).2.2 rfl
    · rw [e] at hv; cases hv; have := h.lt _ h.fb; omega
  have ho2 : OwnNm 0 w2 v' l' := ho.keep fun k e => hb2 k (ho.lt k e).2 (fun e2 => hvmb (e2 ▸ e))
  have hEo : ∀ x ∈ E, x.1 ≠ a → OwnNm 0 w2 x.2 (B x.1) := fun x hx hne => (h.own x hx).keep fun k e => hb3 k (h.fe x hx k e) (h.apart (h.own x hx) e).2.2 (fun e2 => (h.inN e2).2 x hx hne e)
  have hvx : ∀ x ∈ E, x.1 ≠ a → ∀ k, v'.ownBlock = Option.some k → x.2.ownBlock ≠ Option.some k := fun x hx hne k e e2 => by
    rcases hv with hv | ⟨k', hv, hk⟩
    · exact (h.inN (hv ▸ e)).2 x hx hne e2
    · rw [e] at hv; cases hv; have := h.lt _ (h.fe x hx _ e2); omega
  have hE : ∃ E', MapIs Prod.fst Prod.snd w2 mn E' ∧ (∀ z, z ∈ E' ↔ z = (a, v') ∨ (z ∈ E ∧ z.1 ≠ a)) ∧ (E'.map Prod.fst).Nodup := by
    rcases r4 with ⟨q1, q2⟩ | ⟨x, j, q1, q2, q3⟩
    · have hno := getE_none q1
      refine ⟨_, q2, fun z => ?_, ?_⟩
      · rw [List.mem_append, List.mem_singleton]
        exact ⟨fun hz => hz.elim (fun hz => .inr ⟨hz, hno z hz⟩) .inl, fun hz => hz.elim .inr (fun hz => .inl hz.1)⟩
      · rw [List.map_append, List.nodup_append]
        refine ⟨h.nod, by simp, fun u hu v hv => ?_⟩
        obtain ⟨x, hx, rfl⟩ := List.mem_map.1 hu
        simp at hv
        rw [hv]
        exact hno x hx
    · obtain ⟨s1, s2⟩ := set_memF (f := Prod.fst) h.nod (y := (a, v')) q2 (getE_some q1).2
      exact ⟨_, q3, s1, s2⟩
  obtain ⟨E', m1, m2, m3⟩ := hE
  refine ⟨w2, E', r1, ?_, ?_, r3⟩
  · exact {
      row := (hb3 rb h.fr h.rmm.2 (fun e => (hap e).1 rfl)).trans h.row
      hm := h.hm.keep (hb3 mh h.fa h.ne (fun e => (hap e).2.1 rfl))
      srt := h.srt
      nm := m1
      nod := m3
      own := fun x hx => by
        rcases (m2 x).1 hx with rfl | ⟨hx, hne⟩
        · unfold updN; rw [if_pos rfl]; exact ho2
        · unfold updN; rw [if_neg hne]; exact hEo x hx hne
      no := fun s hs => by
        have hsa : s ≠ a := fun e => hs (a, v') ((m2 _).2 (.inl rfl)) e.symm
        unfold updN
        rw [if_neg hsa]
        exact h.no s fun x hx e => hs x ((m2 x).2 (.inr ⟨hx, by rw [e]; exact hsa⟩)) e
      nem := fun x hx => by
        rcases (m2 x).1 hx with rfl | ⟨hx, hne⟩
        · unfold updN; rw [if_pos rfl]; exact hl
        · unfold updN; rw [if_neg hne]; exact h.nem x hx
      bn := fun s => by
        unfold updN
        split
        · exact hn
        · exact h.bn s
      ne := h.ne
      fr := .inl h.fr
      fa := .inl h.fa
      fb := .inl h.fb
      fe := fun x hx k e => by
        rcases (m2 x).1 hx with rfl | ⟨hx, hne⟩
        · exact .inr e
        · exact .inl (h.fe x hx k e)
      dis := fun x hx y hy hne k e e2 => by
        rcases (m2 x).1 hx with rfl | ⟨hx, hx2⟩ <;> rcases (m2 y).1 hy with rfl | ⟨hy, hy2⟩
        · exact hne rfl
        · exact hvx y hy hy2 k e e2
        · exact hvx x hx hx2 k e2 e
        · exact h.dis x hx y hy hne k e e2
      lt := fun k hk => by
        rw [r3]
        rcases hk with hk | hk
        · exact Nat.lt_of_lt_of_le (h.lt k hk) hg.size
        · exact (ho.lt k hk).2 }
  · refine ⟨r2.os.trans hg.os, r2.tape.trans hg.tape, r2.output.trans hg.output, by rw [r3]; exact hg.size, fun k hk hF => ?_⟩
    exact (hb2 k (Nat.lt_of_lt_of_le hk hg.size) (fun e => hF (e ▸ h.fb))).trans (hg.block k hk (fun e => hF (h.inN e.symm).1))
/-- What the register has. -/
theorem RegIs.storeH (h : RegIs F w rb R B mh mn E) (r : Rg) (hw : hasR R (keyR r) = true → winB r (atR R (keyR r)) = true) :
    ∃ w2, (Instr.mapUpdate 48 (.map (Option.some mh)) (K.kyV (keyR r)) (rgV r)).run Try.prog w = .ok () w2 ∧ RegIs F w2 rb (insR R r) B mh mn E ∧ Touch F w w2 ∧ w2.heap.size = w.heap.size ∧ w.grownBy w2 (Option.some mh) := by
  obtain ⟨w2, r1, r2, r3, r4⟩ := h.hm.store h.srt r hw
  have hb2 : ∀ k, k < w.heap.size → k ≠ mh → w2.heap[k]? = w.heap[k]? := fun k hk hne => r2.block k hk (fun e => hne (by cases e; rfl))
  refine ⟨w2, r1, ?_, ⟨r2.os, r2.tape, r2.output, r2.size, fun k hk hF => hb2 k hk (fun e => hF (e ▸ h.fa))⟩, r3, r2⟩
  exact {
    row := (hb2 rb (h.lt _ h.fr) h.rmm.1).trans h.row
    hm := r4
    srt := insR_srt h.srt r
    nm := h.nm.keep (hb2 mn (h.lt _ h.fb) (fun e => h.ne e.symm))
    nod := h.nod
    own := fun x hx => (h.own x hx).keep fun k e => hb2 k (h.lt k (h.fe x hx k e)) (h.apart (h.own x hx) e).2.1
    no := h.no
    nem := h.nem
    bn := h.bn
    ne := h.ne
    fr := h.fr
    fa := h.fa
    fb := h.fb
    fe := h.fe
    dis := h.dis
    lt := fun k hk => by rw [r3]; exact h.lt k hk }
end
/-- Registers that have this, whatever lies where. -/
def RegOk (F : Nat → Prop) (w : World) (rb : Nat) (R : List Rg) : Prop := ∃ B mh mn E, RegIs F w rb R B mh mn E ∧ NmsOk R B ∧ R.length ≤ 4096
section
variable {F : Nat → Prop} {w w' : World} {rb : Nat} {R : List Rg}
theorem RegOk.keep (h : RegOk F w rb R) (hk : KeepsS F w w') : RegOk F w' rb R := by obtain ⟨a, b, c, d, h, e⟩ := h; exact ⟨a, b, c, d, h.keep hk, e⟩
theorem RegOk.below (h : RegOk F w rb R) (hb : Below w.heap.size w w') : RegOk F w' rb R := by obtain ⟨a, b, c, d, h, e⟩ := h; exact ⟨a, b, c, d, h.below hb, e⟩
theorem RegOk.touch (h : RegOk F w rb R) {G : Nat → Prop} (ht : Touch G w w') (hG : ∀ k, F k → ¬ G k) : RegOk F w' rb R := by obtain ⟨a, b, c, d, h, e⟩ := h; exact ⟨a, b, c, d, h.touch ht hG, e⟩
theorem RegOk.lt (h : RegOk F w rb R) : ∀ k, F k → k < w.heap.size := by obtain ⟨a, b, c, d, h, e⟩ := h; exact h.lt
theorem RegOk.fr (h : RegOk F w rb R) : F rb := by obtain ⟨a, b, c, d, h, e⟩ := h; exact h.fr
theorem RegOk.srt (h : RegOk F w rb R) : SrtR R := by obtain ⟨a, b, c, d, h, e⟩ := h; exact h.srt
theorem RegOk.small (h : RegOk F w rb R) : R.length ≤ 4096 := by obtain ⟨a, b, c, d, h, e⟩ := h; exact e.2
end
end Go.Proofs.Ytecliogffcnfiaa
