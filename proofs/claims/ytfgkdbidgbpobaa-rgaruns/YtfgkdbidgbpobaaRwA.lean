/- A row of slots in memory: a map of what each was put behind, a map of those that were put behind each, those that stand under the front; what a store makes of it. -/
import Derived.Test.YtfgkdbidgbpobaaRgD
namespace Go.Proofs.Ytfgkdbidgbpobaa
open Go.RowKit
set_option linter.unusedVariables false
set_option linter.unusedSimpArgs false

def afV (s : Sl) : Value := stV s.af
def AMap (w : World) (b : Nat) (A : List Sl) : Prop := ∃ D : List Sl, MapIs Sl.ts afV w b D ∧ D.Perm A
theorem AMap.keep {w w' : World} {b : Nat} {A : List Sl} (h : AMap w b A) (hk : w'.heap[b]? = w.heap[b]?) : AMap w' b A := by obtain ⟨D, h1, h2⟩ := h; exact ⟨D, h1.keep hk, h2⟩
theorem AMap.lt {w : World} {b : Nat} {A : List Sl} (h : AMap w b A) : b < w.heap.size := by obtain ⟨D, h1, h2⟩ := h; exact h1.lt
theorem uAfter : Try.prog.underlying 53 = some (.map 33 33) := Try.underlying53
theorem uBehind : Try.prog.underlying 55 = some (.map 33 38) := Try.underlying55
theorem zeroStV (w : World) : (zeroValue 33).run Try.prog w = .ok (stV z0) w := by kernel_rfl
theorem zeroSlV (w : World) : (zeroValue 38).run Try.prog w = .ok (.slice none 0 0) w := by kernel_rfl
theorem getA {D A : List Sl} (h : D.Perm A) (hg : GoodL A) (a : St) : getP Sl.ts D a = A.find? (fun s => decide (s.ts = a)) := by
  unfold getP
  cases h1 : D.find? (fun s => decide (s.ts = a)) with
  | none =>
    symm
    refine List.find?_eq_none.2 fun s hs => ?_
    exact List.find?_eq_none.1 h1 s (h.mem_iff.2 hs)
  | some s =>
    have hs : s ∈ D := List.mem_of_find?_eq_some h1
    have e1 : s.ts = a := by simpa using List.find?_some h1
    cases h2 : A.find? (fun s => decide (s.ts = a)) with
    | none => have := List.find?_eq_none.1 h2 s (h.mem_iff.1 hs); simp [e1] at this
    | some t =>
      have ht : t ∈ A := List.mem_of_find?_eq_some h2
      have e2 : t.ts = a := by simpa using List.find?_some h2
      rw [hg.uniq ht (h.mem_iff.1 hs) (e2.trans e1.symm)]
theorem find_has {A : List Sl} {a : St} : (A.find? (fun s => decide (s.ts = a))).isSome = hasL A a := by
  unfold hasL
  rw [Bool.eq_iff_iff, List.find?_isSome]
  simp
theorem AMap.look {w : World} {b : Nat} {A : List Sl} (h : AMap w b A) (hg : GoodL A) (a : St) : (Instr.lookup 53 (.map (some b)) (stV a) true).run Try.prog w = .ok (.tuple #[stV (afO A a), .bool (hasL A a)]) w := by
  obtain ⟨D, h1, h2⟩ := h
  have := look_st _ _ _ uAfter zeroStV h1 a
  rw [getA h2 hg] at this
  rw [this, ← find_has]
  unfold afO
  cases A.find? (fun s => decide (s.ts = a)) <;> rfl
theorem AMap.look1 {w : World} {b : Nat} {A : List Sl} (h : AMap w b A) (hg : GoodL A) (a : St) : (Instr.lookup 53 (.map (some b)) (stV a) false).run Try.prog w = .ok (stV (afO A a)) w := by
  obtain ⟨D, h1, h2⟩ := h
  have := look1_st _ _ _ uAfter zeroStV h1 a
  rw [getA h2 hg] at this
  rw [this]
  unfold afO
  cases A.find? (fun s => decide (s.ts = a)) <;> rfl
theorem AMap.store {w : World} {b : Nat} {A : List Sl} (h : AMap w b A) (hg : GoodL A) (s : Sl) (hn : hasL A s.ts = false) : ∃ w', (Instr.mapUpdate 53 (.map (some b)) (stV s.ts) (stV s.af)).run Try.prog w = .ok () w' ∧ w.grownBy w' (some b) ∧ w'.heap.size = w.heap.size ∧ AMap w' b (A ++ [s]) := by
  obtain ⟨D, h1, h2⟩ := h
  obtain ⟨w', r1, r2, r3, r4⟩ := store_st (ky := Sl.ts) (vl := afV) _ _ uAfter h1 s
  refine ⟨w', r1, r2, r3, ?_⟩
  rcases r4 with ⟨a, b⟩ | ⟨x, j, a, b, c⟩
  · exact ⟨_, b, h2.append_right _⟩
  · rw [getA h2 hg] at a
    have : hasL A s.ts = true := by rw [← find_has, a]; rfl
    rw [hn] at this
    cases this

/-- What was put behind one, by a map's entries. -/
def vB (E : List (St × Value)) (a : St) : Value := match getP Prod.fst E a with | some x => x.2 | none => .slice none 0 0
structure RowIs (F : Nat → Prop) (w : World) (rb : Nat) (A : List Sl) (B : St → List St) (Fr : List St) (ma mb : Nat) (fv : Value) (E : List (St × Value)) : Prop where
  row : w.heap[rb]? = some (.cells #[.map (some ma), .map (some mb), fv] 57)
  am : AMap w ma A
  good : GoodL A
  bm : MapIs Prod.fst Prod.snd w mb E
  nod : (E.map Prod.fst).Nodup
  beh : ∀ x ∈ E, OwnSt 0 w x.2 (B x.1)
  no : ∀ a, (∀ x ∈ E, x.1 ≠ a) → B a = []
  own : OwnSt 0 w fv Fr
  ne : ma ≠ mb
  fr : F rb
  fa : F ma
  fb : F mb
  ff : ∀ k, fv.ownBlock = some k → F k
  fe : ∀ x ∈ E, ∀ k, x.2.ownBlock = some k → F k
  dis : ∀ x ∈ E, ∀ y ∈ E, x.1 ≠ y.1 → ∀ k, x.2.ownBlock = some k → y.2.ownBlock ≠ some k
  dif : ∀ x ∈ E, ∀ k, x.2.ownBlock = some k → fv.ownBlock ≠ some k
  lt : ∀ k, F k → k < w.heap.size
section
variable {F : Nat → Prop} {w w' : World} {rb : Nat} {A : List Sl} {B : St → List St} {Fr : List St} {ma mb : Nat} {fv : Value} {E : List (St × Value)}
theorem RowIs.keep (h : RowIs F w rb A B Fr ma mb fv E) (hk : KeepsS F w w') : RowIs F w' rb A B Fr ma mb fv E where
  row := (hk.2 _ h.fr).trans h.row
  am := h.am.keep (hk.2 _ h.fa)
  good := h.good
  bm := h.bm.keep (hk.2 _ h.fb)
  nod := h.nod
  beh := fun x hx => (h.beh x hx).keep fun k e => hk.2 k (h.fe x hx k e)
  no := h.no
  own := h.own.keep fun k e => hk.2 k (h.ff k e)
  ne := h.ne
  fr := h.fr
  fa := h.fa
  fb := h.fb
  ff := h.ff
  fe := h.fe
  dis := h.dis
  dif := h.dif
  lt := fun k hF => Nat.lt_of_lt_of_le (h.lt k hF) hk.1
theorem RowIs.below (h : RowIs F w rb A B Fr ma mb fv E) (hb : Below w.heap.size w w') : RowIs F w' rb A B Fr ma mb fv E := h.keep (KeepsS.of_below hb h.lt)
theorem RowIs.touch (h : RowIs F w rb A B Fr ma mb fv E) {G : Nat → Prop} (ht : Touch G w w') (hG : ∀ k, F k → ¬ G k) : RowIs F w' rb A B Fr ma mb fv E := h.keep (ht.keeps fun k hk => ⟨h.lt k hk, hG k hk⟩)
theorem RowIs.c0 (h : RowIs F w rb A B Fr ma mb fv E) : w.cell? ⟨rb, 0, none⟩ = some (.map (some ma)) := by rw [cell_of_row w rb 0 _ _ _ h.row]; rfl
theorem RowIs.c1 (h : RowIs F w rb A B Fr ma mb fv E) : w.cell? ⟨rb, 1, none⟩ = some (.map (some mb)) := by rw [cell_of_row w rb 1 _ _ _ h.row]; rfl
theorem RowIs.c2 (h : RowIs F w rb A B Fr ma mb fv E) : w.cell? ⟨rb, 2, none⟩ = some fv := by rw [cell_of_row w rb 2 _ _ _ h.row]; rfl
theorem RowIs.z2 (h : RowIs F w rb A B Fr ma mb fv E) : w.frozen? ⟨rb, 2, none⟩ = false := frozen_of_row w rb 2 _ _ h.row
/-- A row's block is none of the others. -/
theorem st_ne {w : World} {v : Value} {D : List St} (h : OwnSt 0 w v D) {k : Nat} (e : v.ownBlock = some k) : (∀ cs, w.heap[k]? ≠ some (.cells cs 57)) ∧ ∀ es c, w.heap[k]? ≠ some (.map es c) := by
  obtain ⟨cur, hc⟩ := ownsRow_type h k e
  refine ⟨fun cs e2 => ?_, fun es c e2 => ?_⟩
  · rw [hc] at e2; simp at e2
  · rw [hc] at e2; simp at e2
theorem RowIs.apart (h : RowIs F w rb A B Fr ma mb fv E) {v : Value} {D : List St} (hv : OwnSt 0 w v D) {k : Nat} (e : v.ownBlock = some k) : k ≠ rb ∧ k ≠ ma ∧ k ≠ mb := by
  obtain ⟨n1, n2⟩ := st_ne hv e
  refine ⟨fun e2 => ?_, fun e2 => ?_, fun e2 => ?_⟩
  · exact n1 _ (e2 ▸ h.row)
  · obtain ⟨D, ⟨es, c, h1, _⟩, _⟩ := h.am; exact n2 es c (e2 ▸ h1)
  · obtain ⟨es, c, h1, _⟩ := h.bm; exact n2 es c (e2 ▸ h1)
theorem RowIs.rmm (h : RowIs F w rb A B Fr ma mb fv E) : rb ≠ ma ∧ rb ≠ mb := by
  refine ⟨fun e => ?_, fun e => ?_⟩
  · obtain ⟨D, ⟨es, c, h1, _⟩, _⟩ := h.am; have := h.row; rw [e, h1] at this; simp at this
  · obtain ⟨es, c, h1, _⟩ := h.bm; have := h.row; rw [e, h1] at this; simp at this
theorem getE_some {E : List (St × Value)} {a : St} {x : St × Value} (h : getP Prod.fst E a = some x) : x ∈ E ∧ x.1 = a := ⟨List.mem_of_find?_eq_some h, by simpa using List.find?_some h⟩
theorem getE_none {E : List (St × Value)} {a : St} (h : getP Prod.fst E a = none) : ∀ x ∈ E, x.1 ≠ a := fun x hx => by simpa using List.find?_eq_none.1 h x hx
theorem nil_own (k : Nat) : (Value.slice none 0 0).ownBlock ≠ some k := fun e => by cases e
/-- What a look-up of those behind one tells. -/
theorem RowIs.lookB (h : RowIs F w rb A B Fr ma mb fv E) (a : St) : (Instr.lookup 55 (.map (some mb)) (stV a) false).run Try.prog w = .ok (vB E a) w := by
  rw [look1_st _ _ _ uBehind zeroSlV h.bm a]
  unfold vB
  cases getP Prod.fst E a <;> rfl
theorem RowIs.ownB (h : RowIs F w rb A B Fr ma mb fv E) (a : St) : OwnSt 0 w (vB E a) (B a) := by
  unfold vB
  cases hg : getP Prod.fst E a with
  | none => rw [h.no a (getE_none hg)]; exact OwnE.nil0 _ _
  | some x => obtain ⟨h1, h2⟩ := getE_some hg; rw [← h2]; exact h.beh x h1
theorem RowIs.inB (h : RowIs F w rb A B Fr ma mb fv E) {a : St} {k : Nat} (e : (vB E a).ownBlock = some k) : F k ∧ fv.ownBlock ≠ some k ∧ ∀ x ∈ E, x.1 ≠ a → x.2.ownBlock ≠ some k := by
  unfold vB at e
  cases hg : getP Prod.fst E a with
  | none => rw [hg] at e; cases e
  | some x =>
    rw [hg] at e
    obtain ⟨h1, h2⟩ := getE_some hg
    exact ⟨h.fe x h1 k e, h.dif x h1 k e, fun y hy hne => h.dis x h1 y hy (fun e2 => hne (by rw [← e2, h2])) k e⟩
theorem set_mem {E : List (St × Value)} (hn : (E.map Prod.fst).Nodup) {j : Nat} {x y : St × Value} (hj : E[j]? = some x) (e : x.1 = y.1) : (∀ z, z ∈ E.set j y ↔ z = y ∨ (z ∈ E ∧ z.1 ≠ y.1)) ∧ ((E.set j y).map Prod.fst).Nodup := by
  have hjl := (List.getElem?_eq_some_iff.1 hj).1
  have hx : E[j] = x := (List.getElem?_eq_some_iff.1 hj).2
  have e1 : E = E.take j ++ x :: E.drop (j + 1) := by rw [← hx, ← List.drop_eq_getElem_cons hjl, List.take_append_drop]
  have e2 : E.set j y = E.take j ++ y :: E.drop (j + 1) := List.set_eq_take_append_cons_drop.trans (by rw [if_pos hjl])
  have hn2 := hn
  rw [e1, List.map_append, List.map_cons, List.nodup_append] at hn2
  obtain ⟨n1, n2, n3⟩ := hn2
  have n4 := List.nodup_cons.1 n2
  have f1 : ∀ z ∈ E.take j, z.1 ≠ y.1 := fun z hz => by rw [← e]; exact n3 z.1 (List.mem_map_of_mem hz) x.1 (by simp)
  have f2 : ∀ z ∈ E.drop (j + 1), z.1 ≠ y.1 := fun z hz e3 => n4.1 (by rw [e, ← e3]; exact List.mem_map_of_mem hz)
  refine ⟨fun z => ?_, ?_⟩
  · rw [e2, List.mem_append, List.mem_cons]
    conv => rhs; rw [e1]
    rw [List.mem_append, List.mem_cons]
    constructor
    · rintro (h | h | h)
      · exact .inr ⟨.inl h, f1 z h⟩
      · exact .inl h
      · exact .inr ⟨.inr (.inr h), f2 z h⟩
    · rintro (h | ⟨h | h | h, h2⟩)
      · exact .inr (.inl h)
      · exact .inl h
      · exact absurd (by rw [h, e]) h2
      · exact .inr (.inr h)
  · rw [e2, List.map_append, List.map_cons, List.nodup_append, List.nodup_cons]
    refine ⟨n1, ⟨by rw [← e]; exact n4.1, n4.2⟩, fun a ha b hb => ?_⟩
    rcases List.mem_cons.1 hb with rfl | hb
    · rw [← e]; exact n3 a ha x.1 (by simp)
    · exact n3 a ha b (List.mem_cons_of_mem _ hb)
def updB (B : St → List St) (a : St) (l : List St) : St → List St := fun s => if s = a then l else B s
/-- Those behind one are others now. -/
theorem RowIs.storeB (h : RowIs F w rb A B Fr ma mb fv E) {a : St} {w1 : World} {v' : Value} {l' : List St} (hg : w.grownBy w1 (vB E a).ownBlock) (ho : OwnSt 0 w1 v' l') (hv : v'.ownBlock = (vB E a).ownBlock ∨ ∃ k, v'.ownBlock = some k ∧ w.heap.size ≤ k) :
    ∃ w2 E', (Instr.mapUpdate 55 (.map (some mb)) (stV a) v').run Try.prog w1 = .ok () w2 ∧ RowIs (fun k => F k ∨ v'.ownBlock = some k) w2 rb A (updB B a l') Fr ma mb fv E' ∧ Touch F w w2 ∧ w2.heap.size = w1.heap.size := by
  have hap := fun {k : Nat} (e : (vB E a).ownBlock = some k) => h.apart (h.ownB a) e
  have hblk : ∀ k, F k → (vB E a).ownBlock ≠ some k → w1.heap[k]? = w.heap[k]? := fun k hk hne => hg.block k (h.lt k hk) (fun e => hne e.symm)
  have hmb1 : w1.heap[mb]? = w.heap[mb]? := hblk mb h.fb fun e => (hap e).2.2 rfl
  obtain ⟨w2, r1, r2, r3, r4⟩ := store_st (ky := Prod.fst) (vl := Prod.snd) _ _ uBehind (h.bm.keep hmb1) (a, v')
  have hb2 : ∀ k, k < w1.heap.size → k ≠ mb → w2.heap[k]? = w1.heap[k]? := fun k hk hne => r2.block k hk (fun e => hne (by cases e; rfl))
  have hb3 : ∀ k, F k → k ≠ mb → (vB E a).ownBlock ≠ some k → w2.heap[k]? = w.heap[k]? := fun k hk h1 h2 => (hb2 k (Nat.lt_of_lt_of_le (h.lt k hk) hg.size) h1).trans (hblk k hk h2)
  have hvmb : v'.ownBlock ≠ some mb := fun e => by
    rcases hv with hv | ⟨k, hv, hk⟩
    · exact (hap (hv ▸ e)).2.2 rfl
    · rw [e] at hv; cases hv; have := h.lt _ h.fb; omega
  have ho2 : OwnSt 0 w2 v' l' := ho.keep fun k e => hb2 k (ho.lt k e).2 (fun e2 => hvmb (e2 ▸ e))
  have hEo : ∀ x ∈ E, x.1 ≠ a → OwnSt 0 w2 x.2 (B x.1) := fun x hx hne => (h.beh x hx).keep fun k e => hb3 k (h.fe x hx k e) (h.apart (h.beh x hx) e).2.2 (fun e2 => (h.inB e2).2.2 x hx hne e)
  have hvx : ∀ x ∈ E, x.1 ≠ a → ∀ k, v'.ownBlock = some k → x.2.ownBlock ≠ some k := fun x hx hne k e e2 => by
    rcases hv with hv | ⟨k', hv, hk⟩
    · exact (h.inB (hv ▸ e)).2.2 x hx hne e2
    · rw [e] at hv; cases hv; have := h.lt _ (h.fe x hx _ e2); omega
  have hvf : ∀ k, v'.ownBlock = some k → fv.ownBlock ≠ some k := fun k e e2 => by
    rcases hv with hv | ⟨k', hv, hk⟩
    · exact (h.inB (hv ▸ e)).2.1 e2
    · rw [e] at hv; cases hv; have := h.lt _ (h.ff _ e2); omega
  have hE : ∃ E', MapIs Prod.fst Prod.snd w2 mb E' ∧ (∀ z, z ∈ E' ↔ z = (a, v') ∨ (z ∈ E ∧ z.1 ≠ a)) ∧ (E'.map Prod.fst).Nodup := by
    rcases r4 with ⟨q1, q2⟩ | ⟨x, j, q1, q2, q3⟩
    · have hno := getE_none q1
      refine ⟨_, q2, fun z => ?_, ?_⟩
      · rw [List.mem_append, List.mem_singleton]
        exact ⟨fun hz => hz.elim (fun hz => .inr ⟨hz, hno z hz⟩) .inl, fun hz => hz.elim .inr (fun hz => .inl hz.1)⟩
      · rw [List.map_append, List.nodup_append]
        refine ⟨h.nod, by simp, fun u hu v hv => ?_⟩
        obtain ⟨x, hx, rfl⟩ := List.mem_map.1 hu
        simp at hv
        rw [hv]
        exact hno x hx
    · obtain ⟨s1, s2⟩ := set_mem h.nod (y := (a, v')) q2 (getE_some q1).2
      exact ⟨_, q3, s1, s2⟩
  obtain ⟨E', m1, m2, m3⟩ := hE
  refine ⟨w2, E', r1, ?_, ?_, r3⟩
  · exact {
      row := (hb3 rb h.fr h.rmm.2 (fun e => (hap e).1 rfl)).trans h.row
      am := h.am.keep (hb3 ma h.fa h.ne (fun e => (hap e).2.1 rfl))
      good := h.good
      bm := m1
      nod := m3
      beh := fun x hx => by
        rcases (m2 x).1 hx with rfl | ⟨hx, hne⟩
        · unfold updB; rw [if_pos rfl]; exact ho2
        · unfold updB; rw [if_neg hne]; exact hEo x hx hne
      no := fun s hs => by
        have hsa : s ≠ a := fun e => hs (a, v') ((m2 _).2 (.inl rfl)) e.symm
        unfold updB
        rw [if_neg hsa]
        exact h.no s fun x hx e => hs x ((m2 x).2 (.inr ⟨hx, by rw [e]; exact hsa⟩)) e
      own := h.own.keep fun k e => hb3 k (h.ff k e) (h.apart h.own e).2.2 (fun e2 => (h.inB e2).2.1 e)
      ne := h.ne
      fr := .inl h.fr
      fa := .inl h.fa
      fb := .inl h.fb
      ff := fun k e => .inl (h.ff k e)
      fe := fun x hx k e => by
        rcases (m2 x).1 hx with rfl | ⟨hx, hne⟩
        · exact .inr e
        · exact .inl (h.fe x hx k e)
      dis := fun x hx y hy hne k e e2 => by
        rcases (m2 x).1 hx with rfl | ⟨hx, hx2⟩ <;> rcases (m2 y).1 hy with rfl | ⟨hy, hy2⟩
        · exact hne rfl
        · exact hvx y hy hy2 k e e2
        · exact hvx x hx hx2 k e2 e
        · exact h.dis x hx y hy hne k e e2
      dif := fun x hx k e => by
        rcases (m2 x).1 hx with rfl | ⟨hx, hx2⟩
        · exact hvf k e
        · exact h.dif x hx k e
      lt := fun k hk => by
        rw [r3]
        rcases hk with hk | hk
        · exact Nat.lt_of_lt_of_le (h.lt k hk) hg.size
        · exact (ho.lt k hk).2 }
  · refine ⟨r2.os.trans hg.os, r2.tape.trans hg.tape, r2.output.trans hg.output, by rw [r3]; exact hg.size, fun k hk hF => ?_⟩
    exact (hb2 k (Nat.lt_of_lt_of_le hk hg.size) (fun e => hF (e ▸ h.fb))).trans (hg.block k hk (fun e => hF (h.inB e.symm).1))
/-- Those under the front are others now. -/
theorem RowIs.storeF (h : RowIs F w rb A B Fr ma mb fv E) {w1 : World} {v' : Value} {l' : List St} (hg : w.grownBy w1 fv.ownBlock) (ho : OwnSt 0 w1 v' l') (hv : v'.ownBlock = fv.ownBlock ∨ ∃ k, v'.ownBlock = some k ∧ w.heap.size ≤ k) :
    RowIs (fun k => F k ∨ v'.ownBlock = some k) (w1.setCell ⟨rb, 2, none⟩ v') rb A B l' ma mb v' E ∧ Touch F w (w1.setCell ⟨rb, 2, none⟩ v') := by
  have hap := fun {k : Nat} (e : fv.ownBlock = some k) => h.apart h.own e
  have hblk : ∀ k, F k → fv.ownBlock ≠ some k → w1.heap[k]? = w.heap[k]? := fun k hk hne => hg.block k (h.lt k hk) (fun e => hne e.symm)
  have hs := grownBy_setCell w1 rb 2 v'
  have hb2 : ∀ k, k ≠ rb → (w1.setCell ⟨rb, 2, none⟩ v').heap[k]? = w1.heap[k]? := fun k hne => Below.heap_setCell _ _ _ _ hne
  have hb3 : ∀ k, F k → k ≠ rb → fv.ownBlock ≠ some k → (w1.setCell ⟨rb, 2, none⟩ v').heap[k]? = w.heap[k]? := fun k hk h1 h2 => (hb2 k h1).trans (hblk k hk h2)
  have hvrb : ∀ k, v'.ownBlock = some k → k ≠ rb := fun k e e2 => by
    subst e2
    rcases hv with hv | ⟨k', hv, hk⟩
    · exact (hap (hv ▸ e)).1 rfl
    · rw [e] at hv; cases hv; have := h.lt _ h.fr; omega
  have hvx : ∀ x ∈ E, ∀ k, x.2.ownBlock = some k → v'.ownBlock ≠ some k := fun x hx k e2 e => by
    rcases hv with hv | ⟨k', hv, hk⟩
    · exact h.dif x hx k e2 (hv ▸ e)
    · rw [e] at hv; cases hv; have := h.lt _ (h.fe x hx _ e2); omega
  refine ⟨?_, ?_⟩
  · exact {
      row := by
        have h1 : w1.heap[rb]? = some (.cells #[.map (some ma), .map (some mb), fv] 57) := (hblk rb h.fr (fun e => (hap e).1 rfl)).trans h.row
        rw [heap_setCell_same w1 rb 2 _ _ _ h1]
        simp
      am := h.am.keep (hb3 ma h.fa h.rmm.1.symm (fun e => (hap e).2.1 rfl))
      good := h.good
      bm := h.bm.keep (hb3 mb h.fb h.rmm.2.symm (fun e => (hap e).2.2 rfl))
      nod := h.nod
      beh := fun x hx => (h.beh x hx).keep fun k e => hb3 k (h.fe x hx k e) (h.apart (h.beh x hx) e).1 (h.dif x hx k e)
      no := h.no
      own := ho.keep fun k e => hb2 k (hvrb k e)
      ne := h.ne
      fr := .inl h.fr
      fa := .inl h.fa
      fb := .inl h.fb
      ff := fun k e => .inr e
      fe := fun x hx k e => .inl (h.fe x hx k e)
      dis := h.dis
      dif := hvx
      lt := fun k hk => by
        have e : (w1.setCell ⟨rb, 2, none⟩ v').heap.size = w1.heap.size := by simp [World.setCell]
        rw [e]
        rcases hk with hk | hk
        · exact Nat.lt_of_lt_of_le (h.lt k hk) hg.size
        · exact (ho.lt k hk).2 }
  · refine ⟨hs.os.trans hg.os, hs.tape.trans hg.tape, hs.output.trans hg.output, Nat.le_trans hg.size hs.size, fun k hk hF => ?_⟩
    exact (hb2 k (fun e => hF (e ▸ h.fr))).trans (hg.block k hk (fun e => hF (h.ff k e.symm)))
/-- The slot itself. -/
theorem RowIs.storeA (h : RowIs F w rb A B Fr ma mb fv E) (s : Sl) (ho : okS s = true) (hn : hasL A s.ts = false) :
    ∃ w2, (Instr.mapUpdate 53 (.map (some ma)) (stV s.ts) (stV s.af)).run Try.prog w = .ok () w2 ∧ RowIs F w2 rb (A ++ [s]) B Fr ma mb fv E ∧ Touch F w w2 ∧ w2.heap.size = w.heap.size := by
  obtain ⟨w2, r1, r2, r3, r4⟩ := h.am.store h.good s hn
  have hb2 : ∀ k, k < w.heap.size → k ≠ ma → w2.heap[k]? = w.heap[k]? := fun k hk hne => r2.block k hk (fun e => hne (by cases e; rfl))
  refine ⟨w2, r1, ?_, ⟨r2.os, r2.tape, r2.output, r2.size, fun k hk hF => hb2 k hk (fun e => hF (e ▸ h.fa))⟩, r3⟩
  exact {
    row := (hb2 rb (h.lt _ h.fr) h.rmm.1).trans h.row
    am := r4
    good := h.good.snoc ho hn
    bm := h.bm.keep (hb2 mb (h.lt _ h.fb) (fun e => h.ne e.symm))
    nod := h.nod
    beh := fun x hx => (h.beh x hx).keep fun k e => hb2 k (h.lt k (h.fe x hx k e)) (h.apart (h.beh x hx) e).2.1
    no := h.no
    own := h.own.keep fun k e => hb2 k (h.lt k (h.ff k e)) (h.apart h.own e).2.1
    ne := h.ne
    fr := h.fr
    fa := h.fa
    fb := h.fb
    ff := h.ff
    fe := h.fe
    dis := h.dis
    dif := h.dif
    lt := fun k hk => by rw [r3]; exact h.lt k hk }
end
/-- Those behind one, of a row's slots. -/
def behZ (L : List Sl) (a : St) : List St := if a = z0 then [] else behL L a
/-- A row of these slots, whatever lies where. -/
def RowOk (F : Nat → Prop) (w : World) (rb : Nat) (L : List Sl) : Prop := ∃ ma mb fv E, RowIs F w rb L (behZ L) (frL L) ma mb fv E ∧ L.length ≤ 4096
section
variable {F : Nat → Prop} {w w' : World} {rb : Nat} {L : List Sl}
theorem RowOk.keep (h : RowOk F w rb L) (hk : KeepsS F w w') : RowOk F w' rb L := by obtain ⟨a, b, c, d, h, e⟩ := h; exact ⟨a, b, c, d, h.keep hk, e⟩
theorem RowOk.below (h : RowOk F w rb L) (hb : Below w.heap.size w w') : RowOk F w' rb L := by obtain ⟨a, b, c, d, h, e⟩ := h; exact ⟨a, b, c, d, h.below hb, e⟩
theorem RowOk.touch (h : RowOk F w rb L) {G : Nat → Prop} (ht : Touch G w w') (hG : ∀ k, F k → ¬ G k) : RowOk F w' rb L := by obtain ⟨a, b, c, d, h, e⟩ := h; exact ⟨a, b, c, d, h.touch ht hG, e⟩
theorem RowOk.lt (h : RowOk F w rb L) : ∀ k, F k → k < w.heap.size := by obtain ⟨a, b, c, d, h, e⟩ := h; exact h.lt
theorem RowOk.fr (h : RowOk F w rb L) : F rb := by obtain ⟨a, b, c, d, h, e⟩ := h; exact h.fr
theorem RowOk.good (h : RowOk F w rb L) : GoodL L := by obtain ⟨a, b, c, d, h, e⟩ := h; exact h.good
theorem RowOk.small (h : RowOk F w rb L) : L.length ≤ 4096 := by obtain ⟨a, b, c, d, h, e⟩ := h; exact e
end
end Go.Proofs.Ytfgkdbidgbpobaa
