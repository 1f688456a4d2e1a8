/- writeAttrs: the steps by which attributes become others. -/
import Derived.Test.YthhnglpkfcmjiaaKDiS
import Derived.Test.YthhnglpkfcmjiaaKVtD
namespace Go.Proofs.Ythhnglpkfcmjiaa
open Go.RowKit Go.Shelf
set_option linter.unusedVariables false
set_option linter.unusedSimpArgs false
def pS (k : St) (a : At) : Pa := ⟨8, k, (0, 0), (0, 0), a.1, a.2⟩
def pC (k : St) (o : At) : Pa := ⟨9, k, (0, 0), (0, 0), o.1, ⟨#[]⟩⟩
/-- The steps by which attributes become others, side by side. -/
def wrA (k : St) : List At → List At → List Pa
  | [], [] => []
  | o :: r, [] => pC k o :: wrA k r []
  | [], a :: s => pS k a :: wrA k [] s
  | o :: r, a :: s => if ltT o.1 a.1 = true then pC k o :: wrA k r (a :: s) else if ltT a.1 o.1 = true then pS k a :: wrA k (o :: r) s else (if o.2 = a.2 then [] else [pS k a]) ++ wrA k r s
termination_by O A => O.length + A.length
theorem wrA_len (k : St) : ∀ (n : Nat) (O A : List At), O.length + A.length ≤ n → (wrA k O A).length ≤ O.length + A.length
  | n, [], [], _ => by rw [wrA]; simp
  | n + 1, o :: r, [], h => by rw [wrA, List.length_cons]; have := wrA_len k n r [] (by simp at h ⊢; omega); simp at this ⊢; omega
  | n + 1, [], a :: s, h => by rw [wrA, List.length_cons]; have := wrA_len k n [] s (by simp at h ⊢; omega); simp at this ⊢; omega
  | n + 1, o :: r, a :: s, h => by
    have h' : r.length + s.length + 2 ≤ n + 1 := by simp at h; omega
    rw [wrA]
    have h1 := wrA_len k n r (a :: s) (by simp; omega)
    have h2 := wrA_len k n (o :: r) s (by simp; omega)
    have h3 := wrA_len k n r s (by omega)
    have h4 : (if o.2 = a.2 then ([] : List Pa) else [pS k a]).length ≤ 1 := by split <;> simp
    simp only [List.length_cons] at h1 h2 ⊢
    split
    · rw [List.length_cons]; omega
    · split
      · rw [List.length_cons]; omega
      · rw [List.length_append]; omega
  | 0, o :: r, A, h => by simp at h
  | 0, [], a :: s, h => by simp at h
/-- The row of steps in its box, the key in its. -/
structure WaS (B ob kb : Nat) (k : St) (v : Value) (R : List Pa) (W : World) : Prop where
  o : W.heap[ob]? = some (.cells #[v] 31)
  kx : W.heap[kb]? = some (.cells #[.int .i64 k.1, .int .i64 k.2] 23)
  ow : OwnPa B W v R
  lt : kb < B ∧ ob < B ∧ kb ≠ ob
theorem WaS.below {B ob kb : Nat} {k : St} {v : Value} {R : List Pa} {W W' : World} (h : WaS B ob kb k (v) (R) W) (hb : Below W.heap.size W W') : WaS B ob kb k (v) (R) W' := ⟨(hb.block _ (row_lt h.o)).trans h.o, (hb.block _ (row_lt h.kx)).trans h.kx, OwnE.below h.ow hb, h.lt⟩
theorem WaS.push {B ob kb : Nat} {k : St} {v v' : Value} {R R' : List Pa} {W W' : World} (h : WaS B ob kb k (v) (R) W) (hg : W.grownBy W' v.ownBlock) (ho : OwnPa B W' v' R') : WaS B ob kb k (v') (R') (W'.setCell ⟨ob, 0, none⟩ v') ∧ Touch (fun j => B ≤ j ∨ j = ob) W (W'.setCell ⟨ob, 0, none⟩ v') := by
  have hn : ∀ j, v.ownBlock = some j → B ≤ j := fun j e => (OwnE.lt h.ow j e).1
  have h1 := h.lt
  have hob : W'.heap[ob]? = some (.cells #[v] 31) := (hg.block ob (row_lt h.o) (fun e => by have := hn ob e.symm; omega)).trans h.o
  refine ⟨⟨by have h9 := heap_setCell_same W' ob 0 _ _ v' hob; simpa using h9, (RowKit.Below.heap_setCell _ _ _ _ h1.2.2).trans ((hg.block kb (row_lt h.kx) (fun e => by have := hn kb e.symm; omega)).trans h.kx), OwnE.keep ho fun j e => RowKit.Below.heap_setCell _ _ _ _ (by have := (OwnE.lt ho j e).1; show j ≠ ob; omega), h1⟩, ?_⟩
  refine (Touch.of_grown hg fun j e _ => .inl (hn j e)).trans (Touch.of_grown (grownBy_setCell W' ob 0 v') fun j e _ => by cases e; exact .inr rfl) (fun j q => .inl q)
theorem wpList_app1 {ops : Array Oper} {rest : List Oper} {o : Oper} {a : Act} {w : World} {Q : Exit → Act → World → Prop} (hgd : o.guard = none) (s x : Operand)
    (ho : o.op = .call { callee := .builtin .append, args := #[s, x], argTypes := #[31, 31] }) (B : Nat) (v : Value) (R : List Pa) (hs : a.eval s = v) (hown : OwnPa B w v R) (qb : Nat) (p : Pa) (hx : a.eval x = .slice (some ⟨qb, 0, none⟩) 1 1) (hq : w.heap[qb]? = some (.cells (paCells p).toArray 45)) (hl : R.length ≤ 1048576000) (hB : B ≤ w.heap.size)
    (h : ∀ g c w', OwnPa B w' (.slice (some ⟨g, 0, none⟩) (R.length + 1) c) (R ++ [p]) → w.grownBy w' v.ownBlock → wpList Try.prog ops Q rest (a.put o.dst (.slice (some ⟨g, 0, none⟩) (R.length + 1) c)) w') :
    wpList Try.prog ops Q (o :: rest) a w := by
  obtain ⟨i0, hi, hz0, hz1, hz2⟩ := info_parts infoPaD
  exact wpList_append_lies w hgd s x 31 ho B 45 i0 (.agg #[.int .i64 0, .int .i64 0, .int .i64 0, .int .i64 0, .int .i64 0, .int .i64 0, .int .i64 0, .string ⟨#[]⟩, .string ⟨#[]⟩]) 9 88 Try.underlying31 hi hz0 hz1 hz2 rfl (by decide) v R.length (flatE paCells R) hs hown ⟨qb, 0, none⟩ 1 1 (paCells p) hx rfl (World.news_of_block hq) (pa_oneD p) (by decide) (by unfold maxLen; omega) (by omega) hB _ rfl fun g c w' h1 h2 _ _ => h g c w' (OwnE.snoc rfl h1) h2
theorem step_app1 {ops : Array Oper} {o : Oper} {a : Act} {w : World} {K : Act → World → Prop} {Q : Exit → Act → World → Prop} {P9 : Prop} (hgd : o.guard = none) (s x : Operand)
    (ho : o.op = .call { callee := .builtin .append, args := #[s, x], argTypes := #[31, 31] }) (B : Nat) (v : Value) (R : List Pa) (hs : a.eval s = v) (hown : OwnPa B w v R) (qb : Nat) (p : Pa) (hx : a.eval x = .slice (some ⟨qb, 0, none⟩) 1 1) (hq : w.heap[qb]? = some (.cells (paCells p).toArray 45)) (hl : R.length ≤ 1048576000) (hB : B ≤ w.heap.size)
    (h : ∀ g c w', OwnPa B w' (.slice (some ⟨g, 0, none⟩) (R.length + 1) c) (R ++ [p]) → w.grownBy w' v.ownBlock → K (a.put o.dst (.slice (some ⟨g, 0, none⟩) (R.length + 1) c)) w') :
    if Region.wanted o (yielded ops a.tmps) = true then Oper.wp Try.prog o a w K Q else P9 := by
  obtain ⟨i0, hi, hz0, hz1, hz2⟩ := info_parts infoPaD
  exact step_append_lies w hgd s x 31 ho B 45 i0 (.agg #[.int .i64 0, .int .i64 0, .int .i64 0, .int .i64 0, .int .i64 0, .int .i64 0, .int .i64 0, .string ⟨#[]⟩, .string ⟨#[]⟩]) 9 88 Try.underlying31 hi hz0 hz1 hz2 rfl (by decide) v R.length (flatE paCells R) hs hown ⟨qb, 0, none⟩ 1 1 (paCells p) hx rfl (World.news_of_block hq) (pa_oneD p) (by decide) (by unfold maxLen; omega) (by omega) hB _ rfl fun g c w' h1 h2 _ _ => h g c w' (OwnE.snoc rfl h1) h2
theorem hdE {G : Nat → Prop} {w : World} {v : Value} {x : At} {r : List At} (h : LsE atCells 2 G w v (x :: r)) : ∃ b o c, v = .slice (some ⟨b, o, none⟩) (r.length + 1) c ∧ r.length + 1 ≤ c ∧ G b ∧ b < w.heap.size ∧ w.cell? ⟨b, o, none⟩ = some (.string x.1) ∧ w.cell? ⟨b, o + 1, none⟩ = some (.string x.2) := by
  obtain ⟨a, cap, e, hc, hl, hr⟩ := h
  obtain ⟨b, o, e2, hg, hlt, hcs⟩ := hr.resolve_left (fun e => by cases e)
  subst e2
  have h0 := hcs 0 (by simp)
  exact ⟨b, o, cap, e, by simpa using hc, hg, hlt, by have := h0 0 _ rfl; simpa using this, by have := h0 1 _ rfl; simpa using this⟩
theorem tlE {G : Nat → Prop} {w : World} {x : At} {r : List At} {b o c : Nat} (h : LsE atCells 2 G w (.slice (some ⟨b, o, none⟩) (r.length + 1) c) (x :: r)) : (c = 1 → r = [] ∧ LsE atCells 2 G w (.slice (some ⟨b, o, none⟩) 0 0) r) ∧ (c ≠ 1 → LsE atCells 2 G w (.slice (some ⟨b, o + 2, none⟩) r.length (c - 1)) r) := by
  obtain ⟨a, cap, e, hc, hl, hr⟩ := h
  injection e with e1 _ e3
  subst e3
  obtain ⟨b2, o2, e2, hg, hlt, hcs⟩ := hr.resolve_left (fun e => by cases e)
  rw [← e1] at e2
  injection e2 with e2
  injection e2 with e2 e4 _
  subst e2 e4
  refine ⟨fun e => ?_, fun e => ?_⟩
  · have : r = [] := List.eq_nil_of_length_eq_zero (by simp at hc; omega)
    subst this
    exact ⟨rfl, LsE.nil _ _ _⟩
  · refine ⟨some ⟨b, o + 2, none⟩, c - 1, rfl, by simp at hc; omega, by simp at hl; omega, ?_⟩
    cases r with
    | nil => exact .inl rfl
    | cons y r =>
      refine .inr ⟨b, o + 2, rfl, hg, hlt, fun i hi j u hj => ?_⟩
      have := hcs (i + 1) (by simpa using hi) j u hj
      rw [show o + 2 + i * 2 + j = o + (i + 1) * 2 + j by omega]
      exact this
/-- What stands while attributes are gone through side by side. -/
structure WlS (w : World) (B ob kb : Nat) (k : St) (v : Value) (R : List Pa) (ov : Value) (O : List At) (av : Value) (A : List At) (W : World) : Prop where
  s : WaS B ob kb k (v) (R) W
  l1 : LsE atCells 2 (fun k => k < w.heap.size) W ov O
  l2 : LsE atCells 2 (fun k => k < w.heap.size) W av A
  bel : Below w.heap.size w W
  lo : w.heap.size ≤ B ∧ w.heap.size ≤ ob
section
variable {w W W' : World} {B ob kb : Nat} {k : St} {v v' : Value} {R R' : List Pa} {ov av : Value} {O A : List At}
theorem WlS.below (h : WlS w B ob kb k (v) (R) (ov) (O) (av) (A) W) (hb : Below W.heap.size W W') : WlS w B ob kb k (v) (R) (ov) (O) (av) (A) W' := ⟨h.s.below hb, h.l1.below hb, h.l2.below hb, h.bel.trans (hb.mono h.bel.size), h.lo⟩
theorem WlS.touch (h : WlS w B ob kb k (v) (R) (ov) (O) (av) (A) W) (hs : WaS B ob kb k (v') (R') W') (ht : Touch (fun j => B ≤ j ∨ j = ob) W W') : WlS w B ob kb k (v') (R') (ov) (O) (av) (A) W' := by
  have hF : ∀ j, (B ≤ j ∨ j = ob) → w.heap.size ≤ j := fun j q => by have := h.lo; omega
  exact ⟨hs, h.l1.touch ht fun j q hj => by have := hF j hj; omega, h.l2.touch ht fun j q hj => by have := hF j hj; omega, h.bel.trans (ht.below hF h.bel.size), h.lo⟩
end
set_option maxRecDepth 100000 in
set_option maxHeartbeats 4000000 in
theorem set_any (B ob kb : Nat) (k : St) (v : Value) (R : List Pa) (a : At) (w : World) (h : WaS B ob kb k (v) (R) w) (hl : R.length ≤ 1048576000) (hB : B ≤ w.heap.size) :
    Calls Try.prog 74 #[.agg #[.string a.1, .string a.2], .pointer (some ⟨ob, 0, none⟩), .pointer (some ⟨kb, 0, none⟩)] w fun e w' => (∃ u, e = .returned u) ∧ ∃ v', WaS B ob kb k (v') (R ++ [pS k a]) w' ∧ Touch (fun j => B ≤ j ∨ j = ob) w w' := by
  have hb0 : Below w.heap.size w (w.alloc (.cells #[.string a.1, .string a.2] 77)) := (Below.refl _ _).alloc (Nat.le_refl _) _
  have ha : (w.alloc (.cells #[.string a.1, .string a.2] 77)).heap[w.heap.size]? = some (.cells #[.string a.1, .string a.2] 77) := heap_alloc_new _ _
  obtain ⟨W0, eW⟩ : ∃ X, X = (w.alloc (.cells #[.string a.1, .string a.2] 77)) := ⟨_, rfl⟩
  have HE := hide9 eW
  rw [← eW] at hb0 ha
  obtain ⟨y0, y1⟩ := row2d ha
  have HS : Hid (WaS B ob kb k (v) (R) W0) := h.below hb0
  have c0 : W0.cell? ⟨ob, 0, none⟩ = some v := (by rw [cell_of_row _ _ _ _ _ _ HS.out.o]; rfl)
  obtain ⟨k0, k1⟩ := row2d HS.out.kx
  have Hb0 := hide9 hb0
  obtain ⟨va, vc, ev⟩ := OwnE.form h.ow
  subst ev
  have Hl := hide9 hl
  have HB := hide9 hB
  have Ht0 : Hid (Touch (fun j => B ≤ j ∨ j = ob) w W0) := Touch.of_below hb0
  clear hb0 ha eW h hl hB
  go_enter Try.func74, Try.ntmps74
  go_upto_region 1 with fail
  rw [← HE.out]
  clear HE
  go_wp2_with (at_builtin; refine StpD.to ?_)
  refine StpD.of ?_
  clear c0 k0 k1 y0 y1
  obtain ⟨W1, eW1⟩ : ∃ X, X = W0.alloc (.cells #[.int .i64 8, .int .i64 k.1, .int .i64 k.2, .int .i64 0, .int .i64 0, .int .i64 0, .int .i64 0, .string a.1, .string a.2] 45) := ⟨_, rfl⟩
  have hq : W1.heap[W0.heap.size]? = some (.cells (paCells (pS k a)).toArray 45) := (by rw [eW1]; exact heap_alloc_new _ _)
  have hb1 : Below W0.heap.size W0 W1 := (by rw [eW1]; exact (Below.refl _ _).alloc (Nat.le_refl _) _)
  rw [← eW1]
  replace HS : Hid (WaS B ob kb k (.slice va R.length vc) (R) W1) := HS.out.below hb1
  have Ht1 : Hid (Touch (fun j => B ≤ j ∨ j = ob) w W1) := Ht0.out.trans (Touch.of_below (F := fun j => B ≤ j ∨ j = ob) hb1) (fun j q => .inl q)
  have Hs1 : Hid (w.heap.size ≤ W1.heap.size) := Nat.le_trans Hb0.out.size hb1.size
  clear eW1 hb1
  refine wpList_app1 rfl _ _ rfl B _ R rfl HS.out.ow W0.heap.size (pS k a) rfl hq Hl.out (Nat.le_trans HB.out Hs1.out) ?_
  intro g c W2 ho hg
  obtain ⟨h1, h2⟩ := HS.out.push hg ho
  have H1 := hide9 h1
  have H2 := hide9 h2
  have hob : W2.heap[ob]? = some (.cells #[.slice va R.length vc] 31) := (hg.block ob (row_lt HS.out.o) (fun e => by have := (OwnE.lt HS.out.ow ob e.symm).1; have := HS.out.lt; omega)).trans HS.out.o
  have c0 : W2.cell? ⟨ob, 0, none⟩ = some (.slice va R.length vc) := (by rw [cell_of_row _ _ _ _ _ _ hob]; rfl)
  have f0 := frozen_of_row W2 ob 0 _ _ hob
  clear h1 h2 hob hq ho hg HS
  go_wp2
  first | refine bodyPost_end (results_none rfl _ _ _) rfl ?_ | go_end0
  exact ⟨⟨_, rfl⟩, _, H1.out, Ht1.out.trans H2.out (fun j q => .inl q)⟩
end Go.Proofs.Ythhnglpkfcmjiaa
