/- OplogUnion of package topiarylaw07 is proved at this commit: for every input (a list of changes with a list of Booleans, a number, any) the call returns true and the arguments read as they did. No condition. -/
import Derived.Test.YtngldpabfpcaiaaGreatTk
import Derived.Test.YtngldpabfpcaiaaGreatOlY2
import Derived.Test.YtngldpabfpcaiaaGreatCkA
import Derived.Test.YtngldpabfpcaiaaGreatPlainN
import Derived.Test.YtngldpabfpcaiaaGreatZGu
import Derived.Test.YtngldpabfpcaiaaGreatZIu
import Derived.Test.YtngldpabfpcaiaaGreatBaseO
import Derived.Deep.Grids
import Derived.Test.YtngldpabfpcaiaaGreatOlV5
import Derived.Test.YtngldpabfpcaiaaGreatOlA
import Derived.Test.YtngldpabfpcaiaaGreatOlB
import Derived.Test.YtngldpabfpcaiaaGreatCkM
import Derived.Deep.LoopGhost
namespace Go.Proofs.YtngldpabfpcaiaaGreat
open Go.RowKit Go.Shelf
set_option linter.unusedVariables false
set_option linter.unusedSimpArgs false

attribute [local go_sem] Oper.semAt_some

/-- What Since answers. -/
def sinceR (L : List Ch) (kn : List Int) (most : Int) : List Ch × Bool × Int := if checkL kn ≠ 0 then ([], false, checkL kn) else if most < 1 then ([], false, 1) else ((lackL L kn).take most.toNat, decide (most < ((lackL L kn).length : Int)), 0)
theorem results_since {fn : Func} (hr : fn.results = #[.cell 6 22, .cell 7 4, .cell 8 29]) (tmps : Array Value) (R1 R2 R3 : Nat) (w : World) (a : Option Addr) (n c : Nat) (b : Bool) (e : Int) (h1 : tmps.getD 6 undef = .pointer (some ⟨R1, 0, none⟩)) (h2 : tmps.getD 7 undef = .pointer (some ⟨R2, 0, none⟩)) (h3 : tmps.getD 8 undef = .pointer (some ⟨R3, 0, none⟩))
    (c1 : w.cell? ⟨R1, 0, none⟩ = some (.slice a n c)) (c2 : w.cell? ⟨R2, 0, none⟩ = some (.bool b)) (c3 : w.cell? ⟨R3, 0, none⟩ = some (.int .i64 e)) : (results fn tmps).run Tryz.prog w = .ok (.tuple #[.slice a n c, .bool b, .int .i64 e]) w := by
  have h1' : tmps[6]?.getD undef = .pointer (some ⟨R1, 0, none⟩) := by simpa using h1
  have h2' : tmps[7]?.getD undef = .pointer (some ⟨R2, 0, none⟩) := by simpa using h2
  have h3' : tmps[8]?.getD undef = .pointer (some ⟨R3, 0, none⟩) := by simpa using h3
  simp [results, hr, h1', h2', h3', asAddr, loadVar, isAgg, run_underlying Tryz.underlying4, run_underlying Tryz.underlying22, run_underlying Tryz.underlying29, load, go_sem]
  simp [Sem.run, c1, c2, c3]

/-- The boxes of most and of the results. -/
def Four (b r1 r2 r3 : Nat) (most : Int) (W : World) : Prop := Boxed W b 3 (.int .i64 most) ∧ Boxed W r1 22 (.slice none 0 0) ∧ Boxed W r2 4 (.bool false) ∧ Boxed W r3 29 (.int .i64 0)
theorem Four.cells {b r1 r2 r3 : Nat} {most : Int} {W : World} (h : Four b r1 r2 r3 most W) : (W.cell? ⟨b, 0, none⟩ = some (.int .i64 most) ∧ W.frozen? ⟨b, 0, none⟩ = false) ∧ (W.cell? ⟨r1, 0, none⟩ = some (.slice none 0 0) ∧ W.frozen? ⟨r1, 0, none⟩ = false) ∧ (W.cell? ⟨r2, 0, none⟩ = some (.bool false) ∧ W.frozen? ⟨r2, 0, none⟩ = false) ∧ (W.cell? ⟨r3, 0, none⟩ = some (.int .i64 0) ∧ W.frozen? ⟨r3, 0, none⟩ = false) :=
  ⟨⟨h.1.cell, h.1.frozen⟩, ⟨h.2.1.cell, h.2.1.frozen⟩, ⟨h.2.2.1.cell, h.2.2.1.frozen⟩, ⟨h.2.2.2.cell, h.2.2.2.frozen⟩⟩
theorem Four.keep {w : World} {r1 r2 r3 r4 : Nat} {most : Int} {W W' : World} (h : Four w.heap.size r1 r2 r3 most W) (hk : ∀ k, k < r4 → W'.heap[k]? = W.heap[k]?) (hr : r1 = w.heap.size + 1 ∧ r2 = w.heap.size + 2 ∧ r3 = w.heap.size + 3 ∧ r4 = w.heap.size + 4) : Four w.heap.size r1 r2 r3 most W' :=
  ⟨(hk _ (by omega)).trans h.1, (hk _ (by omega)).trans h.2.1, (hk _ (by omega)).trans h.2.2.1, (hk _ (by omega)).trans h.2.2.2⟩
theorem boxed_far {W : World} {b g i : Nat} {t : TypeId} {v u : Value} (h : Boxed W b t v) (hne : b ≠ g) : Boxed (W.setCell ⟨g, i, none⟩ u) b t v := (RowKit.Below.heap_setCell _ _ _ _ hne).trans h
theorem set3 {w : World} {r1 r2 r3 r4 : Nat} {most : Int} {W : World} (h : Four w.heap.size r1 r2 r3 most W) (hr : r1 = w.heap.size + 1 ∧ r2 = w.heap.size + 2 ∧ r3 = w.heap.size + 3 ∧ r4 = w.heap.size + 4) (a b c : Value) (hb : Below w.heap.size w W) :
    Boxed (((W.setCell ⟨r1, 0, none⟩ a).setCell ⟨r2, 0, none⟩ b).setCell ⟨r3, 0, none⟩ c) r1 22 a ∧ Boxed (((W.setCell ⟨r1, 0, none⟩ a).setCell ⟨r2, 0, none⟩ b).setCell ⟨r3, 0, none⟩ c) r2 4 b ∧ Boxed (((W.setCell ⟨r1, 0, none⟩ a).setCell ⟨r2, 0, none⟩ b).setCell ⟨r3, 0, none⟩ c) r3 29 c ∧ Below w.heap.size w (((W.setCell ⟨r1, 0, none⟩ a).setCell ⟨r2, 0, none⟩ b).setCell ⟨r3, 0, none⟩ c) := by
  obtain ⟨e1, e2, e3, _⟩ := hr
  refine ⟨boxed_far (boxed_far (h.2.1.set a) (by omega)) (by omega), boxed_far ((boxed_far h.2.2.1 (by omega)).set b) (by omega), (boxed_far (boxed_far h.2.2.2 (by omega)) (by omega)).set c, ?_⟩
  exact ((hb.setCell (p := ⟨r1, 0, none⟩) (by show _ ≤ r1; omega) _).setCell (p := ⟨r2, 0, none⟩) (by show _ ≤ r2; omega) _).setCell (p := ⟨r3, 0, none⟩) (by show _ ≤ r3; omega) _

theorem rowIn_new {w W : World} {a : Option Addr} {d : List Int} (S : Nat → Prop) (hr : d = [] ∨ ∃ b o, a = some ⟨b, o, none⟩ ∧ IntsAt w b o d) (hb : Below w.heap.size w W) (hS : ∀ k, k < w.heap.size → S k) : RowIn S W a d := by
  by_cases hd : d = []
  · exact .inl hd
  · obtain ⟨b, o, e, hr⟩ := hr.resolve_left hd
    exact .inr ⟨b, o, e, hS b (hr.lt hd), hr.below hb⟩
/-- What lies where when Since returns. -/
def RetS (w W2 : World) (r1 r2 r3 : Nat) (L : List Ch) (sv : Value) (b : Bool) (U : World) : Prop := ∃ E : List (Ch × Value), E.map Prod.fst = L ∧ OwnH W2.heap.size U sv E ∧ (∀ x ∈ E, OwnI W2.heap.size U x.2 x.1.deps ∧ Sized x.1 ∧ x.1.deps.length ≤ 17592186044416) ∧ Below w.heap.size w U ∧ Boxed U r1 22 sv ∧ Boxed U r2 4 (.bool b) ∧ Boxed U r3 29 (.int .i64 0) ∧ w.heap.size ≤ W2.heap.size
theorem RetS.grown {w W2 : World} {r1 r2 r3 : Nat} {L : List Ch} {sv : Value} {b : Bool} {U U' : World} (h : RetS w W2 r1 r2 r3 L sv b U) {row : Option Nat} (hg : U.grownBy U' row) (hr : ∀ r, row = some r → W2.heap.size ≤ r ∧ ∃ o : Obj, U.heap[r]? = some o ∧ o.isCells = false) : RetS w W2 r1 r2 r3 L sv b U' := by
  have hr2 : ∀ r, row = some r → ∃ o : Obj, U.heap[r]? = some o ∧ o.isCells = false := fun r e => (hr r e).2
  obtain ⟨E, q1, q2, q3, q4, q5, q6, q7, q8⟩ := h
  exact ⟨E, q1, ownsRow_own q2 hg hr2, fun x hx => ⟨ownsRow_own (q3 x hx).1 hg hr2, (q3 x hx).2⟩, q4.grown hg q4.size (fun j e => Nat.le_trans q8 (hr j e).1), row_own q5 hg hr2, row_own q6 hg hr2, row_own q7 hg hr2, q8⟩
theorem RetS.of {w W2 : World} {r1 r2 r3 r4 : Nat} {most : Int} {S : Nat → Prop} {L : List Ch} {sv : Value} {E : List (Ch × Value)} {U : World} (h : AllB w W2 r4 S sv E U) (hf : Four w.heap.size r1 r2 r3 most U) (hr : r1 = w.heap.size + 1 ∧ r2 = w.heap.size + 2 ∧ r3 = w.heap.size + 3 ∧ r4 = w.heap.size + 4) (b : Bool) (hE : E.map Prod.fst = L) :
    RetS w W2 r1 r2 r3 L sv b (((U.setCell ⟨r1, 0, none⟩ sv).setCell ⟨r2, 0, none⟩ (.bool b)).setCell ⟨r3, 0, none⟩ (.int .i64 0)) := by
  obtain ⟨c1, c2, c3, c4⟩ := set3 hf hr sv (.bool b) (.int .i64 0) h.bel
  obtain ⟨e1, e2, e3, e4⟩ := hr
  have hb2 := h.b2
  have far : ∀ k, W2.heap.size ≤ k → (((U.setCell ⟨r1, 0, none⟩ sv).setCell ⟨r2, 0, none⟩ (.bool b)).setCell ⟨r3, 0, none⟩ (.int .i64 0)).heap[k]? = U.heap[k]? := fun k hk =>
    (RowKit.Below.heap_setCell _ _ _ _ (by show k ≠ r3; omega)).trans ((RowKit.Below.heap_setCell _ _ _ _ (by show k ≠ r2; omega)).trans (RowKit.Below.heap_setCell _ _ _ _ (by show k ≠ r1; omega)))
  exact ⟨E, hE, ownsRow_keep h.own fun k e => far k (World.ownsRow.lt h.own k e).1, fun x hx => ⟨OwnI.keepF (h.dep x hx).1 fun k e => far k (World.ownsRow.lt (h.dep x hx).1 k e).1, (h.dep x hx).2⟩, c4, c1, c2, c3, h.b4⟩

set_option maxRecDepth 100000 in
set_option maxHeartbeats 8000000 in
theorem since_in (n : Nat) (hn : 5 ≤ n) (v : Value) (room : Int) (L : List Ch) (F : Nat → Prop) (kv : Value) (kn : List Int) (most : Int) (w : World) (h : LogV F w v room L) (hs : Srt L) (hl : L.length ≤ 4096) (hk : IsI w kv kn) :
    CallsIn Fence.wide n Tryz.prog 16 #[v, kv, .int .i64 most] w fun e w' => ∃ v' E, e = .returned (.tuple #[v', .bool (sinceR L kn most).2.1, .int .i64 (sinceR L kn most).2.2]) ∧ E.map Prod.fst = (sinceR L kn most).1 ∧ OwnH w.heap.size w' v' E ∧ (∀ x ∈ E, OwnI w.heap.size w' x.2 x.1.deps ∧ Sized x.1 ∧ x.1.deps.length ≤ 17592186044416) ∧ Below w.heap.size w w' := by
  obtain ⟨i0, hi, hz0, hz1, hz2⟩ := info_parts infoChange
  have hro : Fence.wide.round = none := rfl
  have h1n : 1 ≤ n := by omega
  have hFl := h.lt
  have HIk : Hid (IsI w kv kn) := hk
  obtain ⟨ak, ck, rfl, hck, hkl, hrk⟩ := hk
  have HRk : Hid (kn = [] ∨ ∃ b o, ak = some ⟨b, o, none⟩ ∧ IntsAt w b o kn) := hrk
  have HLv : Hid (LogV F w v room L) := h
  have HSrt : Hid (Srt L) := hs
  have HDf : Hid (sinceR L kn most = if checkL kn ≠ 0 then ([], false, checkL kn) else if most < 1 then ([], false, 1) else ((lackL L kn).take most.toNat, decide (most < ((lackL L kn).length : Int)), 0)) := rfl
  clear hrk h hs
  refine callsIn_of_wp_marks Tryz.func16 rfl trivial ?_ hro
  simp only [Tryz.ntmps16, List.size_toArray, List.length_cons, List.length_nil, Nat.reduceAdd, Nat.reduceSub, Array.replicate_succ, Array.replicate_zero, List.push_toArray, List.append_toArray, List.nil_append, List.cons_append]
  gi_wp2_with fail
  refine ⟨trivial, ?_⟩
  obtain ⟨W0, eW0⟩ : ∃ X, X = (((w.alloc (.cells #[.int .i64 most] 3)).alloc (.cells #[.slice none 0 0] 22)).alloc (.cells #[.bool false] 4)).alloc (.cells #[.int .i64 0] 29) := ⟨_, rfl⟩
  obtain ⟨r3, e3⟩ : ∃ b, b = w.heap.size + 1 + 1 + 1 := ⟨_, rfl⟩
  obtain ⟨r2, e2⟩ : ∃ b, b = w.heap.size + 1 + 1 := ⟨_, rfl⟩
  obtain ⟨r1, e1⟩ : ∃ b, b = w.heap.size + 1 := ⟨_, rfl⟩
  obtain ⟨r4, e4⟩ : ∃ b, b = W0.heap.size := ⟨_, rfl⟩
  have hs0 : W0.heap.size = w.heap.size + 4 := by rw [eW0]; simp
  have HRs : Hid (r1 = w.heap.size + 1 ∧ r2 = w.heap.size + 2 ∧ r3 = w.heap.size + 3 ∧ r4 = w.heap.size + 4) := ⟨e1, e2, e3, e4.trans hs0⟩
  have HFr : Hid (Four w.heap.size r1 r2 r3 most W0) := by
    rw [eW0, e1, e2, e3]
    refine ⟨?_, ?_, ?_, ?_⟩
    · exact (((Boxed.new w 3 (.int .i64 most)).alloc _).alloc _).alloc _
    · have := ((Boxed.new (w.alloc (.cells #[.int .i64 most] 3)) 22 (.slice none 0 0)).alloc (.cells #[.bool false] 4)).alloc (.cells #[.int .i64 0] 29)
      rw [show (w.alloc (.cells #[.int .i64 most] 3)).heap.size = w.heap.size + 1 by simp] at this
      exact this
    · have := (Boxed.new ((w.alloc (.cells #[.int .i64 most] 3)).alloc (.cells #[.slice none 0 0] 22)) 4 (.bool false)).alloc (.cells #[.int .i64 0] 29)
      rw [show ((w.alloc (.cells #[.int .i64 most] 3)).alloc (.cells #[.slice none 0 0] 22)).heap.size = w.heap.size + 1 + 1 by simp] at this
      exact this
    · have := Boxed.new (((w.alloc (.cells #[.int .i64 most] 3)).alloc (.cells #[.slice none 0 0] 22)).alloc (.cells #[.bool false] 4)) 29 (.int .i64 0)
      rw [show (((w.alloc (.cells #[.int .i64 most] 3)).alloc (.cells #[.slice none 0 0] 22)).alloc (.cells #[.bool false] 4)).heap.size = w.heap.size + 1 + 1 + 1 by simp] at this
      exact this
  have HB0 : Hid (Below w.heap.size w W0) := by rw [eW0]; exact ((((Below.refl _ _).alloc (Nat.le_refl _) _).alloc (by simp) _).alloc (by simp; omega) _).alloc (by simp; omega) _
  rw [← eW0, ← e3, ← e2, ← e1]
  have n12 : r1 ≠ r2 := by have := HRs.out; omega
  have n13 : r1 ≠ r3 := by have := HRs.out; omega
  have n14 : r1 ≠ r4 := by have := HRs.out; omega
  have n21 : r2 ≠ r1 := by have := HRs.out; omega
  have n23 : r2 ≠ r3 := by have := HRs.out; omega
  have n24 : r2 ≠ r4 := by have := HRs.out; omega
  have n31 : r3 ≠ r1 := by have := HRs.out; omega
  have n32 : r3 ≠ r2 := by have := HRs.out; omega
  have n34 : r3 ≠ r4 := by have := HRs.out; omega
  have n41 : r4 ≠ r1 := by have := HRs.out; omega
  have n42 : r4 ≠ r2 := by have := HRs.out; omega
  have n43 : r4 ≠ r3 := by have := HRs.out; omega
  clear eW0 e1 e2 e3 hs0
  refine (callsIn_wide.2 (check_any _ kn _ (HIk.out.below HB0.out))).mono ?_
  rintro e w' ⟨rfl, hw⟩
  replace hw := hw.symm
  subst hw
  obtain ⟨⟨x0, f0⟩, ⟨x1, f1⟩, ⟨x2, f2⟩, ⟨x3, f3⟩⟩ := HFr.out.cells
  by_cases hc : checkL kn = 0
  · rw [hc]
    by_cases hm : most < 1
    · have HS3 := set3 HFr.out HRs.out (.slice none 0 0) (.bool false) (.int .i64 1) HB0.out
      have HSq : Hid (sinceR L kn most = ([], false, 1)) := by rw [HDf.out, if_neg (by simp [hc]), if_pos hm]; rfl
      have HS4 : Hid _ := HS3
      clear HS3 HDf
      gi_wp2
      obtain ⟨c1, c2, c3, hbl⟩ := HS4.out
      refine ⟨_, results_since rfl _ r1 r2 r3 _ none 0 0 false 1 rfl rfl rfl c1.cell c2.cell c3.cell, .slice none 0 0, [], by rw [HSq.out], by rw [HSq.out]; rfl, OwnH.nil0 _ _, fun x hx => by simp at hx, hbl⟩
    · have HSq : Hid (sinceR L kn most = ((lackL L kn).take most.toNat, decide (most < ((lackL L kn).length : Int)), 0)) := by rw [HDf.out, if_neg (by simp [hc]), if_neg hm]; rfl
      clear HDf
      clear hc
      gi_wp2_with fail
      refine ⟨trivial, ?_⟩
      obtain ⟨W1, eW1⟩ : ∃ X, X = W0.alloc (.cells #[.slice none 0 0] 22) := ⟨_, rfl⟩
      have hbA : Below W0.heap.size W0 W1 := by rw [eW1]; exact (Below.refl _ _).alloc (Nat.le_refl _) _
      have HX0 : Hid (Boxed W1 r4 22 (.slice none 0 0)) := by rw [e4, eW1]; exact heap_alloc_new _ _
      have hs1 : W1.heap.size = r4 + 1 := by rw [e4, eW1]; simp
      rw [← eW1, ← e4]
      have HFr1 : Hid (Four w.heap.size r1 r2 r3 most W1) := HFr.out.keep (fun k hk => hbA.block k (by have := HRs.out; omega)) HRs.out
      have HBe1 : Hid (Below w.heap.size w W1) := HB0.out.trans (hbA.mono HB0.out.size)
      clear x0 x1 x2 x3 f0 f1 f2 f3 HFr HB0 eW1 e4 hbA
      refine (callsIn_wide.2 (orEmpty_any v room L F _ (HLv.out.below HBe1.out))).mono ?_
      rintro e w1 ⟨lb, F', rfl, ⟨mb, ord, own, D, h1⟩, h2, hff⟩
      have HL1 : Hid (LogIs F' w1 lb room L mb ord own D) := h1
      have HB1 : Hid (Below w.heap.size w w1) := HBe1.out.trans (h2.mono HBe1.out.size)
      have HX1 : Hid (Boxed w1 r4 22 (.slice none 0 0)) := (h2.block _ (by omega)).trans HX0.out
      have HF1 : Hid (¬ F' r4) := fun hk => by have hr := HRs.out; rcases hff _ hk with h3 | h3; exact absurd (hFl _ h3) (by omega); omega
      have hsz1 : r4 < w1.heap.size := by have := h2.size; omega
      have HFr2 : Hid (Four w.heap.size r1 r2 r3 most w1) := HFr1.out.keep (fun k hk => h2.block k (by have := HRs.out; omega)) HRs.out
      clear h1 h2 hff HX0 HFr1 HBe1 hs1
      gi_wp2_with fail
      refine ⟨trivial, ?_⟩
      refine (callsIn_wide.2 (missing_any lb (.slice ak kn.length ck) _ ⟨_, _, _, rfl⟩)).mono ?_
      rintro e w2 ⟨rfl, hw2⟩
      gi_wp2
      obtain ⟨W2, eW2⟩ : ∃ X, X = w2 := ⟨_, rfl⟩
      have HC1 : Hid (W2.cell? ⟨w1.heap.size, 0, none⟩ = some (.pointer (some ⟨lb, 0, none⟩))) := by
        rw [eW2, hw2]
        have := (Boxed.new w1 24 (.pointer (some ⟨lb, 0, none⟩))).alloc (.cells #[.slice ak kn.length ck] 23)
        exact this.cell
      have HC2 : Hid (W2.cell? ⟨w1.heap.size + 1, 0, none⟩ = some (.slice ak kn.length ck)) := by
        rw [eW2, hw2]
        have := Boxed.new (w1.alloc (.cells #[.pointer (some ⟨lb, 0, none⟩)] 24)) 23 (.slice ak kn.length ck)
        rw [show (w1.alloc (.cells #[.pointer (some ⟨lb, 0, none⟩)] 24)).heap.size = w1.heap.size + 1 by simp] at this
        exact this.cell
      have hb2 : Below w1.heap.size w1 W2 := by rw [eW2, hw2]; exact ((Below.refl _ _).alloc (Nat.le_refl _) _).alloc (by simp) _
      have hsz2 : W2.heap.size = w1.heap.size + 2 := by rw [eW2, hw2]; simp
      rw [← hw2, ← eW2]
      clear eW2 hw2
      have HL2 : Hid (LogIs F' W2 lb room L mb ord own D) := HL1.out.below hb2
      have HFr3 : Hid (Four w.heap.size r1 r2 r3 most W2) := HFr2.out.keep (fun k hk => hb2.block k (by have := HRs.out; omega)) HRs.out
      obtain ⟨S, eS⟩ : ∃ S : Nat → Prop, S = fun k => F' k ∨ k = w1.heap.size ∨ k = w1.heap.size + 1 ∨ k < r4 := ⟨_, rfl⟩
      have HS : Hid (∀ k, S k → k < W2.heap.size) := fun k hk => by rw [eS] at hk; rcases hk with hk | rfl | rfl | hk; exact HL2.out.lt k hk; omega; omega; omega
      have HSr : Hid (∀ k, k < r4 → S k) := fun k hk => by rw [eS]; exact .inr (.inr (.inr hk))
      have HA0 : Hid (AllB w W2 r4 S (.slice none 0 0) [] W2) :=
        ⟨(hb2.block _ hsz1).trans HX1.out, OwnH.nil0 _ _, fun x hx => by simp at hx, HB1.out.trans (hb2.mono HB1.out.size), ⟨KeepsS.refl _ _, HS.out⟩, by have := HRs.out; omega, by omega, fun hk => by rw [eS] at hk; rcases hk with hk | hk | hk | hk; exact HF1.out hk; omega; omega; omega, by have := HRs.out; omega⟩
      have HSF : Hid (∀ k, F' k → S k) := fun k hk => by rw [eS]; exact .inl hk
      have HRw : Hid (RowIn S W2 ak kn) := rowIn_new S HRk.out (HB1.out.trans (hb2.mono HB1.out.size)) (fun k hk => HSr.out k (by have := HRs.out; omega))
      have HSq0 := missing_seq (n - 1) (by omega) w1.heap.size (w1.heap.size + 1) ck S F' lb room L mb ord own D ak kn W2 HL2.out HSrt.out hl HSF.out (by rw [eS]; exact .inr (.inl rfl)) (by rw [eS]; exact .inr (.inr (.inl rfl))) HA0.out.kp.2 HC1.out HC2.out HRw.out hck hkl
      clear eS hb2 HX1 HF1 HS HC1 HC2 HL1 HFr2 HRw
      have hm1 : 1 ≤ most := by omega
      refine range_of h1n (gf := 47) (lb := #[.pointer (some ⟨w1.heap.size, 0, none⟩), .pointer (some ⟨w1.heap.size + 1, 0, none⟩)]) rfl (enters_of Tryz.func47 (by kernel_rfl) rfl) HSq0 KeepsS.trans (keepsSK_b HA0.out.kp.2) (Below.refl _ _) (fun _ => rfl)
        (fun k W => ∃ ov E, AllB w W2 r4 S ov E W ∧ E.map Prod.fst = (lackL L kn).take k ∧ (k : Int) ≤ most) (fun c k W => c = .ret ∧ most < ((lackL L kn).length : Int) ∧ ∃ sv, RetS w W2 r1 r2 r3 ((lackL L kn).take most.toNat) sv true W)
        (fun k A B row ⟨ov, E, h1, h2, h3⟩ hg hr => ⟨ov, E, h1.grown hg hr, h2, h3⟩) (fun c k A B row ⟨h1, h2, sv, h3⟩ hg hr => ⟨h1, h2, sv, h3.grown hg hr⟩) ⟨_, _, HA0.out, rfl, by omega⟩
        (fun x a' W => ∃ Bx ov, W2.heap.size ≤ Bx ∧ W.heap[Bx]? = some (.cells (chCells x.1 x.2).toArray 38) ∧ Boxed W r4 22 ov ∧ ov.ownBlock ≠ some Bx ∧ a' = { tmps := #[v, .slice ak kn.length ck, .int .i64 most, undef, undef, .pointer (some ⟨w.heap.size, 0, none⟩), .pointer (some ⟨r1, 0, none⟩), .pointer (some ⟨r2, 0, none⟩), .pointer (some ⟨r3, 0, none⟩), .int .i64 0, .pointer (some ⟨r4, 0, none⟩), .pointer (some ⟨Bx, 0, none⟩), .slice ak kn.length ck, .int .i64 0, .int .i64 0, .bool false, undef, .int .i64 most, .bool (decide (most < 1)), v, .pointer (some ⟨lb, 0, none⟩), .slice ak kn.length ck, .func (.func 47) #[] #[.pointer (some ⟨w1.heap.size, 0, none⟩), .pointer (some ⟨w1.heap.size + 1, 0, none⟩)], chV x.1 x.2, undef, undef, undef, undef, undef, undef, undef, undef, undef, undef, undef], defers := [] })
        (fun x a' u A B row ⟨Bx, ov, h1, h2, h3, h4, h5⟩ hg hr => ⟨Bx, ov, h1, row_own h2 hg (fun r e => (hr r e).2), row_own h3 hg (fun r e => (hr r e).2), h4, h5⟩)
        ?assign ?body ?done ?stop
      case assign =>
        rintro l k hk W K ⟨ov, E, hA, hE, hkm⟩ hK
        obtain ⟨⟨ac, ar, sq, ds, kd, nc, nr, pc, pr, fc, fr, nm, vl⟩, a0, c0, e1, _⟩ := lackE_get HL2.out HSrt.out hk
        rw [e1] at hK ⊢
        have hb : Below W.heap.size W (W.alloc (.cells #[.int .i64 ac, .int .i64 ar, .int .i64 sq, .slice a0 ds.length c0, .int .i64 kd, .int .i64 nc, .int .i64 nr, .int .i64 pc, .int .i64 pr, .int .i64 fc, .int .i64 fr, .string nm, .string vl] 38)) := (Below.refl _ _).alloc (Nat.le_refl _) _
        have hfin := fun a' e5 => hK a' (W.alloc (.cells #[.int .i64 ac, .int .i64 ar, .int .i64 sq, .slice a0 ds.length c0, .int .i64 kd, .int .i64 nc, .int .i64 nr, .int .i64 pc, .int .i64 pr, .int .i64 fc, .int .i64 fr, .string nm, .string vl] 38)) (keepsFrom_below hb) (KeepsS.of_below hb (fun j hj => Nat.lt_of_lt_of_le (hA.kp.2 j hj) hA.size)) ⟨ov, E, hA.below hb, hE, hkm⟩ ⟨W.heap.size, ov, hA.size, heap_alloc_new _ _, (hb.block _ hA.box.lt).trans hA.box, fun e => by have := (World.ownsRow.lt hA.own _ e).2; omega, e5⟩
        have HFin : Hid (K { tmps := #[v, .slice ak kn.length ck, .int .i64 most, undef, undef, .pointer (some ⟨w.heap.size, 0, none⟩), .pointer (some ⟨r1, 0, none⟩), .pointer (some ⟨r2, 0, none⟩), .pointer (some ⟨r3, 0, none⟩), .int .i64 0, .pointer (some ⟨r4, 0, none⟩), .pointer (some ⟨W.heap.size, 0, none⟩), .slice ak kn.length ck, .int .i64 0, .int .i64 0, .bool false, undef, .int .i64 most, .bool (decide (most < 1)), v, .pointer (some ⟨lb, 0, none⟩), .slice ak kn.length ck, .func (.func 47) #[] #[.pointer (some ⟨w1.heap.size, 0, none⟩), .pointer (some ⟨w1.heap.size + 1, 0, none⟩)], .agg #[.int .i64 ac, .int .i64 ar, .int .i64 sq, .slice a0 ds.length c0, .int .i64 kd, .int .i64 nc, .int .i64 nr, .int .i64 pc, .int .i64 pr, .int .i64 fc, .int .i64 fr, .string nm, .string vl], undef, undef, undef, undef, undef, undef, undef, undef, undef, undef, undef], defers := [] } (W.alloc (.cells #[.int .i64 ac, .int .i64 ar, .int .i64 sq, .slice a0 ds.length c0, .int .i64 kd, .int .i64 nc, .int .i64 nr, .int .i64 pc, .int .i64 pr, .int .i64 fc, .int .i64 fr, .string nm, .string vl] 38))) := hfin _ rfl
        clear hK hfin hb hA hE
        simp only [encH, chV, chCells]
        gi_wp2
        exact HFin.out
      case body =>
        rintro l k hk a' W hlD ⟨ov, E, hA, hE, hkm⟩ ⟨Bx, ov2, hx1, hx2, hx3, hx4, rfl⟩
        have eov : ov2 = ov := by have := hx3.symm.trans hA.box; injection this with this; injection this with this; injection this with this; injection this
        subst eov
        have hkl2 : k < (lackL L kn).length := by rw [← lackE_length D]; exact hk
        obtain ⟨⟨ac, ar, sq, ds, kd, nc, nr, pc, pr, fc, fr, nm, vl⟩, a0, c0, e1, e2, e3, e4, e5, e6, e7⟩ := lackE_get HL2.out HSrt.out hk
        rw [e1] at hx2
        simp only [e1]
        have hEk : E.length = k := by
          have h1 : E.length = ((lackL L kn).take k).length := by rw [← hE]; simp
          rw [h1, List.length_take]
          omega
        have hEl : E.length ≤ 4096 := by
          have h2 : (lackL L kn).length ≤ L.length := List.length_filter_le _ _
          omega
        obtain ⟨aw, cw, eo⟩ := hA.own.form
        subst eo
        have HA : Hid (AllB w W2 r4 S (.slice aw E.length cw) E W) := hA
        have HFr : Hid (Four w.heap.size r1 r2 r3 most W) := HFr3.out.keep (fun j hj => hA.kp.1.2 j (HSr.out j hj)) HRs.out
        have xb := hA.box.cell
        have xf := hA.box.frozen
        obtain ⟨⟨x0, f0⟩, ⟨x1, f1⟩, ⟨x2, f2⟩, ⟨x3, f3⟩⟩ := HFr.out.cells
        by_cases hq : (E.length : Int) = most
        · have HRt : Hid (RetS w W2 r1 r2 r3 ((lackL L kn).take most.toNat) (.slice aw E.length cw) true (((W.setCell ⟨r1, 0, none⟩ (.slice aw E.length cw)).setCell ⟨r2, 0, none⟩ (.bool true)).setCell ⟨r3, 0, none⟩ (.int .i64 0))) := RetS.of hA HFr.out HRs.out true (by rw [hE]; congr 1; omega)
          have HKf : Hid (KeepsFrom W2.heap.size W (((W.setCell ⟨r1, 0, none⟩ (.slice aw E.length cw)).setCell ⟨r2, 0, none⟩ (.bool true)).setCell ⟨r3, 0, none⟩ (.int .i64 0))) := KeepsFrom.trans (KeepsFrom.trans (keepsFrom_set _ _ _) (keepsFrom_set _ _ _)) (keepsFrom_set _ _ _)
          have hml : most < ((lackL L kn).length : Int) := by omega
          have hq2 : ((E.length : Int) == most) = true := by rw [beq_iff_eq]; exact hq
          clear hA hE hx2 hx3 hx4 e1 e2 e3 e4 e5 e6 e7 hEk hkm
          rw [← hq] at x0
          simp only [chV, chCells]
          gi_wp2
          exact ⟨HKf.out, rfl, hml, _, HRt.out⟩
        · have hq2 : ((E.length : Int) == most) = false := by rw [beq_eq_false_iff_ne]; exact hq
          have HKf : Hid (KF W2.heap.size W W) := keepsFrom_below (Below.refl _ _)
          have HKw : Hid (KeepsG S W W) := ⟨KeepsS.refl _ _, fun j hj => Nat.lt_of_lt_of_le (hA.kp.2 j hj) hA.size⟩
          have HIc : Hid (IsI W (.slice a0 ds.length c0) ds) := OwnI.isI (e2.keepF fun j e => hA.kp.1.2 j (HSF.out j (e5 j e))) e4
          have HBx : Hid (W.drew.heap[Bx]? = some (.cells #[.int .i64 ac, .int .i64 ar, .int .i64 sq, .slice a0 ds.length c0, .int .i64 kd, .int .i64 nc, .int .i64 nr, .int .i64 pc, .int .i64 pr, .int .i64 fc, .int .i64 fr, .string nm, .string vl] 38)) := hx2
          have HNe : Hid ((Value.slice aw E.length cw).ownBlock ≠ some Bx) := hx4
          have HSz : Hid (Sized (⟨ac, ar, sq, ds, kd, nc, nr, pc, pr, fc, fr, nm, vl⟩ : Ch) ∧ ds.length ≤ 17592186044416) := ⟨e3, e4⟩
          have HEm : Hid (E.map Prod.fst = (lackL L kn).take k) := hE
          have HTk : Hid ((lackL L kn).take k ++ [(⟨ac, ar, sq, ds, kd, nc, nr, pc, pr, fc, fr, nm, vl⟩ : Ch)] = (lackL L kn).take (k + 1)) := e6.symm
          have hkm2 : (k : Int) + 1 ≤ most := by omega
          clear e1 e2 e3 e4 e5 e6 e7 hA hE hx2 hx3 hx4 hkm hEk hq HFr
          simp only [chV, chCells]
          gi_wp2
          clear x0 x1 x2 x3 f0 f1 f2 f3 xb xf
          refine region_round_held (S := fun W' => W'.heap[Bx]? = some (.cells #[.int .i64 ac, .int .i64 ar, .int .i64 sq, .slice a0 ds.length c0, .int .i64 kd, .int .i64 nc, .int .i64 nr, .int .i64 pc, .int .i64 pr, .int .i64 fc, .int .i64 fr, .string nm, .string vl] 38)) l (by kernel_rfl) (by kernel_rfl) (lets_block lets_round) HBx.out (fun hHeld => ?_)
          obtain ⟨Ua4u0, eW⟩ : ∃ X, X = W.drew := ⟨_, rfl⟩
          have hb : Below W.heap.size W Ua4u0 := by rw [eW]; exact (Below.refl _ _).drew
          replace HA : Hid (AllB w W2 r4 S (.slice aw E.length cw) E Ua4u0) := HA.out.below hb
          replace HKf : Hid (KF W2.heap.size W Ua4u0) := HKf.out.below hb
          replace HKw : Hid (KeepsG S W Ua4u0) := HKw.out.below hb
          replace HIc : Hid (IsI Ua4u0 (.slice a0 ds.length c0) ds) := HIc.out.below hb
          rw [← eW] at hHeld ⊢
          clear eW hb
          refine tkW 1 (some 30) (v := ?_) ?_ hHeld ?_
          rotate_left
          · (intro w hSw; (try dsimp only at hSw); have hk := hSw; obtain ⟨k_0, k_1, k_2, k_3, k_4, k_5, k_6, k_7, k_8, k_9, k_10, k_11, k_12⟩ := row_cells hk; go_simp; try with_reducible rfl)
          refine wpAnyH_ready (rs := [0, 2]) (by kernel_rfl) (by simp) ?_
          refine AllReadyH.cons (o := ⟨some 29, _, _, _, _, _⟩) rfl (fun K hK => ?_) (AllReadyH.cons (o := ⟨some 31, _, _, _, _, _⟩) rfl (fun K hK => ?_) AllReadyH.nil)
          · have xo := HA.out.box.cell
            go_simp
            refine hK.out _ _ (hHeld) (fun hHeld2 => ?_)
            clear hK K hHeld
            have hHeld := hHeld2
            clear hHeld2
            (try simp only [Act.put, List.setIfInBounds_toArray, List.set_cons_zero, List.set_cons_succ])
            clear xo
            refine wpAnyH_ready (rs := [2]) (by kernel_rfl) (by simp) ?_
            refine AllReadyH.cons (o := ⟨some 31, _, _, _, _, _⟩) rfl (fun K hK => ?_) AllReadyH.nil
            have hWs := HA.out.size
            go_simp
            refine (copyCh_any ac ar sq (.slice a0 ds.length c0) kd nc nr pc pr fc fr nm vl ds _ HIc.out).mono ?_
            rintro e Ua4u2 ⟨v2, rfl, ho, hb⟩
            (try go_wp2_with fail)
            refine hK.out _ _ ((hb.block _ (Array.getElem?_eq_some_iff.1 hHeld).1).trans hHeld) (fun hHeld2 => ?_)
            clear hK K hHeld
            have hHeld := hHeld2
            clear hHeld2
            (try simp only [Act.put, List.setIfInBounds_toArray, List.set_cons_zero, List.set_cons_succ])
            replace HA : Hid (AllB w W2 r4 S (.slice aw E.length cw) E Ua4u2) := HA.out.below hb
            replace HKf : Hid (KF W2.heap.size W Ua4u2) := HKf.out.below hb
            replace HKw : Hid (KeepsG S W Ua4u2) := HKw.out.below hb
            replace HIc : Hid (IsI Ua4u2 (.slice a0 ds.length c0) ds) := HIc.out.below hb
            obtain ⟨a2, c2, e2⟩ := ho.form
            subst e2
            have HO : Hid (OwnI W2.heap.size Ua4u2 (.slice a2 ds.length c2) ds) := ho.low (by omega)
            clear ho hWs
            clear hb
            refine wpAnyH_ready (rs := [3]) (by kernel_rfl) (by simp) ?_
            refine AllReadyH.cons (o := ⟨some 32, _, _, _, _, _⟩) rfl (fun K hK => ?_) AllReadyH.nil
            go_simp
            refine hK.out _ _ ((Below.block ((Below.refl _ Ua4u2).alloc (Nat.le_refl _) _) _ (Array.getElem?_eq_some_iff.1 hHeld).1).trans hHeld) (fun hHeld2 => ?_)
            clear hK K hHeld
            have hHeld := hHeld2
            clear hHeld2
            (try simp only [Act.put, List.setIfInBounds_toArray, List.set_cons_zero, List.set_cons_succ])
            obtain ⟨Ua4u3, eW⟩ : ∃ X, X = Ua4u2.alloc (.cells #[.int .i64 ac, .int .i64 ar, .int .i64 sq, .slice a2 ds.length c2, .int .i64 kd, .int .i64 nc, .int .i64 nr, .int .i64 pc, .int .i64 pr, .int .i64 fc, .int .i64 fr, .string nm, .string vl] 38) := ⟨_, rfl⟩
            have hb : Below Ua4u2.heap.size Ua4u2 Ua4u3 := by rw [eW]; exact (Below.refl _ _).alloc (Nat.le_refl _) _
            replace HA : Hid (AllB w W2 r4 S (.slice aw E.length cw) E Ua4u3) := HA.out.below hb
            replace HKf : Hid (KF W2.heap.size W Ua4u3) := HKf.out.below hb
            replace HKw : Hid (KeepsG S W Ua4u3) := HKw.out.below hb
            replace HIc : Hid (IsI Ua4u3 (.slice a0 ds.length c0) ds) := HIc.out.below hb
            replace HO : Hid (OwnI W2.heap.size Ua4u3 (.slice a2 ds.length c2) ds) := HO.out.below hb
            have HV : Hid (RowHas Ua4u3 Ua4u2.heap.size [.int .i64 ac, .int .i64 ar, .int .i64 sq, .slice a2 ds.length c2, .int .i64 kd, .int .i64 nc, .int .i64 nr, .int .i64 pc, .int .i64 pr, .int .i64 fc, .int .i64 fr, .string nm, .string vl]) := by rw [eW]; exact RowHas.new _ _ _
            rw [← eW] at hHeld ⊢
            clear eW
            obtain ⟨vb, evb⟩ : ∃ vb, vb = Ua4u2.heap.size := ⟨_, rfl⟩
            rw [← evb] at HV ⊢
            clear evb
            clear hb
            refine wpAnyH_ready (rs := [4]) (by kernel_rfl) (by simp) ?_
            refine AllReadyH.cons (o := ⟨some 33, _, _, _, _, _⟩) rfl (fun K hK => ?_) AllReadyH.nil
            refine step_append_lies _ (by rfl) _ _ 22 (by rfl) W2.heap.size 38 i0 (.agg #[.int .i64 0, .int .i64 0, .int .i64 0, .slice none 0 0, .int .i64 0, .int .i64 0, .int .i64 0, .int .i64 0, .int .i64 0, .int .i64 0, .int .i64 0, .string ⟨#[]⟩, .string ⟨#[]⟩]) 13 136 Tryz.underlying22 hi hz0 hz1 hz2 rfl (by decide) (.slice aw E.length cw) E.length (flatH E) (by rfl) HA.out.own ⟨vb, 0, none⟩ 1 1 [.int .i64 ac, .int .i64 ar, .int .i64 sq, .slice a2 ds.length c2, .int .i64 kd, .int .i64 nc, .int .i64 nr, .int .i64 pc, .int .i64 pr, .int .i64 fc, .int .i64 fr, .string nm, .string vl] (by rfl) rfl HV.out.2 (fun x hx => by simp at hx; rcases hx with rfl | rfl | rfl | rfl | rfl | rfl | rfl | rfl | rfl | rfl | rfl | rfl | rfl <;> rfl) (by decide) (by unfold maxLen; omega) (by omega) (HA.out.size) Ua4u3.heap.size rfl ?_
            intro g3 c3 Ua4u4 hown3 hgrow3 hat3 hlt3
            have HP3 : Hid (∀ u, u = Value.slice (some ⟨g3, 0, none⟩) (E.length + 1) c3 → AllB w W2 r4 S u (E ++ [((⟨ac, ar, sq, ds, kd, nc, nr, pc, pr, fc, fr, nm, vl⟩ : Ch), .slice a2 ds.length c2)]) (Ua4u4.setCell ⟨r4, 0, none⟩ u)) := fun u eu => by subst eu; exact HA.out.push hown3 hgrow3 HO.out HSz.out
            have HKf3 : Hid (KF W2.heap.size W Ua4u4) := KeepsFrom.trans HKf.out (keepsFrom_row HA.out.own hgrow3)
            have HKw3 : Hid (KeepsG S W Ua4u4) := HKw.out.row HA.out.own hgrow3 HA.out.kp.2
            have HBX3 : Hid (Boxed Ua4u4 r4 22 (.slice aw E.length cw)) := HA.out.box.kept hgrow3 (fun e => by have := (World.ownsRow.lt HA.out.own _ e.symm).1; have := HA.out.b2; omega)
            have HB0 : Hid (r4 < W2.heap.size ∧ ¬ S r4) := ⟨HA.out.b2, HA.out.b3⟩
            refine hK.out _ _ ((hgrow3.block _ (Array.getElem?_eq_some_iff.1 hHeld).1 (fun e => HNe.out e.symm)).trans hHeld) (fun hHeld2 => ?_)
            clear hK K hHeld
            have hHeld := hHeld2
            clear hHeld2
            (try simp only [Act.put, List.setIfInBounds_toArray, List.set_cons_zero, List.set_cons_succ])
            clear hown3 hgrow3 hat3 hlt3 HA HKf HKw HIc HO HV
            refine wpAnyH_ready (rs := [5]) (by kernel_rfl) (by simp) ?_
            refine AllReadyH.cons (o := ⟨none, _, _, _, _, _⟩) rfl (fun K hK => ?_) AllReadyH.nil
            have xo := HBX3.out.cell
            have xf := HBX3.out.frozen
            go_simp
            refine hK.out _ _ ((RowKit.Below.heap_setCell _ _ _ _ (fun e => by have h1 := HB0.out.1; have e2 : Bx = r4 := e; omega)).trans hHeld) (fun hHeld2 => ?_)
            clear hK K hHeld
            have hHeld := hHeld2
            clear hHeld2
            (try simp only [Act.put, List.setIfInBounds_toArray, List.set_cons_zero, List.set_cons_succ])
            obtain ⟨Ua4u5, eW⟩ : ∃ X, X = Ua4u4.setCell ⟨r4, 0, none⟩ (Value.slice (some ⟨g3, 0, none⟩) (E.length + 1) c3) := ⟨_, rfl⟩
            have HA4 : Hid (AllB w W2 r4 S (Value.slice (some ⟨g3, 0, none⟩) (E.length + 1) c3) (E ++ [((⟨ac, ar, sq, ds, kd, nc, nr, pc, pr, fc, fr, nm, vl⟩ : Ch), .slice a2 ds.length c2)]) Ua4u5) := by rw [eW]; exact HP3.out _ rfl
            have HKf4 : Hid (KF W2.heap.size W Ua4u5) := by rw [eW]; exact KeepsFrom.trans HKf3.out (keepsFrom_set _ _ _)
            have HKw4 : Hid (KeepsG S W Ua4u5) := by rw [eW]; exact HKw3.out.set HB0.out.2
            rw [← eW] at hHeld ⊢
            clear eW xo xf HP3 HKf3 HKw3 HBX3
            refine wpAnyH_done (by kernel_rfl) ?_ _
            clear hHeld
            exact ⟨HKf4.out, HKw4.out.1, _, _, HA4.out, by rw [List.map_append, HEm.out]; exact HTk.out, by omega⟩
          · have hWs := HA.out.size
            go_simp
            refine (copyCh_any ac ar sq (.slice a0 ds.length c0) kd nc nr pc pr fc fr nm vl ds _ HIc.out).mono ?_
            rintro e Ua4u6 ⟨v2, rfl, ho, hb⟩
            (try go_wp2_with fail)
            refine hK.out _ _ ((hb.block _ (Array.getElem?_eq_some_iff.1 hHeld).1).trans hHeld) (fun hHeld2 => ?_)
            clear hK K hHeld
            have hHeld := hHeld2
            clear hHeld2
            (try simp only [Act.put, List.setIfInBounds_toArray, List.set_cons_zero, List.set_cons_succ])
            replace HA : Hid (AllB w W2 r4 S (.slice aw E.length cw) E Ua4u6) := HA.out.below hb
            replace HKf : Hid (KF W2.heap.size W Ua4u6) := HKf.out.below hb
            replace HKw : Hid (KeepsG S W Ua4u6) := HKw.out.below hb
            replace HIc : Hid (IsI Ua4u6 (.slice a0 ds.length c0) ds) := HIc.out.below hb
            obtain ⟨a2, c2, e2⟩ := ho.form
            subst e2
            have HO : Hid (OwnI W2.heap.size Ua4u6 (.slice a2 ds.length c2) ds) := ho.low (by omega)
            clear ho hWs
            clear hb
            refine wpAnyH_ready (rs := [0, 3]) (by kernel_rfl) (by simp) ?_
            refine AllReadyH.cons (o := ⟨some 29, _, _, _, _, _⟩) rfl (fun K hK => ?_) (AllReadyH.cons (o := ⟨some 32, _, _, _, _, _⟩) rfl (fun K hK => ?_) AllReadyH.nil)
            · have xo := HA.out.box.cell
              go_simp
              refine hK.out _ _ (hHeld) (fun hHeld2 => ?_)
              clear hK K hHeld
              have hHeld := hHeld2
              clear hHeld2
              (try simp only [Act.put, List.setIfInBounds_toArray, List.set_cons_zero, List.set_cons_succ])
              clear xo
              refine wpAnyH_ready (rs := [3]) (by kernel_rfl) (by simp) ?_
              refine AllReadyH.cons (o := ⟨some 32, _, _, _, _, _⟩) rfl (fun K hK => ?_) AllReadyH.nil
              go_simp
              refine hK.out _ _ ((Below.block ((Below.refl _ Ua4u6).alloc (Nat.le_refl _) _) _ (Array.getElem?_eq_some_iff.1 hHeld).1).trans hHeld) (fun hHeld2 => ?_)
              clear hK K hHeld
              have hHeld := hHeld2
              clear hHeld2
              (try simp only [Act.put, List.setIfInBounds_toArray, List.set_cons_zero, List.set_cons_succ])
              obtain ⟨Ua4u8, eW⟩ : ∃ X, X = Ua4u6.alloc (.cells #[.int .i64 ac, .int .i64 ar, .int .i64 sq, .slice a2 ds.length c2, .int .i64 kd, .int .i64 nc, .int .i64 nr, .int .i64 pc, .int .i64 pr, .int .i64 fc, .int .i64 fr, .string nm, .string vl] 38) := ⟨_, rfl⟩
              have hb : Below Ua4u6.heap.size Ua4u6 Ua4u8 := by rw [eW]; exact (Below.refl _ _).alloc (Nat.le_refl _) _
              replace HA : Hid (AllB w W2 r4 S (.slice aw E.length cw) E Ua4u8) := HA.out.below hb
              replace HKf : Hid (KF W2.heap.size W Ua4u8) := HKf.out.below hb
              replace HKw : Hid (KeepsG S W Ua4u8) := HKw.out.below hb
              replace HIc : Hid (IsI Ua4u8 (.slice a0 ds.length c0) ds) := HIc.out.below hb
              replace HO : Hid (OwnI W2.heap.size Ua4u8 (.slice a2 ds.length c2) ds) := HO.out.below hb
              have HV : Hid (RowHas Ua4u8 Ua4u6.heap.size [.int .i64 ac, .int .i64 ar, .int .i64 sq, .slice a2 ds.length c2, .int .i64 kd, .int .i64 nc, .int .i64 nr, .int .i64 pc, .int .i64 pr, .int .i64 fc, .int .i64 fr, .string nm, .string vl]) := by rw [eW]; exact RowHas.new _ _ _
              rw [← eW] at hHeld ⊢
              clear eW
              obtain ⟨vb, evb⟩ : ∃ vb, vb = Ua4u6.heap.size := ⟨_, rfl⟩
              rw [← evb] at HV ⊢
              clear evb
              clear hb
              refine wpAnyH_ready (rs := [4]) (by kernel_rfl) (by simp) ?_
              refine AllReadyH.cons (o := ⟨some 33, _, _, _, _, _⟩) rfl (fun K hK => ?_) AllReadyH.nil
              refine step_append_lies _ (by rfl) _ _ 22 (by rfl) W2.heap.size 38 i0 (.agg #[.int .i64 0, .int .i64 0, .int .i64 0, .slice none 0 0, .int .i64 0, .int .i64 0, .int .i64 0, .int .i64 0, .int .i64 0, .int .i64 0, .int .i64 0, .string ⟨#[]⟩, .string ⟨#[]⟩]) 13 136 Tryz.underlying22 hi hz0 hz1 hz2 rfl (by decide) (.slice aw E.length cw) E.length (flatH E) (by rfl) HA.out.own ⟨vb, 0, none⟩ 1 1 [.int .i64 ac, .int .i64 ar, .int .i64 sq, .slice a2 ds.length c2, .int .i64 kd, .int .i64 nc, .int .i64 nr, .int .i64 pc, .int .i64 pr, .int .i64 fc, .int .i64 fr, .string nm, .string vl] (by rfl) rfl HV.out.2 (fun x hx => by simp at hx; rcases hx with rfl | rfl | rfl | rfl | rfl | rfl | rfl | rfl | rfl | rfl | rfl | rfl | rfl <;> rfl) (by decide) (by unfold maxLen; omega) (by omega) (HA.out.size) Ua4u8.heap.size rfl ?_
              intro g3 c3 Ua4u9 hown3 hgrow3 hat3 hlt3
              have HP3 : Hid (∀ u, u = Value.slice (some ⟨g3, 0, none⟩) (E.length + 1) c3 → AllB w W2 r4 S u (E ++ [((⟨ac, ar, sq, ds, kd, nc, nr, pc, pr, fc, fr, nm, vl⟩ : Ch), .slice a2 ds.length c2)]) (Ua4u9.setCell ⟨r4, 0, none⟩ u)) := fun u eu => by subst eu; exact HA.out.push hown3 hgrow3 HO.out HSz.out
              have HKf3 : Hid (KF W2.heap.size W Ua4u9) := KeepsFrom.trans HKf.out (keepsFrom_row HA.out.own hgrow3)
              have HKw3 : Hid (KeepsG S W Ua4u9) := HKw.out.row HA.out.own hgrow3 HA.out.kp.2
              have HBX3 : Hid (Boxed Ua4u9 r4 22 (.slice aw E.length cw)) := HA.out.box.kept hgrow3 (fun e => by have := (World.ownsRow.lt HA.out.own _ e.symm).1; have := HA.out.b2; omega)
              have HB0 : Hid (r4 < W2.heap.size ∧ ¬ S r4) := ⟨HA.out.b2, HA.out.b3⟩
              refine hK.out _ _ ((hgrow3.block _ (Array.getElem?_eq_some_iff.1 hHeld).1 (fun e => HNe.out e.symm)).trans hHeld) (fun hHeld2 => ?_)
              clear hK K hHeld
              have hHeld := hHeld2
              clear hHeld2
              (try simp only [Act.put, List.setIfInBounds_toArray, List.set_cons_zero, List.set_cons_succ])
              clear hown3 hgrow3 hat3 hlt3 HA HKf HKw HIc HO HV
              refine wpAnyH_ready (rs := [5]) (by kernel_rfl) (by simp) ?_
              refine AllReadyH.cons (o := ⟨none, _, _, _, _, _⟩) rfl (fun K hK => ?_) AllReadyH.nil
              have xo := HBX3.out.cell
              have xf := HBX3.out.frozen
              go_simp
              refine hK.out _ _ ((RowKit.Below.heap_setCell _ _ _ _ (fun e => by have h1 := HB0.out.1; have e2 : Bx = r4 := e; omega)).trans hHeld) (fun hHeld2 => ?_)
              clear hK K hHeld
              have hHeld := hHeld2
              clear hHeld2
              (try simp only [Act.put, List.setIfInBounds_toArray, List.set_cons_zero, List.set_cons_succ])
              obtain ⟨Ua4u10, eW⟩ : ∃ X, X = Ua4u9.setCell ⟨r4, 0, none⟩ (Value.slice (some ⟨g3, 0, none⟩) (E.length + 1) c3) := ⟨_, rfl⟩
              have HA4 : Hid (AllB w W2 r4 S (Value.slice (some ⟨g3, 0, none⟩) (E.length + 1) c3) (E ++ [((⟨ac, ar, sq, ds, kd, nc, nr, pc, pr, fc, fr, nm, vl⟩ : Ch), .slice a2 ds.length c2)]) Ua4u10) := by rw [eW]; exact HP3.out _ rfl
              have HKf4 : Hid (KF W2.heap.size W Ua4u10) := by rw [eW]; exact KeepsFrom.trans HKf3.out (keepsFrom_set _ _ _)
              have HKw4 : Hid (KeepsG S W Ua4u10) := by rw [eW]; exact HKw3.out.set HB0.out.2
              rw [← eW] at hHeld ⊢
              clear eW xo xf HP3 HKf3 HKw3 HBX3
              refine wpAnyH_done (by kernel_rfl) ?_ _
              clear hHeld
              exact ⟨HKf4.out, HKw4.out.1, _, _, HA4.out, by rw [List.map_append, HEm.out]; exact HTk.out, by omega⟩
            · go_simp
              refine hK.out _ _ ((Below.block ((Below.refl _ Ua4u6).alloc (Nat.le_refl _) _) _ (Array.getElem?_eq_some_iff.1 hHeld).1).trans hHeld) (fun hHeld2 => ?_)
              clear hK K hHeld
              have hHeld := hHeld2
              clear hHeld2
              (try simp only [Act.put, List.setIfInBounds_toArray, List.set_cons_zero, List.set_cons_succ])
              obtain ⟨Ua4u11, eW⟩ : ∃ X, X = Ua4u6.alloc (.cells #[.int .i64 ac, .int .i64 ar, .int .i64 sq, .slice a2 ds.length c2, .int .i64 kd, .int .i64 nc, .int .i64 nr, .int .i64 pc, .int .i64 pr, .int .i64 fc, .int .i64 fr, .string nm, .string vl] 38) := ⟨_, rfl⟩
              have hb : Below Ua4u6.heap.size Ua4u6 Ua4u11 := by rw [eW]; exact (Below.refl _ _).alloc (Nat.le_refl _) _
              replace HA : Hid (AllB w W2 r4 S (.slice aw E.length cw) E Ua4u11) := HA.out.below hb
              replace HKf : Hid (KF W2.heap.size W Ua4u11) := HKf.out.below hb
              replace HKw : Hid (KeepsG S W Ua4u11) := HKw.out.below hb
              replace HIc : Hid (IsI Ua4u11 (.slice a0 ds.length c0) ds) := HIc.out.below hb
              replace HO : Hid (OwnI W2.heap.size Ua4u11 (.slice a2 ds.length c2) ds) := HO.out.below hb
              have HV : Hid (RowHas Ua4u11 Ua4u6.heap.size [.int .i64 ac, .int .i64 ar, .int .i64 sq, .slice a2 ds.length c2, .int .i64 kd, .int .i64 nc, .int .i64 nr, .int .i64 pc, .int .i64 pr, .int .i64 fc, .int .i64 fr, .string nm, .string vl]) := by rw [eW]; exact RowHas.new _ _ _
              rw [← eW] at hHeld ⊢
              clear eW
              obtain ⟨vb, evb⟩ : ∃ vb, vb = Ua4u6.heap.size := ⟨_, rfl⟩
              rw [← evb] at HV ⊢
              clear evb
              clear hb
              refine wpAnyH_ready (rs := [0]) (by kernel_rfl) (by simp) ?_
              refine AllReadyH.cons (o := ⟨some 29, _, _, _, _, _⟩) rfl (fun K hK => ?_) AllReadyH.nil
              have xo := HA.out.box.cell
              go_simp
              refine hK.out _ _ (hHeld) (fun hHeld2 => ?_)
              clear hK K hHeld
              have hHeld := hHeld2
              clear hHeld2
              (try simp only [Act.put, List.setIfInBounds_toArray, List.set_cons_zero, List.set_cons_succ])
              clear xo
              refine wpAnyH_ready (rs := [4]) (by kernel_rfl) (by simp) ?_
              refine AllReadyH.cons (o := ⟨some 33, _, _, _, _, _⟩) rfl (fun K hK => ?_) AllReadyH.nil
              refine step_append_lies _ (by rfl) _ _ 22 (by rfl) W2.heap.size 38 i0 (.agg #[.int .i64 0, .int .i64 0, .int .i64 0, .slice none 0 0, .int .i64 0, .int .i64 0, .int .i64 0, .int .i64 0, .int .i64 0, .int .i64 0, .int .i64 0, .string ⟨#[]⟩, .string ⟨#[]⟩]) 13 136 Tryz.underlying22 hi hz0 hz1 hz2 rfl (by decide) (.slice aw E.length cw) E.length (flatH E) (by rfl) HA.out.own ⟨vb, 0, none⟩ 1 1 [.int .i64 ac, .int .i64 ar, .int .i64 sq, .slice a2 ds.length c2, .int .i64 kd, .int .i64 nc, .int .i64 nr, .int .i64 pc, .int .i64 pr, .int .i64 fc, .int .i64 fr, .string nm, .string vl] (by rfl) rfl HV.out.2 (fun x hx => by simp at hx; rcases hx with rfl | rfl | rfl | rfl | rfl | rfl | rfl | rfl | rfl | rfl | rfl | rfl | rfl <;> rfl) (by decide) (by unfold maxLen; omega) (by omega) (HA.out.size) Ua4u11.heap.size rfl ?_
              intro g3 c3 Ua4u13 hown3 hgrow3 hat3 hlt3
              have HP3 : Hid (∀ u, u = Value.slice (some ⟨g3, 0, none⟩) (E.length + 1) c3 → AllB w W2 r4 S u (E ++ [((⟨ac, ar, sq, ds, kd, nc, nr, pc, pr, fc, fr, nm, vl⟩ : Ch), .slice a2 ds.length c2)]) (Ua4u13.setCell ⟨r4, 0, none⟩ u)) := fun u eu => by subst eu; exact HA.out.push hown3 hgrow3 HO.out HSz.out
              have HKf3 : Hid (KF W2.heap.size W Ua4u13) := KeepsFrom.trans HKf.out (keepsFrom_row HA.out.own hgrow3)
              have HKw3 : Hid (KeepsG S W Ua4u13) := HKw.out.row HA.out.own hgrow3 HA.out.kp.2
              have HBX3 : Hid (Boxed Ua4u13 r4 22 (.slice aw E.length cw)) := HA.out.box.kept hgrow3 (fun e => by have := (World.ownsRow.lt HA.out.own _ e.symm).1; have := HA.out.b2; omega)
              have HB0 : Hid (r4 < W2.heap.size ∧ ¬ S r4) := ⟨HA.out.b2, HA.out.b3⟩
              refine hK.out _ _ ((hgrow3.block _ (Array.getElem?_eq_some_iff.1 hHeld).1 (fun e => HNe.out e.symm)).trans hHeld) (fun hHeld2 => ?_)
              clear hK K hHeld
              have hHeld := hHeld2
              clear hHeld2
              (try simp only [Act.put, List.setIfInBounds_toArray, List.set_cons_zero, List.set_cons_succ])
              clear hown3 hgrow3 hat3 hlt3 HA HKf HKw HIc HO HV
              refine wpAnyH_ready (rs := [5]) (by kernel_rfl) (by simp) ?_
              refine AllReadyH.cons (o := ⟨none, _, _, _, _, _⟩) rfl (fun K hK => ?_) AllReadyH.nil
              have xo := HBX3.out.cell
              have xf := HBX3.out.frozen
              go_simp
              refine hK.out _ _ ((RowKit.Below.heap_setCell _ _ _ _ (fun e => by have h1 := HB0.out.1; have e2 : Bx = r4 := e; omega)).trans hHeld) (fun hHeld2 => ?_)
              clear hK K hHeld
              have hHeld := hHeld2
              clear hHeld2
              (try simp only [Act.put, List.setIfInBounds_toArray, List.set_cons_zero, List.set_cons_succ])
              obtain ⟨Ua4u14, eW⟩ : ∃ X, X = Ua4u13.setCell ⟨r4, 0, none⟩ (Value.slice (some ⟨g3, 0, none⟩) (E.length + 1) c3) := ⟨_, rfl⟩
              have HA4 : Hid (AllB w W2 r4 S (Value.slice (some ⟨g3, 0, none⟩) (E.length + 1) c3) (E ++ [((⟨ac, ar, sq, ds, kd, nc, nr, pc, pr, fc, fr, nm, vl⟩ : Ch), .slice a2 ds.length c2)]) Ua4u14) := by rw [eW]; exact HP3.out _ rfl
              have HKf4 : Hid (KF W2.heap.size W Ua4u14) := by rw [eW]; exact KeepsFrom.trans HKf3.out (keepsFrom_set _ _ _)
              have HKw4 : Hid (KeepsG S W Ua4u14) := by rw [eW]; exact HKw3.out.set HB0.out.2
              rw [← eW] at hHeld ⊢
              clear eW xo xf HP3 HKf3 HKw3 HBX3
              refine wpAnyH_done (by kernel_rfl) ?_ _
              clear hHeld
              exact ⟨HKf4.out, HKw4.out.1, _, _, HA4.out, by rw [List.map_append, HEm.out]; exact HTk.out, by omega⟩
      case done =>
        rintro Dd W hDd ⟨ov, E, hA, hE, hkm⟩ hDf
        have HFr : Hid (Four w.heap.size r1 r2 r3 most W) := HFr3.out.keep (fun j hj => hA.kp.1.2 j (HSr.out j hj)) HRs.out
        have hll2 : ((lackL L kn).length : Int) ≤ most := by rw [← lackE_length D]; exact hkm
        have hE2 : E.map Prod.fst = (lackL L kn).take most.toNat := by rw [hE, lackE_length, List.take_length, List.take_of_length_le (by omega)]
        obtain ⟨aw, cw, eo⟩ := hA.own.form
        subst eo
        have HRt : Hid (RetS w W2 r1 r2 r3 ((lackL L kn).take most.toNat) (.slice aw E.length cw) false (((W.setCell ⟨r1, 0, none⟩ (.slice aw E.length cw)).setCell ⟨r2, 0, none⟩ (.bool false)).setCell ⟨r3, 0, none⟩ (.int .i64 0))) := RetS.of hA HFr.out HRs.out false hE2
        have HSq2 : Hid (sinceR L kn most = ((lackL L kn).take most.toNat, false, 0)) := by
          have h := HSq.out
          rw [decide_eq_false (by omega)] at h
          exact h
        have HDf : Hid ((((W.setCell ⟨r1, 0, none⟩ (.slice aw E.length cw)).setCell ⟨r2, 0, none⟩ (.bool false)).setCell ⟨r3, 0, none⟩ (.int .i64 0)).heap[Dd]? = some (.deferred (some []))) := ((RowKit.Below.heap_setCell _ _ _ _ (by show Dd ≠ r3; have := HRs.out; omega)).trans ((RowKit.Below.heap_setCell _ _ _ _ (by show Dd ≠ r2; have := HRs.out; omega)).trans (RowKit.Below.heap_setCell _ _ _ _ (by show Dd ≠ r1; have := HRs.out; omega)))).trans hDf
        have xb := hA.box.cell
        obtain ⟨⟨x0, f0⟩, ⟨x1, f1⟩, ⟨x2, f2⟩, ⟨x3, f3⟩⟩ := HFr.out.cells
        clear hA hE hE2 hDf
        gi_wp2
        refine ⟨by simp, .inl ⟨_, _, rfl, run_takeDeferred HDf.out, ?_⟩⟩
        obtain ⟨E2, q1, q2, q3, q4, q5, q6, q7, q8⟩ := HRt.out.grown (grownBy_putObj' _ Dd (.deferred none)) (fun r e => by cases e; exact ⟨hDd, _, HDf.out, rfl⟩)
        refine ⟨_, results_since rfl _ r1 r2 r3 _ aw E.length cw false 0 rfl rfl rfl q5.cell q6.cell q7.cell, .slice aw E.length cw, E2, by rw [HSq2.out], by rw [HSq2.out]; exact q1, ownsRow_low q2 q8, fun x hx => ⟨(q3 x hx).1.low q8, (q3 x hx).2⟩, q4⟩
      case stop =>
        rintro Dd c k W hDd hk ⟨rfl, hml, sv, hR⟩ hDf
        have HDf : Hid (W.heap[Dd]? = some (.deferred (some []))) := hDf
        have HRt : Hid (RetS w W2 r1 r2 r3 ((lackL L kn).take most.toNat) sv true W) := hR
        have HSq2 : Hid (sinceR L kn most = ((lackL L kn).take most.toNat, true, 0)) := by
          have h := HSq.out
          rw [decide_eq_true hml] at h
          exact h
        clear hDf hR
        gi_wp2
        refine ⟨by simp, .inl ⟨_, _, rfl, run_takeDeferred HDf.out, ?_⟩⟩
        obtain ⟨E2, q1, q2, q3, q4, q5, q6, q7, q8⟩ := HRt.out.grown (grownBy_putObj' _ Dd (.deferred none)) (fun r e => by cases e; exact ⟨hDd, _, HDf.out, rfl⟩)
        obtain ⟨aw, cw, eo⟩ := q2.form
        subst eo
        refine ⟨_, results_since rfl _ r1 r2 r3 _ aw E2.length cw true 0 rfl rfl rfl q5.cell q6.cell q7.cell, .slice aw E2.length cw, E2, by rw [HSq2.out], by rw [HSq2.out]; exact q1, ownsRow_low q2 q8, fun x hx => ⟨(q3 x hx).1.low q8, (q3 x hx).2⟩, q4⟩
  · have HS3 := set3 HFr.out HRs.out (.slice none 0 0) (.bool false) (.int .i64 (checkL kn)) HB0.out
    have HSq : Hid (sinceR L kn most = ([], false, checkL kn)) := by rw [HDf.out, if_pos hc]; rfl
    have HS4 : Hid _ := HS3
    clear HS3 HDf
    generalize checkL kn = cc at *
    have hq : (cc == 0) = false := by rw [beq_eq_false_iff_ne]; exact hc
    have hq2 : (cc != 0) = true := by rw [bne_iff_ne]; exact hc
    gi_wp2
    obtain ⟨c1, c2, c3, hbl⟩ := HS4.out
    refine ⟨_, results_since rfl _ r1 r2 r3 _ none 0 0 false cc rfl rfl rfl c1.cell c2.cell c3.cell, .slice none 0 0, [], by rw [HSq.out], by rw [HSq.out]; rfl, OwnH.nil0 _ _, fun x hx => by simp at hx, hbl⟩

end Go.Proofs.YtngldpabfpcaiaaGreat

namespace Go.Proofs.YtngldpabfpcaiaaGreat
set_option linter.unusedVariables false

theorem root_right0 {c r : Int} (h : rootB c r = true) (h2 : rightB c r = true) : False := by
  simp only [rootB, rightB, decide_eq_true_eq] at h h2; omega
theorem ahead_less0 {c r c2 r2 : Int} (h : aheadB c r c2 r2 = true) : lessS c r c2 r2 = true := by
  unfold aheadB at h
  simp only [Bool.and_eq_true] at h
  exact h.2
/-- What a right change names is ahead of it. -/
theorem names_ahead0 (c : Ch) (h : checkCh c = 0) (x : Int × Int) (hx : x ∈ namesL c) : lessS x.1 x.2 c.ac c.ar = true := by
  obtain ⟨_, _, _, _, h5, h6, _, _⟩ := checkCh_ok c h
  simp only [namesL, List.mem_filter, List.mem_cons, List.not_mem_nil, or_false, namB2, Bool.and_eq_true, Bool.not_eq_true', decide_eq_false_iff_not] at hx
  obtain ⟨hx, hr, hne⟩ := hx
  unfold nodeR at h5
  unfold placeR at h6
  rcases hx with rfl | rfl | rfl
  · split at h5
    · simp only [decide_eq_true_eq] at h5; exact absurd h5 hne
    · split at h5
      · exact ahead_less0 h5
      · rcases Bool.or_eq_true _ _ ▸ h5 with h' | h'
        · exact (root_right0 h' hr).elim
        · exact ahead_less0 h'
  · split at h6
    · simp only [Bool.and_eq_true] at h6; exact h6.1.2.1
    · simp only [Bool.and_eq_true] at h6; exact (root_right0 h6.1 hr).elim
  · split at h6
    · simp only [Bool.and_eq_true, Bool.or_eq_true] at h6
      rcases h6.2 with h' | h'
      · exact (root_right0 h' hr).elim
      · exact ahead_less0 h'
    · simp only [Bool.and_eq_true] at h6; exact (root_right0 h6.2 hr).elim

theorem srt_take {L : List Ch} (h : Srt L) (i : Nat) : Srt (L.take i) := List.Pairwise.sublist (List.take_sublist _ _) h
/-- What is ahead of one that stands there stands ahead of it. -/
theorem srt_pre {L : List Ch} (h : Srt L) {i : Nat} {x c : Ch} (hc : c ∈ L.take i) (hx : x ∈ L) (hl : ltB x c = true) : x ∈ L.take i := by
  obtain ⟨k, hk, ek⟩ := List.getElem_of_mem hc
  obtain ⟨j, hj, ej⟩ := List.getElem_of_mem hx
  rw [List.length_take] at hk
  rw [List.getElem_take] at ek
  have hjk : j < k := by
    rcases Nat.lt_trichotomy j k with h' | h' | h'
    · exact h'
    · subst h'
      rw [ej] at ek
      subst ek
      rw [ltB_irr] at hl; cases hl
    · have := srt_get h (by omega : k < L.length) hj h'
      rw [ek, ej] at this
      rw [ltB_no this] at hl; cases hl
  rw [← ej, ← List.getElem_take (h := by rw [List.length_take]; omega) (j := i)]
  exact List.getElem_mem _
theorem srt_pre2 {L : List Ch} (h : Srt L) {i : Nat} (hi : i < L.length) {x : Ch} (hx : x ∈ L) (hl : ltB x L[i] = true) : x ∈ L.take i := by
  obtain ⟨j, hj, ej⟩ := List.getElem_of_mem hx
  have hjk : j < i := by
    rcases Nat.lt_trichotomy j i with h' | h' | h'
    · exact h'
    · subst h'
      rw [← ej, ltB_irr] at hl; cases hl
    · have := srt_get h hi hj h'
      rw [ej] at this
      rw [ltB_no this] at hl; cases hl
  rw [← ej, ← List.getElem_take (h := by rw [List.length_take]; omega) (j := i)]
  exact List.getElem_mem _
theorem ofR_pre (L : List Ch) (i : Nat) (r : Int) : ofR (L.take i) r <+: ofR L r := by
  have := List.IsPrefix.filter (fun c : Ch => decide (c.ar = r)) (List.take_prefix i L)
  exact this
theorem Good.take {L : List Ch} (g : Good L) (i : Nat) : Good (L.take i) := by
  have hm : ∀ x, x ∈ L.take i → x ∈ L := fun x hx => List.mem_of_mem_take hx
  refine ⟨srt_take g.srt i, fun c hc => g.chk c (hm c hc), ?_, ?_, ?_⟩
  · intro r k hk
    have hp := ofR_pre L i r
    have h2 := hp.length_le
    have := hp.getElem hk
    rw [this]
    exact g.seq r k (by omega)
  · intro c hc r hr
    obtain ⟨d, hd, h1, h2, h3⟩ := g.dep c (hm c hc) r hr
    exact ⟨d, srt_pre g.srt hc hd h3, h1, h2, h3⟩
  · intro c hc s hs
    obtain ⟨d, hd, h1, h2, h3⟩ := g.nam c (hm c hc) s hs
    have := names_ahead0 c (g.chk c (hm c hc)) s hs
    rw [← h1, ← h2] at this
    exact ⟨d, srt_pre g.srt hc hd this, h1, h2, h3⟩
theorem Good.under {L : List Ch} (g : Good L) {c : Ch} (h : checkCh c = 0) (hd : ∀ r : Nat, 0 < c.deps.getD r 0 → ∃ d ∈ L, d.ar = (r : Int) ∧ d.seq = c.deps.getD r 0) : underB c.deps (clockL L) = true := by
  rw [underB_iff]
  intro r hr
  have ho := (deps_len h).1
  rw [clockL_getD, if_pos (by omega)]
  by_cases h0 : 0 < c.deps.getD r 0
  · obtain ⟨d, hd, h1, h2⟩ := hd r h0
    have := g.le hd
    rw [h1, h2] at this
    exact this.2
  · omega
theorem Good.closed {L : List Ch} (g : Good L) {i : Nat} (hi : i < L.length) : underB L[i].deps (clockL (L.take i)) = true ∧ atL (clockL (L.take i)) L[i].ar = L[i].seq - 1 ∧ ∀ s ∈ namesL L[i], (getL (L.take i) s.1 s.2).isSome = true := by
  have hm : L[i] ∈ L := List.getElem_mem hi
  have gp := g.take i
  refine ⟨?_, ?_, ?_⟩
  · refine gp.under (g.chk _ hm) fun r hr => ?_
    obtain ⟨d, hd, h1, h2, h3⟩ := g.dep _ hm r hr
    exact ⟨d, srt_pre2 g.srt hi hd h3, h1, h2⟩
  · obtain ⟨_, _, h2, h3, _⟩ := g.right hm
    rw [clockL_at _ h2 h3]
    have e : L.take (i + 1) = L.take i ++ [L[i]] := List.take_succ_eq_append_getElem hi
    have e2 : ofR (L.take (i + 1)) L[i].ar = ofR (L.take i) L[i].ar ++ [L[i]] := by
      rw [e]
      unfold ofR
      rw [List.filter_append]
      simp
    have := (g.take (i + 1)).seq L[i].ar (ofR (L.take i) L[i].ar).length (by rw [e2]; simp)
    simp only [e2] at this
    rw [List.getElem_append_right (Nat.le_refl _)] at this
    simp only [Nat.sub_self, List.getElem_singleton] at this
    unfold cntR
    omega
  · intro s hs
    obtain ⟨d, hd, h1, h2, h3⟩ := g.nam _ hm s hs
    have := names_ahead0 _ (g.chk _ hm) s hs
    rw [← h1, ← h2] at this
    have hp := srt_pre2 g.srt hi hd this
    rw [(getL_some gp.srt).2 ⟨hp, h1, h2⟩]
    rfl

/-- A log whose changes are another one's. -/
theorem part_why {Y Z : List Ch} (gy : Good Y) (gz : Good Z) (hs : ∀ x ∈ Z, x ∈ Y) {c : Ch} (hc : c ∈ Y) (hn : c ∉ Z) {room : Int} (hr : (Z.length : Int) < room) : whyR Z room c = if underB c.deps (clockL Z) = true then 0 else 4 := by
  have h0 := gy.chk c hc
  obtain ⟨_, _, h2, h3, h4, _⟩ := right_of h0
  have e1 : getL Z c.ac c.ar = none := getL_none.2 fun d hd e => hn (by rw [← srt_inj gy.srt (hs d hd) hc e]; exact hd)
  have hcnt : ¬ c.seq ≤ cntR Z c.ar := fun h => by
    obtain ⟨d, hd, e2, e3⟩ := gz.nth h4 h
    exact hn (by rw [← gy.inj (hs d hd) hc e2 e3]; exact hd)
  unfold whyR
  rw [if_neg (Decidable.not_not.2 h0), e1]
  simp only
  have q7 : ¬ (ownC Z c.ar c.seq).isSome = true := by rw [gz.own_is, decide_eq_true_eq]; omega
  rw [if_neg q7]
  cases hu : underB c.deps (clockL Z) with
  | false =>
    have q6 : c.seq ≠ atL (clockL Z) c.ar + 1 ∨ false = false := .inr rfl
    rw [if_pos q6]; rfl
  | true =>
    have hd : hasDepsB Z c = true := by rw [hasDeps_under h0]; exact hu
    have hq := hasDeps_seq h0 hcnt hd
    have q4 : ¬ (c.seq ≠ atL (clockL Z) c.ar + 1 ∨ true = false) := by rw [clockL_at Z h2 h3]; simp only [Bool.true_eq_false, or_false]; omega
    rw [if_neg q4]
    have hall : ∀ d ∈ Y, d.seq ≤ atL c.deps d.ar → d ∈ Z := fun d hd2 hle => by
      obtain ⟨_, _, r1, r2, r3, _⟩ := gy.right hd2
      obtain ⟨k, hk⟩ := Int.eq_ofNat_of_zero_le r1
      rw [hk, atL_nat] at hle
      have hkl : k < c.deps.length := by
        rcases Nat.lt_or_ge k c.deps.length with h' | h'
        · exact h'
        · rw [getD_out h'] at hle; omega
      have := hasDepsB_iff.1 hd k hkl
      obtain ⟨e, he, e2, e3⟩ := gz.nth (r := (k : Int)) (s := d.seq) r3 (by omega)
      rw [← gy.inj (hs e he) hd2 (by omega) e3]
      exact he
    have hb : behindR Z c = true := by
      unfold behindR
      simp only [Bool.and_eq_true, List.all_eq_true, List.mem_range]
      refine ⟨fun r hr => ?_, fun s hs2 => ?_⟩
      · unfold depsR
        by_cases h00 : c.deps.getD r 0 = 0
        · rw [decide_eq_true h00]; rfl
        · have hpos : 0 < c.deps.getD r 0 := by have := ((deps_len h0).getD r).1; omega
          obtain ⟨d, hd2, e2, e3, e4⟩ := gy.dep c hc r hpos
          have hdz : d ∈ Z := hall d hd2 (by rw [e2, atL_nat, e3]; omega)
          rw [gz.own_iff.2 ⟨hdz, e2, e3⟩]
          simp only [e4, Bool.or_true]
      · obtain ⟨d, hd2, e2, e3, e4⟩ := gy.nam c hc s hs2
        have hdz : d ∈ Z := hall d hd2 e4
        unfold namsR
        rw [(getL_some gz.srt).2 ⟨hdz, e2, e3⟩]
        exact decide_eq_true e4
    rw [hb]
    have q8 : ¬ room ≤ (Z.length : Int) := by omega
    rw [if_neg (by decide), if_neg q8]; rfl
theorem part_free {Y Z : List Ch} (gy : Good Y) (gz : Good Z) {c : Ch} (hc : c ∈ Y) (hb : ∀ x ∈ Y, ltB x c = true → x ∈ Z) : underB c.deps (clockL Z) = true :=
  gz.under (gy.chk c hc) fun r hr => by
    obtain ⟨d, hd, h1, h2, h3⟩ := gy.dep c hc r hr
    exact ⟨d, hb d hd h3, h1, h2⟩
theorem part_twice {Z : List Ch} (gz : Good Z) {c : Ch} (h : c ∈ Z) (room : Int) : whyR Z room c = 5 := by
  unfold whyR
  rw [if_neg (Decidable.not_not.2 (gz.chk c h)), (getL_some gz.srt).2 ⟨h, rfl, rfl⟩]
  simp only
  rw [sameB_self, if_pos rfl]

/-- Less changes are in a shorter list. -/
theorem srt_sub {Z W : List Ch} (hz : Srt Z) (hw : Srt W) (hs : ∀ x ∈ Z, x ∈ W) : Z.length ≤ W.length := by
  classical
  have : Z = W.filter (fun x => decide (x ∈ Z)) := srt_ext hz (List.Pairwise.filter _ hw) fun x => by
    simp only [List.mem_filter, decide_eq_true_eq]
    exact ⟨fun h => ⟨hs x h, h⟩, fun h => h.2⟩
  rw [this]
  exact List.length_filter_le _ _
theorem srt_sub_lt {Z W : List Ch} (hz : Srt Z) (hw : Srt W) (hs : ∀ x ∈ Z, x ∈ W) {c : Ch} (hc : c ∈ W) (hn : c ∉ Z) : Z.length < W.length := by
  classical
  have : Z = W.filter (fun x => decide (x ∈ Z)) := srt_ext hz (List.Pairwise.filter _ hw) fun x => by
    simp only [List.mem_filter, decide_eq_true_eq]
    exact ⟨fun h => ⟨hs x h, h⟩, fun h => h.2⟩
  rw [this]
  exact List.length_filter_lt_length_iff_exists.2 ⟨c, hc, by simpa using hn⟩

/-- One history: of two logs of it one adds what the other one has, in its order. -/
theorem union_step {W a Z : List Ch} (gw : Good W) (ga : Good a) (gz : Good Z) (ha : ∀ x ∈ a, x ∈ W) (hz : ∀ x ∈ Z, x ∈ W) {c : Ch} (hc : c ∈ a) (hp : ∀ x ∈ a, ltB x c = true → x ∈ Z) (hn : c ∉ Z) {room : Int} (hr : (W.length : Int) ≤ room) : whyR Z room c = 0 := by
  have hlt := srt_sub_lt gz.srt gw.srt hz (ha c hc) hn
  rw [part_why gw gz hz (ha c hc) hn (by omega), part_free ga gz hc hp]
  rfl
theorem within_iff {W a b : List Ch} (gw : Good W) (ga : Good a) (gb : Good b) (ha : ∀ x ∈ a, x ∈ W) (hb : ∀ x ∈ b, x ∈ W) {c : Ch} (hc : c ∈ a) : withinB c (clockL b) = true ↔ c ∈ b := by
  obtain ⟨_, _, h2, h3, h4, _⟩ := ga.right hc
  unfold withinB
  rw [clockL_at _ h2 h3, decide_eq_true_eq]
  constructor
  · intro h
    obtain ⟨d, hd, e1, e2⟩ := gb.nth h4 h
    rw [← gw.inj (hb d hd) (ha c hc) e1 e2]
    exact hd
  · intro h; exact (gb.le h).2
theorem union_clock {W a b U : List Ch} (gw : Good W) (ga : Good a) (gb : Good b) (gu : Good U) (hu : ∀ x, x ∈ U ↔ x ∈ b ∨ x ∈ a) : clockL U = mergeL (clockL a) (clockL b) := by
  have e : ∀ k, (clockL U).getD k 0 = (mergeL (clockL a) (clockL b)).getD k 0 := fun k => by
    rw [mergeL_getD, clockL_getD, clockL_getD, clockL_getD]
    by_cases hk : k < 64
    · rw [if_pos hk, if_pos hk, if_pos hk]
      have h1 : (cntR a k : Int) ≤ cntR U k := by
        by_cases h0 : cntR a (k : Int) = 0
        · omega
        · obtain ⟨d, hd, e1, e2⟩ := ga.nth (r := (k : Int)) (s := cntR a (k : Int)) (by omega) (Int.le_refl _)
          have := gu.le ((hu d).2 (.inr hd))
          rw [e1, e2] at this
          exact this.2
      have h2 : (cntR b k : Int) ≤ cntR U k := by
        by_cases h0 : cntR b (k : Int) = 0
        · omega
        · obtain ⟨d, hd, e1, e2⟩ := gb.nth (r := (k : Int)) (s := cntR b (k : Int)) (by omega) (Int.le_refl _)
          have := gu.le ((hu d).2 (.inl hd))
          rw [e1, e2] at this
          exact this.2
      have h3 : (cntR U k : Int) ≤ max (cntR a k : Int) (cntR b k : Int) := by
        by_cases h0 : cntR U (k : Int) = 0
        · omega
        · obtain ⟨d, hd, e1, e2⟩ := gu.nth (r := (k : Int)) (s := cntR U (k : Int)) (by omega) (Int.le_refl _)
          rcases (hu d).1 hd with h | h
          · have := gb.le h
            rw [e1, e2] at this
            omega
          · have := ga.le h
            rw [e1, e2] at this
            omega
      omega
    · rw [if_neg hk, if_neg hk, if_neg hk]; rfl
  have t1 : trimL (clockL U) = clockL U := trim_idem _
  have t2 : trimL (mergeL (clockL a) (clockL b)) = mergeL (clockL a) (clockL b) := mergeL_trim _ _
  rw [← t1, ← t2]
  exact trim_ext _ _ e

theorem lack_ahead {W a b : List Ch} (gw : Good W) (ga : Good a) (gb : Good b) (ha : ∀ x ∈ a, x ∈ W) (hb : ∀ x ∈ b, x ∈ W) {j : Nat} (hj : j < (lackL a (clockL b)).length) : ∀ x ∈ a, ltB x (lackL a (clockL b))[j] = true → x ∈ b ∨ x ∈ (lackL a (clockL b)).take j := fun x hx hl => by
  cases h : withinB x (clockL b) with
  | true => exact .inl ((within_iff gw ga gb ha hb hx).1 h)
  | false => exact .inr (srt_pre2 (lackL_srt ga.srt _) hj (by unfold lackL; rw [List.mem_filter]; exact ⟨hx, by rw [h]; rfl⟩) hl)
theorem lack_not {W a b : List Ch} (gw : Good W) (ga : Good a) (gb : Good b) (ha : ∀ x ∈ a, x ∈ W) (hb : ∀ x ∈ b, x ∈ W) {x : Ch} (hx : x ∈ lackL a (clockL b)) : x ∈ a ∧ x ∉ b := by
  unfold lackL at hx
  rw [List.mem_filter] at hx
  refine ⟨hx.1, fun h => ?_⟩
  rw [(within_iff gw ga gb ha hb hx.1).2 h] at hx
  exact absurd hx.2 (by decide)


end Go.Proofs.YtngldpabfpcaiaaGreat

namespace Go.Proofs.YtngldpabfpcaiaaGreat
set_option linter.unusedVariables false
set_option linter.unusedSimpArgs false

theorem clockL_okC {L : List Ch} (h : L.length ≤ 4096) : OkC (clockL L) := by
  refine ⟨clockL_length L, fun x hx => ?_⟩
  obtain ⟨k, hk, rfl⟩ := List.getElem_of_mem hx
  have e : (clockL L)[k] = (clockL L).getD k 0 := by rw [List.getD_eq_getElem?_getD, List.getElem?_eq_getElem hk]; rfl
  rw [e, clockL_getD]
  have := cntR_le L (k : Int)
  split <;> omega
theorem addL_twice {U : List Ch} {room : Int} {c : Ch} (gu : Good U) (h : c ∈ U) : addL U room c = U := by
  unfold addL
  rw [part_twice gu h room, if_neg (by decide)]
theorem addL_new {U : List Ch} {room : Int} {c : Ch} (h : whyR U room c = 0) (x : Ch) : x ∈ addL U room c ↔ x ∈ U ∨ x = c := by
  unfold addL
  rw [if_pos h, putC_mem]
  exact Or.comm
/-- Two logs of one history. -/
structure UnP (W A B : List Ch) : Prop where
  gw : Good W
  ga : Good A
  gb : Good B
  ha : ∀ x ∈ A, x ∈ W
  hb : ∀ x ∈ B, x ∈ W
  le : W.length ≤ 4096
theorem UnP.lea {W A B : List Ch} (h : UnP W A B) : A.length ≤ 4096 := Nat.le_trans (srt_sub h.ga.srt h.gw.srt h.ha) h.le
theorem UnP.leb {W A B : List Ch} (h : UnP W A B) : B.length ≤ 4096 := Nat.le_trans (srt_sub h.gb.srt h.gw.srt h.hb) h.le
theorem UnP.none : UnP [] [] [] := ⟨Good.none, Good.none, Good.none, fun x h => h, fun x h => h, by simp⟩
theorem UnP.whole {W A B : List Ch} (h : UnP W A B) {c : Ch} (hw : whyR W 4096 c = 0) : UnP (addL W 4096 c) A B := by
  have hl := addL_room (c := c) (show (W.length : Int) ≤ 4096 by have := h.le; omega)
  exact ⟨addL_good h.gw _ _, h.ga, h.gb, fun x hx => (addL_new hw x).2 (.inl (h.ha x hx)), fun x hx => (addL_new hw x).2 (.inl (h.hb x hx)), by omega⟩
theorem UnP.addA {W A B : List Ch} (h : UnP W A B) {c : Ch} (hc : c ∈ W) : UnP W (addL A 4096 c) B :=
  ⟨h.gw, addL_good h.ga _ _, h.gb, fun x hx => (addL_mem hx).elim (h.ha x) (fun e => e ▸ hc), h.hb, h.le⟩
theorem UnP.addB {W A B : List Ch} (h : UnP W A B) {c : Ch} (hc : c ∈ W) : UnP W A (addL B 4096 c) :=
  ⟨h.gw, h.ga, addL_good h.gb _ _, h.ha, fun x hx => (addL_mem hx).elim (h.hb x) (fun e => e ▸ hc), h.le⟩
/-- The changes of both, as far as they came. -/
structure UniP (A B : List Ch) (i : Nat) (U : List Ch) : Prop where
  gu : Good U
  mem : ∀ x, x ∈ U ↔ x ∈ B ∨ x ∈ A.take i
theorem UniP.start {W A B : List Ch} (h : UnP W A B) : UniP A B 0 B := ⟨h.gb, fun x => by simp⟩
theorem UniP.le {W A B : List Ch} (h : UnP W A B) {i : Nat} {U : List Ch} (u : UniP A B i U) : U.length ≤ 4096 :=
  Nat.le_trans (srt_sub u.gu.srt h.gw.srt fun x hx => ((u.mem x).1 hx).elim (h.hb x) (fun q => h.ha x (List.mem_of_mem_take q))) h.le
theorem UniP.step {W A B : List Ch} (h : UnP W A B) {i : Nat} {U : List Ch} (u : UniP A B i U) (hi : i < A.length) : UniP A B (i + 1) (addL U 4096 A[i]) := by
  have hsub : ∀ x ∈ U, x ∈ W := fun x hx => ((u.mem x).1 hx).elim (h.hb x) (fun q => h.ha x (List.mem_of_mem_take q))
  have hm : ∀ x, x ∈ A.take (i + 1) ↔ x ∈ A.take i ∨ x = A[i] := fun x => by rw [List.take_succ_eq_append_getElem hi, List.mem_append, List.mem_singleton]
  by_cases hc : A[i] ∈ U
  · rw [addL_twice u.gu hc]
    refine ⟨u.gu, fun x => ?_⟩
    rw [u.mem, hm]
    constructor
    · rintro (q | q)
      · exact .inl q
      · exact .inr (.inl q)
    · rintro (q | q | q)
      · exact .inl q
      · exact .inr q
      · exact (u.mem x).1 (q ▸ hc)
  · have hw : whyR U 4096 A[i] = 0 := union_step h.gw h.ga u.gu h.ha hsub (List.getElem_mem hi) (fun x hx hl => (u.mem x).2 (.inr (srt_pre2 h.ga.srt hi hx hl))) hc (by have := h.le; omega)
    refine ⟨addL_good u.gu _ _, fun x => ?_⟩
    rw [addL_new hw, u.mem, hm]
    constructor
    · rintro ((q | q) | q)
      · exact .inl q
      · exact .inr (.inl q)
      · exact .inr (.inr q)
    · rintro (q | q | q)
      · exact .inl (.inl q)
      · exact .inl (.inr q)
      · exact .inr q
/-- What lacks is added, one by one. -/
structure LackP (X Z : List Ch) (j : Nat) (V : List Ch) : Prop where
  gv : Good V
  mem : ∀ x, x ∈ V ↔ x ∈ Z ∨ x ∈ X.take j
theorem LackP.start {X Z : List Ch} (g : Good Z) : LackP X Z 0 Z := ⟨g, fun x => by simp⟩
theorem LackP.le {W A Z : List Ch} (h : UnP W A Z) {j : Nat} {V : List Ch} (u : LackP (lackL A (clockL Z)) Z j V) : V.length ≤ 4096 :=
  Nat.le_trans (srt_sub u.gv.srt h.gw.srt fun x hx => ((u.mem x).1 hx).elim (h.hb x) (fun q => h.ha x (List.mem_filter.1 (List.mem_of_mem_take q)).1)) h.le
theorem LackP.why {W A Z : List Ch} (h : UnP W A Z) {j : Nat} {V : List Ch} (u : LackP (lackL A (clockL Z)) Z j V) (hj : j < (lackL A (clockL Z)).length) : whyR V 4096 (lackL A (clockL Z))[j] = 0 := by
  have hX := lackL_srt h.ga.srt (clockL Z)
  have hn := lack_not h.gw h.ga h.gb h.ha h.hb (List.getElem_mem hj)
  refine union_step h.gw h.ga u.gv h.ha (fun x hx => ((u.mem x).1 hx).elim (h.hb x) (fun q => h.ha x (List.mem_filter.1 (List.mem_of_mem_take q)).1)) hn.1 (fun x hx hl => (u.mem x).2 (lack_ahead h.gw h.ga h.gb h.ha h.hb hj x hx hl)) (fun hc => ?_) (by have := h.le; omega)
  rcases (u.mem _).1 hc with q | q
  · exact hn.2 q
  · obtain ⟨k, hk, e⟩ := List.getElem_of_mem q
    rw [List.length_take] at hk
    rw [List.getElem_take] at e
    have := srt_get hX (i := k) (by omega) hj (by omega)
    rw [e, ltB_irr] at this
    cases this
theorem LackP.step {W A Z : List Ch} (h : UnP W A Z) {j : Nat} {V : List Ch} (u : LackP (lackL A (clockL Z)) Z j V) (hj : j < (lackL A (clockL Z)).length) : LackP (lackL A (clockL Z)) Z (j + 1) (addL V 4096 (lackL A (clockL Z))[j]) := by
  refine ⟨addL_good u.gv _ _, fun x => ?_⟩
  rw [addL_new (u.why h hj), u.mem, List.take_succ_eq_append_getElem hj, List.mem_append, List.mem_singleton]
  exact or_assoc
/-- The log that asks, as far as it has come. -/
structure AskP (W A B Z : List Ch) : Prop where
  un : UnP W A Z
  b : ∀ x ∈ B, x ∈ Z
  z : ∀ x ∈ Z, x ∈ B ∨ x ∈ A
theorem AskP.next {W A B Z V : List Ch} (h : AskP W A B Z) {j : Nat} (u : LackP (lackL A (clockL Z)) Z j V) : AskP W A B V :=
  ⟨⟨h.un.gw, h.un.ga, u.gv, h.un.ha, fun x hx => ((u.mem x).1 hx).elim (h.un.hb x) (fun q => h.un.ha x (List.mem_filter.1 (List.mem_of_mem_take q)).1), h.un.le⟩, fun x hx => (u.mem x).2 (.inl (h.b x hx)), fun x hx => ((u.mem x).1 hx).elim (h.z x) (fun q => .inr (List.mem_filter.1 (List.mem_of_mem_take q)).1)⟩
theorem AskP.less {W A B Z V : List Ch} (h : AskP W A B Z) {j : Nat} (u : LackP (lackL A (clockL Z)) Z j V) (hj : 0 < j) (hl : 0 < (lackL A (clockL Z)).length) : (lackL A (clockL V)).length < (lackL A (clockL Z)).length := by
  have hv := (h.next u).un
  refine srt_sub_lt (lackL_srt h.un.ga.srt _) (lackL_srt h.un.ga.srt _) (fun x hx => ?_) (List.getElem_mem hl) (fun hx => ?_)
  · have q := lack_not hv.gw hv.ga hv.gb hv.ha hv.hb hx
    unfold lackL
    rw [List.mem_filter]
    refine ⟨q.1, ?_⟩
    cases hw : withinB x (clockL Z) with
    | false => rfl
    | true => exact absurd ((u.mem x).2 (.inl ((within_iff h.un.gw h.un.ga h.un.gb h.un.ha h.un.hb q.1).1 hw))) q.2
  · have q := lack_not hv.gw hv.ga hv.gb hv.ha hv.hb hx
    refine q.2 ((u.mem _).2 (.inr ?_))
    exact List.mem_take_iff_getElem.2 ⟨0, by omega, rfl⟩
theorem AskP.done {W A B Z V U : List Ch} (h : AskP W A B Z) {j : Nat} (u : LackP (lackL A (clockL Z)) Z j V) (hj : (lackL A (clockL Z)).length ≤ j) (g : UniP A B A.length U) : V = U := by
  have hn := h.next u
  refine srt_ext u.gv.srt g.gu.srt fun x => ?_
  rw [g.mem, List.take_length]
  constructor
  · exact hn.z x
  · rintro (q | q)
    · exact hn.b x q
    · cases hw : withinB x (clockL Z) with
      | true => exact (u.mem x).2 (.inl ((within_iff h.un.gw h.un.ga h.un.gb h.un.ha h.un.hb q).1 hw))
      | false =>
        refine (u.mem x).2 (.inr ?_)
        rw [List.take_of_length_le hj]
        unfold lackL
        rw [List.mem_filter]
        exact ⟨q, by rw [hw]; rfl⟩
theorem UniP.clock {W A B U : List Ch} (h : UnP W A B) (g : UniP A B A.length U) : clockL U = mergeL (clockL A) (clockL B) := union_clock h.gw h.ga h.gb g.gu fun x => by rw [g.mem, List.take_length]

end Go.Proofs.YtngldpabfpcaiaaGreat

namespace Go.Proofs.YtngldpabfpcaiaaGreat
open Go.RowKit
set_option linter.unusedVariables false
set_option linter.unusedSimpArgs false

/-- A list of Booleans. -/
def IsBo (W : World) (v : Value) (D : List Bool) : Prop := ∃ (a : Option Addr) (cap : Nat), v = .slice a D.length cap ∧ D.length ≤ cap ∧ D.length ≤ maxLen ∧ (D = [] ∨ ∃ b o, a = some ⟨b, o, none⟩ ∧ ∀ i (h : i < D.length), W.cell? ⟨b, o + i, none⟩ = some (.bool D[i]))
theorem IsBo.below {w w' : World} {v : Value} {D : List Bool} (h : IsBo w v D) (hb : Below w.heap.size w w') : IsBo w' v D := by
  obtain ⟨a, cap, e, h1, h2, h3⟩ := h
  exact ⟨a, cap, e, h1, h2, h3.imp id fun ⟨b, o, e2, h4⟩ => ⟨b, o, e2, fun i hi => (hb.cell (p := ⟨b, o + i, none⟩) (cell_lt (h4 i hi))).trans (h4 i hi)⟩⟩
theorem from_lt9 (x : Int) : ∃ f : Nat, f < 9 ∧ wrap64 ((IntKind.u64.wrap x).tmod 9) = (f : Int) := by
  have hx : 0 ≤ IntKind.u64.wrap x := by show 0 ≤ x % 18446744073709551616; omega
  rw [Int.tmod_eq_emod_of_nonneg hx]
  have h2 : 0 ≤ IntKind.u64.wrap x % 9 := Int.emod_nonneg _ (by omega)
  have h3 : IntKind.u64.wrap x % 9 < 9 := Int.emod_lt_of_pos _ (by omega)
  refine ⟨(IntKind.u64.wrap x % 9).toNat, by omega, ?_⟩
  rw [Int.toNat_of_nonneg h2]
  unfold wrap64
  omega
/-- A zero log of the document's, in a block. -/
def BxL (b : Nat) (W : World) : Prop := W.heap[b]? = some (.cells #[.int .i64 0, .slice none 0 0] 26)
theorem BxL.below {b : Nat} {W W' : World} (h : BxL b W) (hb : Below W.heap.size W W') : BxL b W' := (hb.block _ (row_lt h)).trans h
theorem IsG.nil (G : Nat → Prop) (W : World) : IsG G W (.slice none 0 0) [] := ⟨none, 0, rfl, Nat.le_refl _, by simp, .inl rfl⟩
structure UnS (w : World) (la lb : Nat) (Fa Fb G : Nat → Prop) (A B K : List Ch) (yb : Nat) (yv zv : Value) (O : List Ch) (ov : Value) (C : List Int) (cv : Value) (W : World) : Prop where
  loga : LogOk Fa W la 4096 A
  logb : LogOk Fb W lb 4096 B
  doc : HFirm G W yv K
  oth : HFirm G W ov O
  cl : IsG G W cv C
  box : W.heap[yb]? = some (.cells #[.int .i64 4096, zv] 26)
  fab : ∀ k, Fb k → ¬ Fa k
  fa : ∀ k, Fa k → ¬ G k ∧ k ≠ yb ∧ w.heap.size ≤ k
  fb : ∀ k, Fb k → ¬ G k ∧ k ≠ yb ∧ w.heap.size ≤ k
  yG : ¬ G yb
  yw : w.heap.size ≤ yb
  bel : Below w.heap.size w W
section
variable {w W W' : World} {la lb : Nat} {Fa Fb F' G G' : Nat → Prop} {A B K A' B' K' : List Ch} {yb : Nat} {yv zv yv' : Value} {O O' : List Ch} {ov ov' : Value} {C C' : List Int} {cv cv' : Value}
theorem UnS.lt (h : UnS w la lb Fa Fb G A B K yb yv zv O ov C cv W) : ∀ k, (Fa k ∨ Fb k ∨ G k ∨ k = yb) → k < W.heap.size := by
  rintro k (q | q | q | rfl)
  · exact h.loga.lt k q
  · exact h.logb.lt k q
  · exact h.doc.1 k q
  · exact row_lt h.box
theorem UnS.keep (h : UnS w la lb Fa Fb G A B K yb yv zv O ov C cv W) (hk : KeepsS (fun k => Fa k ∨ Fb k ∨ G k ∨ k = yb) W W') (hb : Below w.heap.size w W') : UnS w la lb Fa Fb G A B K yb yv zv O ov C cv W' :=
  have kg : KeepsS G W W' := hk.mono fun k q => .inr (.inr (.inl q))
  ⟨h.loga.keep (hk.mono fun k q => .inl q), h.logb.keep (hk.mono fun k q => .inr (.inl q)), h.doc.keep kg, h.oth.keep kg, h.cl.keep kg, (hk.2 yb (.inr (.inr (.inr rfl)))).trans h.box, h.fab, h.fa, h.fb, h.yG, h.yw, hb⟩
theorem UnS.below (h : UnS w la lb Fa Fb G A B K yb yv zv O ov C cv W) (hb : Below W.heap.size W W') : UnS w la lb Fa Fb G A B K yb yv zv O ov C cv W' := h.keep (KeepsS.of_below hb h.lt) (h.bel.trans (hb.mono h.bel.size))
theorem UnS.addA (h : UnS w la lb Fa Fb G A B K yb yv zv O ov C cv W) (hl : LogOk F' W' la 4096 A') (hf : ∀ k, F' k → Fa k ∨ W.heap.size ≤ k) (ht : Touch Fa W W') : UnS w la lb F' Fb G A' B K yb yv zv O ov C cv W' := by
  have hlt := h.lt
  have kg : KeepsS G W W' := ht.keeps fun k q => ⟨h.doc.1 k q, fun q2 => (h.fa k q2).1 q⟩
  refine ⟨hl, h.logb.keep (ht.keeps fun k q => ⟨h.logb.lt k q, h.fab k q⟩), h.doc.keep kg, h.oth.keep kg, h.cl.keep kg, (ht.block _ (row_lt h.box) (fun q2 => (h.fa _ q2).2.1 rfl)).trans h.box, fun k q q2 => ?_, fun k q => ?_, h.fb, h.yG, h.yw, h.bel.trans (ht.below (fun k q => (h.fa k q).2.2) h.bel.size)⟩
  · rcases hf k q2 with q2 | q2
    · exact h.fab k q q2
    · have := h.logb.lt k q; omega
  · rcases hf k q with q | q
    · exact h.fa k q
    · exact ⟨fun q2 => by have := h.doc.1 k q2; omega, by have := row_lt h.box; omega, Nat.le_trans h.bel.size q⟩
theorem UnS.addB (h : UnS w la lb Fa Fb G A B K yb yv zv O ov C cv W) (hl : LogOk F' W' lb 4096 B') (hf : ∀ k, F' k → Fb k ∨ W.heap.size ≤ k) (ht : Touch Fb W W') : UnS w la lb Fa F' G A B' K yb yv zv O ov C cv W' := by
  have kg : KeepsS G W W' := ht.keeps fun k q => ⟨h.doc.1 k q, fun q2 => (h.fb k q2).1 q⟩
  refine ⟨h.loga.keep (ht.keeps fun k q => ⟨h.loga.lt k q, fun q2 => h.fab k q2 q⟩), hl, h.doc.keep kg, h.oth.keep kg, h.cl.keep kg, (ht.block _ (row_lt h.box) (fun q2 => (h.fb _ q2).2.1 rfl)).trans h.box, fun k q q2 => ?_, h.fa, fun k q => ?_, h.yG, h.yw, h.bel.trans (ht.below (fun k q => (h.fb k q).2.2) h.bel.size)⟩
  · rcases hf k q with q | q
    · exact h.fab k q q2
    · have := h.loga.lt k q2; omega
  · rcases hf k q with q | q
    · exact h.fb k q
    · exact ⟨fun q2 => by have := h.doc.1 k q2; omega, by have := row_lt h.box; omega, Nat.le_trans h.bel.size q⟩
/-- More lies in the set of blocks than before. -/
theorem UnS.grow (h : UnS w la lb Fa Fb G A B K yb yv zv O ov C cv W) (hb : Below W.heap.size W W') (hG : ∀ k, G k → G' k) (hG2 : ∀ k, G' k → G k ∨ (W.heap.size ≤ k ∧ k < W'.heap.size)) : UnS w la lb Fa Fb G' A B K yb yv zv O ov C cv W' :=
  have h2 := h.below hb
  have hl : ∀ k, G' k → k < W'.heap.size := fun k q => (hG2 k q).elim (fun q => h2.doc.1 k q) (fun q => q.2)
  ⟨h2.loga, h2.logb, h2.doc.mono hG hl, h2.oth.mono hG hl, h2.cl.mono hG, h2.box, h.fab, fun k q => ⟨fun q2 => (hG2 k q2).elim (h.fa k q).1 (fun q3 => by have := h.loga.lt k q; omega), (h.fa k q).2⟩, fun k q => ⟨fun q2 => (hG2 k q2).elim (h.fb k q).1 (fun q3 => by have := h.logb.lt k q; omega), (h.fb k q).2⟩, fun q => (hG2 yb q).elim h.yG (fun q3 => by have := row_lt h.box; omega), h.yw, h2.bel⟩
theorem UnS.docTo (h : UnS w la lb Fa Fb G A B K yb yv zv O ov C cv W) (hf : HFirm G W yv' K') : UnS w la lb Fa Fb G A B K' yb yv' zv O ov C cv W := ⟨h.loga, h.logb, hf, h.oth, h.cl, h.box, h.fab, h.fa, h.fb, h.yG, h.yw, h.bel⟩
theorem UnS.othTo (h : UnS w la lb Fa Fb G A B K yb yv zv O ov C cv W) (hf : HFirm G W ov' O') : UnS w la lb Fa Fb G A B K yb yv zv O' ov' C cv W := ⟨h.loga, h.logb, h.doc, hf, h.cl, h.box, h.fab, h.fa, h.fb, h.yG, h.yw, h.bel⟩
theorem UnS.clTo (h : UnS w la lb Fa Fb G A B K yb yv zv O ov C cv W) (hf : IsG G W cv' C') : UnS w la lb Fa Fb G A B K yb yv zv O ov C' cv' W := ⟨h.loga, h.logb, h.doc, h.oth, hf, h.box, h.fab, h.fa, h.fb, h.yG, h.yw, h.bel⟩
theorem UnS.fresh (h : UnS w la lb Fa Fb G A B K yb yv zv O ov C cv W) : ¬ (Fa W.heap.size ∨ Fb W.heap.size ∨ G W.heap.size ∨ W.heap.size = yb) ∧ w.heap.size ≤ W.heap.size := ⟨fun q => by have := h.lt _ q; omega, h.bel.size⟩
theorem UnS.far (h : UnS w la lb Fa Fb G A B K yb yv zv O ov C cv W) {zb i : Nat} {v : Value} (hz : ¬ (Fa zb ∨ Fb zb ∨ G zb ∨ zb = yb) ∧ w.heap.size ≤ zb) : UnS w la lb Fa Fb G A B K yb yv zv O ov C cv (W.setCell ⟨zb, i, none⟩ v) :=
  h.keep ⟨by simp [World.setCell], fun k hk => RowKit.Below.heap_setCell _ _ _ _ (fun (e : k = zb) => hz.1 (e ▸ hk))⟩ (h.bel.setCell (p := ⟨zb, i, none⟩) hz.2 _)
theorem UnS.put (h : UnS w la lb Fa Fb G A B K yb yv zv O ov C cv W) : UnS w la lb Fa Fb G A B K yb yv yv O ov C cv ((W.setCell ⟨yb, 0, none⟩ (.int .i64 4096)).setCell ⟨yb, 1, none⟩ yv) := by
  have far : ∀ k, k ≠ yb → ((W.setCell ⟨yb, 0, none⟩ (.int .i64 4096)).setCell ⟨yb, 1, none⟩ yv).heap[k]? = W.heap[k]? := fun k hk => (RowKit.Below.heap_setCell _ _ _ _ hk).trans (RowKit.Below.heap_setCell _ _ _ _ hk)
  have hs : W.heap.size ≤ ((W.setCell ⟨yb, 0, none⟩ (.int .i64 4096)).setCell ⟨yb, 1, none⟩ yv).heap.size := by simp [World.setCell]
  have kg : KeepsS G W ((W.setCell ⟨yb, 0, none⟩ (.int .i64 4096)).setCell ⟨yb, 1, none⟩ yv) := ⟨hs, fun k q => far k (fun e => h.yG (e ▸ q))⟩
  exact ⟨h.loga.keep ⟨hs, fun k q => far k (h.fa k q).2.1⟩, h.logb.keep ⟨hs, fun k q => far k (h.fb k q).2.1⟩, h.doc.keep kg, h.oth.keep kg, h.cl.keep kg, row_set2 h.box, h.fab, h.fa, h.fb, h.yG, h.yw, (h.bel.setCell (p := ⟨yb, 0, none⟩) h.yw _).setCell (p := ⟨yb, 1, none⟩) h.yw _⟩
/-- The document's list is another one, in another box. -/
theorem UnS.anew (h : UnS w la lb Fa Fb G A B K yb yv zv O ov C cv W) {y2 : Nat} (hb : Below W.heap.size W W') (hf : HFirm G' W' yv' K') (hG : ∀ k, G' k → W.heap.size ≤ k) (hbox : W'.heap[y2]? = some (.cells #[.int .i64 4096, yv'] 26)) (hy : W.heap.size ≤ y2) (hy2 : ¬ G' y2) : UnS w la lb Fa Fb G' A B K' y2 yv' yv' [] (.slice none 0 0) [] (.slice none 0 0) W' :=
  have h2 := h.below hb
  ⟨h2.loga, h2.logb, hf, ⟨hf.1, none, 0, rfl, Nat.le_refl _, by simp, .inl rfl⟩, IsG.nil _ _, hbox, h.fab, fun k q => ⟨fun q2 => by have := hG k q2; have := h.loga.lt k q; omega, fun e => by have := h.loga.lt k q; omega, (h.fa k q).2.2⟩, fun k q => ⟨fun q2 => by have := hG k q2; have := h.logb.lt k q; omega, fun e => by have := h.logb.lt k q; omega, (h.fb k q).2.2⟩, hy2, Nat.le_trans h.bel.size hy, h2.bel⟩
end
theorem since_any (v : Value) (room : Int) (L : List Ch) (F : Nat → Prop) (kv : Value) (kn : List Int) (most : Int) (w : World) (h : LogV F w v room L) (hs : Srt L) (hl : L.length ≤ 4096) (hk : IsI w kv kn) :
    Calls Tryz.prog 16 #[v, kv, .int .i64 most] w fun e w' => ∃ v' E, e = .returned (.tuple #[v', .bool (sinceR L kn most).2.1, .int .i64 (sinceR L kn most).2.2]) ∧ E.map Prod.fst = (sinceR L kn most).1 ∧ OwnH w.heap.size w' v' E ∧ (∀ x ∈ E, OwnI w.heap.size w' x.2 x.1.deps ∧ Sized x.1 ∧ x.1.deps.length ≤ 17592186044416) ∧ Below w.heap.size w w' :=
  callsIn_wide.1 (since_in 5 (Nat.le_refl _) v room L F kv kn most w h hs hl hk)
/-- What a call made, as a list that lies in the blocks that are new. -/
theorem HFirm.made {N : Nat} {W : World} {v : Value} {E : List (Ch × Value)} (ho : OwnH N W v E) (hd : ∀ x ∈ E, OwnI N W x.2 x.1.deps ∧ Sized x.1 ∧ x.1.deps.length ≤ 17592186044416) (hl : E.length ≤ 4096) : HFirm (fun k => N ≤ k ∧ k < W.heap.size) W v (E.map Prod.fst) :=
  HFirm.ofOwn (G2 := fun k => N ≤ k ∧ k < W.heap.size) ho (by omega) (fun x hx => ⟨IsG.own (hd x hx).1 (hd x hx).2.2 (fun k h1 h2 => ⟨h1, h2⟩), (hd x hx).2.1⟩) (fun k q => q) (fun k h1 h2 => ⟨h1, h2⟩) (fun k q => q.2)

end Go.Proofs.YtngldpabfpcaiaaGreat

namespace Go.Proofs.YtngldpabfpcaiaaGreat
open Go.ChangeShapes Go.WideShapes Go.ChangeAt Go.RowKit Go.Joins Go.Deep
set_option linter.unusedVariables false
set_option linter.constructorNameAsVariable false
set_option maxRecDepth 100000

theorem cellsSp : Tryz.prog.cellsOf 46 = 2 := by kernel_rfl
theorem cellsChsG : Tryz.prog.cellsOf 22 = 1 := by kernel_rfl
theorem cellsBsG : Tryz.prog.cellsOf 44 = 1 := by kernel_rfl
theorem cellsBG : Tryz.prog.cellsOf 4 = 1 := by kernel_rfl

section
variable {H : Type} {enc : TypeId × Value → H} {W : World} {held : Bool}

theorem open_boolsG {n : Nat} {v : Value} {x : DataW H × List MemPlace} (hf : DataW.trod enc Tryz.prog W 0 (fun _ => true) held n 44 [v] = some x) : ∃ D : List Bool, IsBo W v D := by
  rcases open_bools Tryz.underlying44 Tryz.underlying4 cellsBG hf with ⟨hc, hx⟩ | ⟨a, len, cap, B, hc, _, hl, hm, hx, hcell⟩
  · simp at hc
    subst hc
    exact ⟨[], none, 0, rfl, Nat.le_refl _, Nat.zero_le _, .inl rfl⟩
  · simp at hc
    subst hc
    have hD : ((List.range len).map B).length = len := by simp
    refine ⟨(List.range len).map B, some a, cap, by rw [hD], by rw [hD]; exact hl, by rw [hD]; omega, ?_⟩
    by_cases h0 : len = 0
    · left; simp [h0]
    · right
      obtain ⟨b, o, spot⟩ := a
      have g0 := hcell 0 (by omega)
      have hspot : spot = none := by simpa [Addr.add] using World.cell?_spot g0
      subst hspot
      refine ⟨b, o, rfl, fun i hi => ?_⟩
      rw [hD] at hi
      have g := hcell i (by omega)
      rw [Addr.add_lit] at g
      rw [g]
      simp

theorem open_splitV {r : Reach} {b0 : Nat} {v : Value} {d : DataW H} {p : List MemPlace} (hv : Value.okWide Tryz.prog W r b0 46 v) (h : DataW.Trod enc Tryz.prog W 0 (fun _ => true) held 46 v d p) (hw : ∀ n ∈ d.weights Tryz.prog 46, n ≤ reachBytes) :
    ∃ lv l wv wd, v = .agg #[lv, wv] ∧ IsH W lv l ∧ IsBo W wv wd := by
  obtain ⟨cs, rfl, hsz⟩ := okWide_struct Tryz.underlying46 hv
  obtain ⟨cl⟩ := cs
  match cl, hsz.trans cellsSp with
  | [c0, c1], _ =>
    obtain ⟨fuel, hf⟩ := h
    obtain ⟨y0, y1, m, hx, _, h0, h1⟩ := trod_struct2 Tryz.underlying46 hf
    have g0 : DataW.trod enc Tryz.prog W 0 (fun _ => true) held m 22 [c0] = some y0 := by simpa [Value.cells, cellsChsG, cellsBsG] using h0
    have g1 : DataW.trod enc Tryz.prog W 0 (fun _ => true) held m 44 [c1] = some y1 := by simpa [Value.cells, cellsChsG, cellsBsG] using h1
    simp only [Prod.mk.injEq] at hx
    have hw0 : ∀ n ∈ y0.1.weights Tryz.prog 22, n ≤ reachBytes := fun n hn => by
      refine hw n ?_
      rw [hx.1, DataW.weights, Tryz.underlying46]
      exact DataW.weights_mem_each (j := 0) rfl rfl n hn
    obtain ⟨l, hl, _⟩ := open_chs g0 hw0
    obtain ⟨wd, hwd⟩ := open_boolsG g1
    exact ⟨c0, l, c1, wd, rfl, hl, hwd⟩

end

end Go.Proofs.YtngldpabfpcaiaaGreat

namespace Go.Proofs.YtngldpabfpcaiaaGreat
open Go.RowKit
set_option linter.unusedVariables false
set_option linter.unusedSimpArgs false

def firstC : Ch := ⟨1, 0, 1, [], 1, 1, 0, 0, 0, 0, 0, ⟨#[112]⟩, ⟨#[]⟩⟩
theorem first_sized : Sized firstC := ⟨by decide, by decide⟩
theorem why_first : whyR [] 3 firstC = 0 := by decide +kernel
theorem why_first2 : whyR [firstC] 3 firstC = 5 := by decide +kernel
theorem add_first : addL [] 3 firstC = [firstC] := by unfold addL; rw [if_pos why_first]; rfl
theorem add_first2 : addL [firstC] 3 firstC = [firstC] := by unfold addL; rw [if_neg (by rw [why_first2]; decide)]

set_option maxRecDepth 100000 in
set_option maxHeartbeats 2000000 in
theorem first_any (w : World) : Calls Tryz.prog 31 #[] w fun e w' => e = .returned (chV firstC (.slice none 0 0)) ∧ Below w.heap.size w w' := by
  go_enter Tryz.func31, Tryz.ntmps31
  go_wp2
  (try simp only [Exit.inBlock, Exit.then])
  refine bodyPost_ret (v := chV firstC (.slice none 0 0)) ?res rfl ?post
  case res => exact results_cell_row rfl _ _ w.heap.size _ _ _ _ rfl ((Below.heap_alloc _ _ _ (by simp)).trans (heap_alloc_new w _)) Tryz.underlying38 rfl (by kernel_rfl)
  exact ⟨rfl, ((Below.refl _ _).alloc (Nat.le_refl _) _).alloc (by simp) _⟩

set_option maxRecDepth 100000 in
set_option maxHeartbeats 4000000 in
theorem awake_any (w : World) : Calls Tryz.prog 12 #[] w fun e w' => e = .returned (.bool true) ∧ Below w.heap.size w w' := by
  have HF : Hid (∀ W, Calls Tryz.prog 31 #[] W fun e w' => e = .returned (chV firstC (.slice none 0 0)) ∧ Below W.heap.size W w') := fun W => first_any W
  go_enter Tryz.func12, Tryz.ntmps12
  go_wp2_with fail
  refine (new_any 3 _).mono ?_
  rintro e w1 ⟨h, hb1⟩
  rcases h with ⟨h, _⟩ | ⟨_, lb, F, rfl, hL, hF⟩
  · omega
  have HL : Hid (LogOk F w1 lb 3 []) := hL
  have HB1 : Hid (Below w.heap.size w w1) := hb1
  have HFn : Hid (∀ k, F k → w.heap.size ≤ k) := hF
  clear hL hb1 hF
  go_wp2_with fail
  refine (HF.out _).mono ?_
  rintro e w2 ⟨rfl, hb2⟩
  replace HL : Hid (LogOk F w2 lb 3 []) := HL.out.below hb2
  have HB2 : Hid (Below w.heap.size w w2) := HB1.out.trans (hb2.mono HB1.out.size)
  clear hb2 HB1
  go_wp2_with fail
  refine (add_any F lb 3 [] firstC (.slice none 0 0) _ HL.out Good.none (by simp) (by omega) (IsI.non 0) first_sized).mono ?_
  rintro e w3 ⟨rfl, F3, hL3, hf1, hf2, ht⟩
  rw [why_first]
  rw [add_first] at hL3
  have HL3 : Hid (LogOk F3 w3 lb 3 [firstC]) := hL3
  have HB3 : Hid (Below w.heap.size w w3) := HB2.out.trans (ht.below HFn.out HB2.out.size)
  have HF3 : Hid (∀ k, F3 k → w.heap.size ≤ k) := fun k hk => by
    rcases hf2 k hk with h | h
    · exact HFn.out k h
    · exact Nat.le_trans HB2.out.size h
  clear hL3 hf1 hf2 ht HL HB2 HFn
  go_wp2_with fail
  refine (HF.out _).mono ?_
  rintro e w4 ⟨rfl, hb4⟩
  replace HL3 : Hid (LogOk F3 w4 lb 3 [firstC]) := HL3.out.below hb4
  have HB4 : Hid (Below w.heap.size w w4) := HB3.out.trans (hb4.mono HB3.out.size)
  clear hb4 HB3
  go_wp2_with fail
  refine (add_any F3 lb 3 [firstC] firstC (.slice none 0 0) _ HL3.out (by rw [← add_first]; exact addL_good Good.none 3 firstC) (by simp) (by omega) (IsI.non 0) first_sized).mono ?_
  rintro e w5 ⟨rfl, F5, hL5, hf1, hf2, ht⟩
  rw [why_first2]
  rw [add_first2] at hL5
  have HL5 : Hid (LogOk F5 w5 lb 3 [firstC]) := hL5
  have HB5 : Hid (Below w.heap.size w w5) := HB4.out.trans (ht.below HF3.out HB4.out.size)
  clear hL5 hf1 hf2 ht HL3 HB4 HF3
  go_wp2_with fail
  refine (len_any _ 3 [firstC] F5 _ HL5.out.v).mono ?_
  rintro e w6 ⟨rfl, hb6⟩
  have HL6 : Hid (LogOk F5 w6 lb 3 [firstC]) := HL5.out.below hb6
  have HB6 : Hid (Below w.heap.size w w6) := HB5.out.trans (hb6.mono HB5.out.size)
  clear hb6 HB5 HL5
  rw [show ((([firstC] : List Ch).length : Nat) : Int) = 1 from rfl]
  go_wp2_with fail
  refine (last_any _ 3 [firstC] F5 _ HL6.out.v (by simp)).mono ?_
  rintro e w7 ⟨rfl, hb7⟩
  have HB7 : Hid (Below w.heap.size w w7) := HB6.out.trans (hb7.mono HB6.out.size)
  clear hb7 HB6 HL6
  rw [show lastL [firstC] = 1 from rfl]
  go_wp2
  go_ret
  exact ⟨rfl, HB7.out⟩

end Go.Proofs.YtngldpabfpcaiaaGreat

namespace Go.Proofs.YtngldpabfpcaiaaGreat
open Go.RowKit
set_option linter.unusedVariables false
set_option linter.unusedSimpArgs false

theorem sizeOwn : (Tryz.prog.info? 75).map (·.size) = some 64 := by kernel_rfl
theorem index_own (own : List Value) (h : own.length = 64) (k : Nat) (hk : k < own.length) (w : World) : (Instr.index 75 (.agg own.toArray) (.int .i64 (k : Int))).run Tryz.prog w = .ok own[k] w := by
  have hs : (sizeOf 74).run Tryz.prog w = .ok 1 w := by kernel_rfl
  have ha : (isAgg 74).run Tryz.prog w = .ok false w := by kernel_rfl
  have h64 : (k : Int) < 64 := by omega
  have h0 : (0 : Int) ≤ (k : Int) := by omega
  simp [Instr.index, run_underlying Tryz.underlying75, asIntOf, part, hs, ha, h64, h0, hk, Result.andThen]
  intro h'
  omega
theorem counts_take (L : List Ch) {k : Nat} (hk : k < 64) : (counts L).take (k + 1) = (counts L).take k ++ [(cntR L (k : Int) : Int)] := by
  rw [List.take_succ_eq_append_getElem (by rw [counts_length]; exact hk)]
  simp [counts]

set_option maxRecDepth 100000 in
set_option maxHeartbeats 4000000 in
theorem clock_any (v : Value) (room : Int) (L : List Ch) (F : Nat → Prop) (w : World) (h : LogV F w v room L) :
    Calls Tryz.prog 15 #[v] w fun e w' => ∃ v', e = .returned v' ∧ OwnI w.heap.size w' v' (clockL L) ∧ Below w.heap.size w w' := by
  obtain ⟨i0, hi, hz0, hz1, hz2⟩ := info_parts infoInt
  go_enter Tryz.func15, Tryz.ntmps15
  go_wp2_with fail
  refine (orEmpty_any v room L F w h).mono ?_
  rintro e w1 ⟨lb, F', rfl, ⟨mb, ord, own, D, h1⟩, h2, hff⟩
  clear hff
  have HL : Hid (LogIs F' w1 lb room L mb ord own D) := h1
  have HB : Hid (Below w.heap.size w w1) := h2
  have hlen := h1.len
  have HR : Hid (w1.rangeAt lb 3 own) := fun j u hj => by
    obtain ⟨hj2, e2⟩ := List.getElem?_eq_some_iff.1 hj
    rw [h1.cellr hj2, e2]
  clear h h1 h2
  rename_i hKq
  refine hKq _ _ ?_
  refine wpList_plain rfl (fun K hK => ?_)
  go_simp
  refine hK _ _ ?_
  clear hK K
  refine wpList_plain rfl (fun K hK => ?_)
  go_simp
  refine hK _ _ ?_
  clear hK K
  refine wpList_load_mid rfl 75 (.tmp 9) rfl lb 3 rfl own _ HR.out Tryz.underlying75 rfl (by rw [hlen]; exact sizeOwn) ?_
  (try simp only [Act.put, List.setIfInBounds_toArray, List.set_cons_zero, List.set_cons_succ])
  go_wp2
  go_loopw [3, 5, 11] (fun ov _ iv wr => ∃ k : Nat, k ≤ 64 ∧ iv = .int .i64 (k : Int) ∧ Hid (OwnI w.heap.size wr ov ((counts L).take k)) ∧ Hid (Below w.heap.size w wr)) (fun _ _ iv _ => 64 - (intOf iv).toNat)
  case atStart => exact ⟨0, Nat.zero_le _, rfl, OwnI.nil0 _ _, HB⟩
  case round =>
    obtain ⟨k, hk, rfl, HO, HBr⟩ := hrel
    have hszr := HBr.out.size
    by_cases hlt : k < 64
    · have hko : k < own.length := by omega
      obtain ⟨a2, c2, e2⟩ := (HL.out.hown k hko).form
      have hix := index_own own hlen k hko wr
      rw [e2, stL_length] at hix
      have HC : Hid ((ofR L (k : Int)).length = cntR L (k : Int)) := rfl
      rw [HC.out] at hix
      have HT : Hid ((counts L).take (k + 1) = (counts L).take k ++ [(cntR L (k : Int) : Int)]) := counts_take L hlt
      have hll : ((counts L).take k).length = k := by rw [List.length_take, counts_length]; omega
      obtain ⟨T, hT⟩ : ∃ T, T = (counts L).take k := ⟨_, rfl⟩
      rw [← hT] at HO HT hll
      clear hT e2
      generalize cntR L (k : Int) = n1 at *
      obtain ⟨ao, co, e0⟩ := HO.out.form
      subst e0
      have k1 : (k : Int) < 64 := by omega
      have hTl : T.length ≤ 64 := by omega
      clear hll
      go_wp2_with (at_builtin; refine wpList_append_own _ rfl _ _ 23 rfl w.heap.size 3 i0 (.int .i64 0) 1 8 Tryz.underlying23 hi hz0 hz1 hz2 rfl (by decide) _ _ _ rfl (World.ownsRow.alloc HO.out _) ⟨wr.heap.size, 0, none⟩ 1 1 [.int .i64 (n1 : Int)] rfl rfl (cell_one_new _ _ _) (by simp [Value.oneCell']) (by unfold maxLen; omega) (by omega) (by simp; omega) ?_; intro v3 w3 hown3 hgrow3 hnil3)
      have hb3 : Below w.heap.size w w3 := (HBr.out.alloc (by omega) _).grown hgrow3 (by simp; omega) (fun j e => HO.out.block j e)
      go_roundw
      case rel => exact ⟨k + 1, by omega, by first | rfl | go_num, by rw [HT.out]; exact OwnI.snoc hown3, hb3⟩
      case measure => simp [intOf]; omega
    · obtain rfl : k = 64 := by omega
      have ho2 := HO.out
      rw [List.take_of_length_le (by rw [counts_length]; exact Nat.le_refl _)] at ho2
      have HO2 : Hid (OwnI w.heap.size wr _ (counts L)) := ho2
      clear ho2
      go_wp2_with fail
      refine (trim_any _ (counts L) _ (HO2.out.isI (by rw [counts_length]; omega))).mono ?_
      rintro e w4 ⟨v4, rfl, ho4, hb4⟩
      have HB4 : Hid (Below w.heap.size w w4) := HBr.out.trans (hb4.mono hszr)
      have HO4 : Hid (OwnI w.heap.size w4 v4 (clockL L)) := ho4.low hszr
      clear ho4 hb4
      go_wp2
      go_ret
      exact ⟨v4, rfl, HO4.out, HB4.out⟩

end Go.Proofs.YtngldpabfpcaiaaGreat

namespace Go.Proofs.YtngldpabfpcaiaaGreat
open Go.RowKit
set_option linter.unusedVariables false
set_option linter.unusedSimpArgs false

set_option maxRecDepth 100000 in
set_option maxHeartbeats 8000000 in
theorem refSameCh_eq (ac ar sq : Int) (v1 v2 : Value) (kd nc nr pc pr fc fr : Int) (nm vl : ByteArray) (ds : List Int) (w : World) (h1 : IsI w v1 ds) (h2 : IsI w v2 ds) :
    Calls Tryz.prog 23 #[.agg #[.int .i64 ac, .int .i64 ar, .int .i64 sq, v1, .int .i64 kd, .int .i64 nc, .int .i64 nr, .int .i64 pc, .int .i64 pr, .int .i64 fc, .int .i64 fr, .string nm, .string vl], .agg #[.int .i64 ac, .int .i64 ar, .int .i64 sq, v2, .int .i64 kd, .int .i64 nc, .int .i64 nr, .int .i64 pc, .int .i64 pr, .int .i64 fc, .int .i64 fr, .string nm, .string vl]] w fun e w' => e = .returned (.bool true) ∧ Below w.heap.size w w' := by
  obtain ⟨a1, c1, e1⟩ := h1.form
  subst e1
  obtain ⟨a2, c2, e2⟩ := h2.form
  subst e2
  have K0 := KeptC.start w [.int .i64 ac, .int .i64 ar, .int .i64 sq, .slice a1 ds.length c1, .int .i64 kd, .int .i64 nc, .int .i64 nr, .int .i64 pc, .int .i64 pr, .int .i64 fc, .int .i64 fr, .string nm, .string vl] 38
  have M0 := KeptC.start (w.alloc (.cells #[.int .i64 ac, .int .i64 ar, .int .i64 sq, .slice a1 ds.length c1, .int .i64 kd, .int .i64 nc, .int .i64 nr, .int .i64 pc, .int .i64 pr, .int .i64 fc, .int .i64 fr, .string nm, .string vl] 38)) [.int .i64 ac, .int .i64 ar, .int .i64 sq, .slice a2 ds.length c2, .int .i64 kd, .int .i64 nc, .int .i64 nr, .int .i64 pc, .int .i64 pr, .int .i64 fc, .int .i64 fr, .string nm, .string vl] 38
  rw [show (w.alloc (.cells #[.int .i64 ac, .int .i64 ar, .int .i64 sq, .slice a1 ds.length c1, .int .i64 kd, .int .i64 nc, .int .i64 nr, .int .i64 pc, .int .i64 pr, .int .i64 fc, .int .i64 fr, .string nm, .string vl] 38)).heap.size = w.heap.size + 1 by simp] at M0
  have K1 := K0.step M0.2.2
  have H1 : Hid (IsI _ (.slice a1 ds.length c1) ds) := h1.below K1.2.2
  have H2 : Hid (IsI _ (.slice a2 ds.length c2) ds) := h2.below K1.2.2
  clear h1 h2
  go_enter Tryz.func23, Tryz.ntmps23
  go_wp2_with fail
  refine (sameI_any _ _ ds ds _ H1.out H2.out).mono ?_
  rintro e w1 ⟨rfl, hb1⟩
  have d0 : decide (ds = ds) = true := by simp
  rw [d0]
  have K2 := K1.step hb1
  have M2 := M0.step hb1
  obtain ⟨k_0, k_1, k_2, k_3, k_4, k_5, k_6, k_7, k_8, k_9, k_10, k_11, k_12⟩ := K2.all
  obtain ⟨m_0, m_1, m_2, m_3, m_4, m_5, m_6, m_7, m_8, m_9, m_10, m_11, m_12⟩ := M2.all
  have q1 : (nm.toList == nm.toList) = true := by simp
  have q2 : (vl.toList == vl.toList) = true := by simp
  go_wp2
  go_ret
  exact ⟨rfl, K2.2.2⟩

end Go.Proofs.YtngldpabfpcaiaaGreat

namespace Go.Proofs.YtngldpabfpcaiaaGreat
open Go.RowKit
set_option linter.unusedVariables false
set_option linter.unusedSimpArgs false

theorem rangeAt_below {w W : World} {b o : Nat} {c : Ch} {dv : Value} (h : w.rangeAt b o (chCells c dv)) (hb : Below w.heap.size w W) : W.rangeAt b o (chCells c dv) := fun j v hj => by
  have h0 := h 0 _ rfl
  have hlt : b < w.heap.size := by
    rcases Nat.lt_or_ge b w.heap.size with h' | h'
    · exact h'
    · simp [World.cell?, h'] at h0
  exact (hb.cell (p := ⟨b, o + j, none⟩) hlt).trans (h j v hj)

set_option maxRecDepth 100000 in
set_option maxHeartbeats 4000000 in
theorem sameAll_eq (v1 v2 : Value) (L : List Ch) (w : World) (h1 : IsH w v1 L) (h2 : IsH w v2 L) :
    Calls Tryz.prog 9 #[v1, v2] w fun e w' => e = .returned (.bool true) ∧ Below w.heap.size w w' := by
  obtain ⟨a1, c1, rfl, hc1, hl1, r1⟩ := h1
  obtain ⟨a2, c2, rfl, hc2, hl2, r2⟩ := h2
  have R1 : Hid (L = [] ∨ ∃ b o, a1 = some ⟨b, o, none⟩ ∧ ChsAt w b o L) := r1
  have R2 : Hid (L = [] ∨ ∃ b o, a2 = some ⟨b, o, none⟩ ∧ ChsAt w b o L) := r2
  have q : ((L.length : Int) != (L.length : Int)) = false := by simp
  clear r1 r2
  go_enter Tryz.func9, Tryz.ntmps9
  go_wp2
  go_loopw [5] (fun i wr => ∃ k : Nat, k ≤ L.length ∧ i = .int .i64 (k : Int) ∧ Below w.heap.size w wr) (fun i _ => L.length - (intOf i).toNat)
  case atStart => exact ⟨0, Nat.zero_le _, rfl, Below.refl _ _⟩
  case round =>
    obtain ⟨k, hk, rfl, hb⟩ := hrel
    by_cases hlt : k < L.length
    · obtain ⟨b1, o1, rfl, g1⟩ := R1.out.resolve_left (by intro e; subst e; simp at hlt)
      obtain ⟨b2, o2, rfl, g2⟩ := R2.out.resolve_left (by intro e; subst e; simp at hlt)
      obtain ⟨a3, c3, i3, hs3, x3⟩ := (g1 k hlt).open
      obtain ⟨a4, c4, i4, hs4, x4⟩ := (g2 k hlt).open
      have k1 : (k : Int) < (L.length : Int) := by omega
      have k0 : (0 : Int) ≤ (k : Int) := by omega
      generalize L[k] = c at *
      have X3 : Hid (w.rangeAt b1 (o1 + k * 13) (chCells c (.slice a3 c.deps.length c3))) := x3
      have X4 : Hid (w.rangeAt b2 (o2 + k * 13) (chCells c (.slice a4 c.deps.length c4))) := x4
      have I3 : Hid (IsI w (.slice a3 c.deps.length c3) c.deps) := i3
      have I4 : Hid (IsI w (.slice a4 c.deps.length c4) c.deps) := i4
      have HB : Hid (Below w.heap.size w wr) := hb
      have hsw := hb.size
      clear g1 g2 i3 i4 hs3 hs4 x3 x4 hb
      go_upto_region 6 with fail
      refine wp_region_held_drew (S := fun W' => Below w.heap.size w W') (by kernel_rfl) (below_drewN HB.out 1) (fun hHeld => ?_)
      obtain ⟨Ua0, eW⟩ : ∃ X, X = wr.drew := ⟨_, rfl⟩
      rw [← eW] at hHeld ⊢
      clear eW
      refine tkW 0 (some 17) (v := ?_) ?_ hHeld ?_
      rotate_left
      · (intro w hSw; (try dsimp only at hSw); go_simp; try with_reducible rfl)
      refine tkW 1 (some 18) (v := ?_) ?_ hHeld ?_
      rotate_left
      · (intro w hSw; (try dsimp only at hSw); go_simp; try with_reducible rfl)
      refine tkW 2 (some 19) (v := ?_) ?_ hHeld ?_
      rotate_left
      · (intro w hSw; (try dsimp only at hSw); go_simp; try with_reducible rfl)
      refine wpAnyH_take (i := 3) (oi := ⟨some 20, _, _, _, _, _⟩) (v := .agg (chCells c (.slice a3 c.deps.length c3)).toArray) rfl (by kernel_rfl) (by kernel_rfl) (by kernel_rfl) (fun _ _ _ h => h) (yieldsIf_load_mid (by rfl) 38 (.tmp 19) rfl b1 (o1 + k * 13) rfl (chCells c (.slice a3 c.deps.length c3)) _ (fun W hS => rangeAt_below X3.out hS) Tryz.underlying38 rfl sizeChange) hHeld ?_
      simp only [Act.put, List.setIfInBounds_toArray, List.set_cons_zero, List.set_cons_succ]
      refine tkW 4 (some 21) (v := ?_) ?_ hHeld ?_
      rotate_left
      · (intro w hSw; (try dsimp only at hSw); go_simp; try with_reducible rfl)
      refine tkW 5 (some 22) (v := ?_) ?_ hHeld ?_
      rotate_left
      · (intro w hSw; (try dsimp only at hSw); go_simp; try with_reducible rfl)
      refine tkW 6 (some 23) (v := ?_) ?_ hHeld ?_
      rotate_left
      · (intro w hSw; (try dsimp only at hSw); go_simp; try with_reducible rfl)
      refine wpAnyH_take (i := 7) (oi := ⟨some 24, _, _, _, _, _⟩) (v := .agg (chCells c (.slice a4 c.deps.length c4)).toArray) rfl (by kernel_rfl) (by kernel_rfl) (by kernel_rfl) (fun _ _ _ h => h) (yieldsIf_load_mid (by rfl) 38 (.tmp 23) rfl b2 (o2 + k * 13) rfl (chCells c (.slice a4 c.deps.length c4)) _ (fun W hS => rangeAt_below X4.out hS) Tryz.underlying38 rfl sizeChange) hHeld ?_
      simp only [Act.put, List.setIfInBounds_toArray, List.set_cons_zero, List.set_cons_succ]
      refine wpAnyH_ready (rs := [8]) (by kernel_rfl) (by simp) ?_
      refine AllReadyH.cons (o := ⟨some 25, _, _, _, _, _⟩) rfl (fun K hK => ?_) AllReadyH.nil
      go_simp
      refine (refSameCh_eq c.ac c.ar c.seq (.slice a3 c.deps.length c3) (.slice a4 c.deps.length c4) c.kind c.nc c.nr c.pc c.pr c.fc c.fr c.name c.value c.deps _ (I3.out.below hHeld) (I4.out.below hHeld)).mono ?_
      rintro e Va1 ⟨rfl, hb⟩
      (try go_wp2_with fail)
      refine hK.out _ _ (hHeld.trans (hb.mono hHeld.size)) (fun hHeld2 => ?_)
      clear hK K hHeld
      have hHeld := hHeld2
      clear hHeld2
      (try simp only [Act.put, List.setIfInBounds_toArray, List.set_cons_zero, List.set_cons_succ])
      clear hb
      refine tkW 9 (some 26) (v := ?_) ?_ hHeld ?_
      rotate_left
      · (intro w hSw; (try dsimp only at hSw); go_simp; try with_reducible rfl)
      refine wpAnyH_done (by kernel_rfl) ?_ _
      have HZ := hHeld
      clear hHeld
      go_wp2
      go_roundw
      case rel => exact ⟨k + 1, by omega, by go_num, HZ⟩
      case measure => simp [intOf]; omega
    · go_wp2
      go_ret
      exact ⟨rfl, hb⟩

end Go.Proofs.YtngldpabfpcaiaaGreat

namespace Go.Proofs.YtngldpabfpcaiaaGreat
open Go.RowKit
set_option linter.unusedVariables false
set_option linter.unusedSimpArgs false

theorem all_any (v : Value) (room : Int) (L : List Ch) (F : Nat → Prop) (w : World) (h : LogV F w v room L) (hg : Good L) (hl : L.length ≤ 4096) :
    Calls Tryz.prog 10 #[v] w fun e w' => ∃ v' E, e = .returned v' ∧ E.map Prod.fst = L ∧ OwnH w.heap.size w' v' E ∧ (∀ x ∈ E, OwnI w.heap.size w' x.2 x.1.deps ∧ Sized x.1 ∧ x.1.deps.length ≤ 17592186044416) ∧ Below w.heap.size w w' :=
  (callsIn_wide.1 (all_in 5 (Nat.le_refl _) v room L F w h hg.srt hl)).mono fun e w' ⟨v', E, h1, h2, h3⟩ => ⟨v', E, h1, h2.trans (lackL_all hg), h3⟩

set_option maxRecDepth 100000 in
set_option maxHeartbeats 16000000 in
theorem unionWalk (lv : Value) (l : List Ch) (wv : Value) (wd : List Bool) (most : Int) (w0 : World) (h : IsH w0 lv l) (hw : IsBo w0 wv wd) :
    Calls Tryz.prog 4 #[.agg #[lv, wv], .int .i64 most] w0 fun e w' => e = .returned (.bool true) ∧ Below w0.heap.size w0 w' := by
  obtain ⟨a1, c1, e1⟩ := h.form
  subst e1
  obtain ⟨a2, c2, e2, _⟩ := id hw
  subst e2
  obtain ⟨w, ew⟩ : ∃ X, X = w0.alloc (.cells #[.slice a1 l.length c1, .slice a2 wd.length c2] 46) := ⟨_, rfl⟩
  obtain ⟨pb, epb⟩ : ∃ b, b = w0.heap.size := ⟨_, rfl⟩
  have hb0 : Below w0.heap.size w0 w := by rw [ew]; exact (Below.refl _ _).alloc (Nat.le_refl _) _
  have HPB : Hid (w.heap[pb]? = some (.cells #[.slice a1 l.length c1, .slice a2 wd.length c2] 46)) := by rw [epb, ew]; exact heap_alloc_new _ _
  have HH : Hid (IsH w (.slice a1 l.length c1) l) := h.below hb0
  have HW : Hid (IsBo w (.slice a2 wd.length c2) wd) := hw.below hb0
  have HB0w : Hid (Below w0.heap.size w0 w) := hb0
  have HC0 : Hid (∀ W', Below w.heap.size w W' → W'.cell? ⟨pb, 0, none⟩ = some (.slice a1 l.length c1) ∧ W'.cell? ⟨pb, 1, none⟩ = some (.slice a2 wd.length c2)) := by
    obtain ⟨pb_0, pb_1, _, _⟩ := row2_cells HPB.out
    exact fun W' hb => ⟨(hb.cell (p := ⟨pb, 0, none⟩) (row_lt HPB.out)).trans pb_0, (hb.cell (p := ⟨pb, 1, none⟩) (row_lt HPB.out)).trans pb_1⟩
  clear h hw hb0
  go_enter Tryz.func4, Tryz.ntmps4
  go_wp2_with fail
  rw [← ew, ← epb]
  clear ew epb
  refine (new_any 4096 _).mono ?_
  rintro e w1 ⟨h, hb1⟩
  rcases h with ⟨h, _⟩ | ⟨_, la, Fa, rfl, hLa, hFa⟩
  · omega
  go_wp2_with fail
  refine (new_any 4096 _).mono ?_
  rintro e w2 ⟨h, hb2⟩
  rcases h with ⟨h, _⟩ | ⟨_, lb, Fb, rfl, hLb, hFb⟩
  · omega
  have hb12 : Below w.heap.size w w2 := hb1.trans (hb2.mono hb1.size)
  obtain ⟨b_0, b_1⟩ := HC0.out _ hb12
  by_cases h500 : 500 < l.length
  · have h5 : (500 : Int) < (l.length : Int) := by omega
    have HB2 : Hid (Below w0.heap.size w0 w2) := HB0w.out.trans (hb12.mono HB0w.out.size)
    clear hLa hLb hFa hFb hb1 hb2 hb12
    go_wp2_with (go_at_call 12; refine (awake_any _).mono ?_; rintro e w4 ⟨rfl, hb4⟩)
    go_ret
    exact ⟨rfl, HB2.out.trans (hb4.mono HB2.out.size)⟩
  have h5 : ¬ (500 : Int) < (l.length : Int) := by omega
  obtain ⟨W2, eW2⟩ : ∃ X, X = w2.alloc (.cells #[.int .i64 4096, .slice none 0 0] 26) := ⟨_, rfl⟩
  obtain ⟨yb, eyb⟩ : ∃ b, b = w2.heap.size := ⟨_, rfl⟩
  have hb3 : Below w2.heap.size w2 W2 := by rw [eW2]; exact (Below.refl _ _).alloc (Nat.le_refl _) _
  have HA1 : Hid (UnS w la lb Fa Fb (fun _ => False) [] [] [] yb (.slice none 0 0) (.slice none 0 0) [] (.slice none 0 0) [] (.slice none 0 0) W2) := by
    have h1 := hb1.size
    have h2 := hb2.size
    refine ⟨(hLa.below hb2).below hb3, hLb.below hb3, ⟨fun k q => q.elim, none, 0, rfl, Nat.le_refl _, by simp, .inl rfl⟩, ⟨fun k q => q.elim, none, 0, rfl, Nat.le_refl _, by simp, .inl rfl⟩, IsG.nil _ _, by rw [eyb, eW2]; exact heap_alloc_new _ _, fun k q q2 => by have := hFb k q; have := hLa.lt k q2; omega, fun k q => ⟨fun q => q, by have := hLa.lt k q; omega, hFa k q⟩, fun k q => ⟨fun q => q, by have := hLb.lt k q; omega, by have := hFb k q; omega⟩, fun q => q, by omega, hb12.trans (hb3.mono hb12.size)⟩
  have HU1 : Hid (UnP [] [] []) := UnP.none
  clear hLa hLb hFa hFb hb1 hb2 hb12 hb3
  go_wp2
  rw [← eW2, ← eyb]
  clear eW2 eyb b_0 b_1
  go_loopw [10] (fun iv wr => ∃ (i : Nat) (M A B : List Ch) (Fa Fb G : Nat → Prop) (yv : Value), i ≤ l.length ∧ iv = .int .i64 (i : Int) ∧ Hid (UnS w la lb Fa Fb G A B M yb yv yv [] (.slice none 0 0) [] (.slice none 0 0) wr) ∧ Hid (UnP M A B)) (fun iv _ => l.length - (intOf iv).toNat)
  case atStart => exact ⟨0, [], [], [], Fa, Fb, _, _, Nat.zero_le _, rfl, HA1, HU1⟩
  case round =>
    obtain ⟨i, M, A, B, Fa, Fb, G, yv, hi, rfl, HA, HUP⟩ := hrel
    clear HA1 HU1
    obtain ⟨ay, cy, ey⟩ := HA.out.doc.isH.form
    subst ey
    by_cases hlt : i < l.length
    · obtain ⟨_, _, e, _, hll, hrow⟩ := HH.out
      simp only [Value.slice.injEq] at e
      obtain ⟨e1, _, e3⟩ := e
      subst e1 e3
      obtain ⟨b, o, eb, hrow2⟩ := hrow.resolve_left (by intro e; rw [e] at hlt; simp at hlt)
      subst eb
      obtain ⟨a3, c3, hI3, hS3, q_0, q_1, q_2, q_3, q_4, q_5, q_6, q_7, q_8, q_9, q_10, q_11, q_12⟩ := (hrow2 i hlt).all
      have hbl : b < w.heap.size := cell_lt q_0
      have i1 : (i : Int) < (l.length : Int) := by omega
      have i0 : (0 : Int) ≤ (i : Int) := by omega
      clear hrow hrow2
      generalize l[i] = x at *
      obtain ⟨ac, ar, sq, ds, kd, nc, nr, pc, pr, fc, fr, nm, vl⟩ := x
      simp only at q_0 q_1 q_2 q_3 q_4 q_5 q_6 q_7 q_8 q_9 q_10 q_11 q_12 hI3 hS3
      have HC : Hid (∀ W', Below w.heap.size w W' → W'.cell? ⟨pb, 0, none⟩ = some (.slice (some ⟨b, o, none⟩) l.length c1) ∧ W'.cell? ⟨pb, 1, none⟩ = some (.slice a2 wd.length c2) ∧ W'.cell? ⟨b, o + i * 13, none⟩ = some (.int .i64 ac) ∧ W'.cell? ⟨b, o + i * 13 + 1, none⟩ = some (.int .i64 ar) ∧ W'.cell? ⟨b, o + i * 13 + 2, none⟩ = some (.int .i64 sq) ∧ W'.cell? ⟨b, o + i * 13 + 3, none⟩ = some (.slice a3 ds.length c3) ∧ W'.cell? ⟨b, o + i * 13 + 4, none⟩ = some (.int .i64 kd) ∧ W'.cell? ⟨b, o + i * 13 + 5, none⟩ = some (.int .i64 nc) ∧ W'.cell? ⟨b, o + i * 13 + 6, none⟩ = some (.int .i64 nr) ∧ W'.cell? ⟨b, o + i * 13 + 7, none⟩ = some (.int .i64 pc) ∧ W'.cell? ⟨b, o + i * 13 + 8, none⟩ = some (.int .i64 pr) ∧ W'.cell? ⟨b, o + i * 13 + 9, none⟩ = some (.int .i64 fc) ∧ W'.cell? ⟨b, o + i * 13 + 10, none⟩ = some (.int .i64 fr) ∧ W'.cell? ⟨b, o + i * 13 + 11, none⟩ = some (.string nm) ∧ W'.cell? ⟨b, o + i * 13 + 12, none⟩ = some (.string vl)) := fun W' hb => ⟨(HC0.out W' hb).1, (HC0.out W' hb).2, (hb.cell (p := ⟨b, o + i * 13, none⟩) hbl).trans q_0, (hb.cell (p := ⟨b, o + i * 13 + 1, none⟩) hbl).trans q_1, (hb.cell (p := ⟨b, o + i * 13 + 2, none⟩) hbl).trans q_2, (hb.cell (p := ⟨b, o + i * 13 + 3, none⟩) hbl).trans q_3, (hb.cell (p := ⟨b, o + i * 13 + 4, none⟩) hbl).trans q_4, (hb.cell (p := ⟨b, o + i * 13 + 5, none⟩) hbl).trans q_5, (hb.cell (p := ⟨b, o + i * 13 + 6, none⟩) hbl).trans q_6, (hb.cell (p := ⟨b, o + i * 13 + 7, none⟩) hbl).trans q_7, (hb.cell (p := ⟨b, o + i * 13 + 8, none⟩) hbl).trans q_8, (hb.cell (p := ⟨b, o + i * 13 + 9, none⟩) hbl).trans q_9, (hb.cell (p := ⟨b, o + i * 13 + 10, none⟩) hbl).trans q_10, (hb.cell (p := ⟨b, o + i * 13 + 11, none⟩) hbl).trans q_11, (hb.cell (p := ⟨b, o + i * 13 + 12, none⟩) hbl).trans q_12⟩
      have HIc : Hid (IsI w (.slice a3 ds.length c3) ds) := hI3
      have HSz : Hid (Sized (⟨ac, ar, sq, ds, kd, nc, nr, pc, pr, fc, fr, nm, vl⟩ : Ch)) := hS3
      obtain ⟨b_0, b_1, k_0, k_1, k_2, k_3, k_4, k_5, k_6, k_7, k_8, k_9, k_10, k_11, k_12⟩ := HC.out _ HA.out.bel
      clear hI3 hS3 q_0 q_1 q_2 q_3 q_4 q_5 q_6 q_7 q_8 q_9 q_10 q_11 q_12 hbl
      go_upto_region 11 with fail
      clear b_0 b_1 k_0 k_1 k_2 k_3 k_4 k_5 k_6 k_7 k_8 k_9 k_10 k_11 k_12
      refine wp_region_held_drew (S := fun W' => Below w.heap.size w W' ∧ W'.heap[yb]? = some (.cells #[.int .i64 4096, .slice ay M.length cy] 26)) (by kernel_rfl) ⟨HA.out.bel.trans ((Below.refl _ _).drew.mono HA.out.bel.size), HA.out.box⟩ (fun hHeld => ?_)
      obtain ⟨Ug1u0, eW⟩ : ∃ X, X = wr.drew := ⟨_, rfl⟩
      have hb : Below wr.heap.size wr Ug1u0 := by rw [eW]; exact (Below.refl _ _).drew
      replace HA : Hid (UnS w la lb Fa Fb G A B M yb (.slice ay M.length cy) (.slice ay M.length cy) [] (.slice none 0 0) [] (.slice none 0 0) Ug1u0) := HA.out.below hb
      rw [← eW] at hHeld ⊢
      clear eW hb
      refine tkW 0 (some 59) (v := ?_) ?_ hHeld ?_
      rotate_left
      · (intro w hSw; (try dsimp only at hSw); obtain ⟨hk, hy⟩ := hSw; obtain ⟨b_0, b_1, k_0, k_1, k_2, k_3, k_4, k_5, k_6, k_7, k_8, k_9, k_10, k_11, k_12⟩ := HC.out _ hk; obtain ⟨x_0, x_1, _, _⟩ := row2_cells hy; go_simp; try with_reducible rfl)
      refine tkW 1 (some 60) (v := ?_) ?_ hHeld ?_
      rotate_left
      · (intro w _; go_simp; try with_reducible rfl)
      refine tkW 2 (some 61) (v := ?_) ?_ hHeld ?_
      rotate_left
      · (intro w hSw; (try dsimp only at hSw); obtain ⟨hk, hy⟩ := hSw; obtain ⟨b_0, b_1, k_0, k_1, k_2, k_3, k_4, k_5, k_6, k_7, k_8, k_9, k_10, k_11, k_12⟩ := HC.out _ hk; obtain ⟨x_0, x_1, _, _⟩ := row2_cells hy; go_simp; try with_reducible rfl)
      refine tkW 3 (some 62) (v := ?_) ?_ hHeld ?_
      rotate_left
      · (intro w _; go_simp; try with_reducible rfl)
      refine tkW 4 (some 63) (v := ?_) ?_ hHeld ?_
      rotate_left
      · (intro w hSw; (try dsimp only at hSw); obtain ⟨hk, hy⟩ := hSw; obtain ⟨b_0, b_1, k_0, k_1, k_2, k_3, k_4, k_5, k_6, k_7, k_8, k_9, k_10, k_11, k_12⟩ := HC.out _ hk; obtain ⟨x_0, x_1, _, _⟩ := row2_cells hy; go_simp; try with_reducible rfl)
      refine tkW 5 (some 64) (v := ?_) ?_ hHeld ?_
      rotate_left
      · (intro w hSw; (try dsimp only at hSw); obtain ⟨hk, hy⟩ := hSw; obtain ⟨b_0, b_1, k_0, k_1, k_2, k_3, k_4, k_5, k_6, k_7, k_8, k_9, k_10, k_11, k_12⟩ := HC.out _ hk; obtain ⟨x_0, x_1, _, _⟩ := row2_cells hy; go_simp; try with_reducible rfl)
      refine wpAnyH_ready (rs := [6, 10]) (by kernel_rfl) (by simp) ?_
      refine AllReadyH.cons (o := ⟨some 65, _, _, _, _, _⟩) rfl (fun K hK => ?_) (AllReadyH.cons (o := ⟨some 11, _, _, _, _, _⟩) rfl (fun K hK => ?_) AllReadyH.nil)
      · have HN6 : Hid (UnS w la lb Fa Fb G A B M yb (.slice ay M.length cy) (.slice ay M.length cy) [] (.slice none 0 0) [] (.slice none 0 0) Ug1u0) := HA.out
        go_simp
        refine (refAdd_any G _ M 4096 ac ar sq (.slice a3 ds.length c3) kd nc nr pc pr fc fr nm vl ds Ug1u0 HA.out.doc (HIc.out.below HA.out.bel) HSz.out HUP.out.le).mono ?_
        rintro e Ug1u1 ⟨v6, rfl, hf6, hb⟩
        (try go_wp2_with fail)
        refine hK.out _ _ (⟨hHeld.1.trans (hb.mono hHeld.1.size), (hb.block _ (row_lt hHeld.2)).trans hHeld.2⟩) (fun hHeld2 => ?_)
        clear hK K hHeld
        have hHeld := hHeld2
        clear hHeld2
        (try simp only [Act.put, List.setIfInBounds_toArray, List.set_cons_zero, List.set_cons_succ])
        replace HA : Hid (UnS w la lb Fa Fb G A B M yb (.slice ay M.length cy) (.slice ay M.length cy) [] (.slice none 0 0) [] (.slice none 0 0) Ug1u1) := HA.out.below hb
        obtain ⟨a6, c6, e6⟩ := hf6.isH.form
        subst e6
        obtain ⟨G2, eG2⟩ : ∃ G2 : Nat → Prop, G2 = fun k => G k ∨ (Ug1u0.heap.size ≤ k ∧ k < Ug1u1.heap.size) := ⟨_, rfl⟩
        have HF6 : Hid (UnS w la lb Fa Fb G2 A B (addL M 4096 (⟨ac, ar, sq, ds, kd, nc, nr, pc, pr, fc, fr, nm, vl⟩ : Ch)) yb (.slice a6 (addL M 4096 (⟨ac, ar, sq, ds, kd, nc, nr, pc, pr, fc, fr, nm, vl⟩ : Ch)).length c6) (.slice ay M.length cy) [] (.slice none 0 0) [] (.slice none 0 0) Ug1u1) := by rw [eG2]; exact (HN6.out.grow hb (fun k q => .inl q) (fun k q => q)).docTo hf6
        clear hf6 eG2 HN6
        clear hb
        refine tkW 7 (some 58) (v := ?_) ?_ hHeld ?_
        rotate_left
        · (intro w _; go_simp; try with_reducible rfl)
        refine tkW 8 (some 66) (v := ?_) ?_ hHeld ?_
        rotate_left
        · (intro w _; go_simp; try with_reducible rfl)
        refine tkW 9 (some 67) (v := ?_) ?_ hHeld ?_
        rotate_left
        · (intro w _; go_simp; try with_reducible rfl)
        refine wpAnyH_ready (rs := [10]) (by kernel_rfl) (by simp) ?_
        refine AllReadyH.cons (o := ⟨some 11, _, _, _, _, _⟩) rfl (fun K hK => ?_) AllReadyH.nil
        have HZ0 : Hid (¬ (Fa Ug1u1.heap.size ∨ Fb Ug1u1.heap.size ∨ G2 Ug1u1.heap.size ∨ Ug1u1.heap.size = yb) ∧ w.heap.size ≤ Ug1u1.heap.size) := HF6.out.fresh
        go_simp
        refine hK.out _ _ (⟨hHeld.1.trans (((Below.refl _ _).alloc (Nat.le_refl _) _).mono hHeld.1.size), (((Below.refl _ _).alloc (Nat.le_refl _) _).block _ (row_lt hHeld.2)).trans hHeld.2⟩) (fun hHeld2 => ?_)
        clear hK K hHeld
        have hHeld := hHeld2
        clear hHeld2
        (try simp only [Act.put, List.setIfInBounds_toArray, List.set_cons_zero, List.set_cons_succ])
        obtain ⟨Ug1u2, eW⟩ : ∃ X, X = Ug1u1.alloc (.cells #[.int .i64 0, .slice none 0 0] 26) := ⟨_, rfl⟩
        have hb : Below Ug1u1.heap.size Ug1u1 Ug1u2 := by rw [eW]; exact (Below.refl _ _).alloc (Nat.le_refl _) _
        replace HA : Hid (UnS w la lb Fa Fb G A B M yb (.slice ay M.length cy) (.slice ay M.length cy) [] (.slice none 0 0) [] (.slice none 0 0) Ug1u2) := HA.out.below hb
        replace HF6 : Hid (UnS w la lb Fa Fb G2 A B (addL M 4096 (⟨ac, ar, sq, ds, kd, nc, nr, pc, pr, fc, fr, nm, vl⟩ : Ch)) yb (.slice a6 (addL M 4096 (⟨ac, ar, sq, ds, kd, nc, nr, pc, pr, fc, fr, nm, vl⟩ : Ch)).length c6) (.slice ay M.length cy) [] (.slice none 0 0) [] (.slice none 0 0) Ug1u2) := HF6.out.below hb
        obtain ⟨zb, ezb⟩ : ∃ b, b = Ug1u1.heap.size := ⟨_, rfl⟩
        rw [← eW] at hHeld ⊢
        (try rw [← ezb])
        have HZ : Hid (BxL zb Ug1u2) := by rw [ezb, eW]; exact heap_alloc_new _ _
        have HZn : Hid (¬ (Fa zb ∨ Fb zb ∨ G2 zb ∨ zb = yb) ∧ w.heap.size ≤ zb) := by rw [ezb]; exact HZ0.out
        have HZ6 : Hid (¬ G2 zb) := fun q => HZn.out.1 (.inr (.inr (.inl q)))
        clear eW
        clear ezb
        clear hb
        refine wpAnyH_ready (rs := [11]) (by kernel_rfl) (by simp) ?_
        refine AllReadyH.cons (o := ⟨none, _, _, _, _, _⟩) rfl (fun K hK => ?_) AllReadyH.nil
        obtain ⟨r_0, r_1, r_2, r_3⟩ := row2_cells HZ.out
        go_simp
        refine hK.out _ _ (⟨((HF6.out.far (i := 0) (v := .int .i64 4096) ⟨fun q => by rcases q with q | q | q | q; exact HZn.out.1 (.inl q); exact HZn.out.1 (.inr (.inl q)); exact HZ6.out q; exact HZn.out.1 (.inr (.inr (.inr q))), HZn.out.2⟩).far (i := 1) (v := (.slice a6 (addL M 4096 (⟨ac, ar, sq, ds, kd, nc, nr, pc, pr, fc, fr, nm, vl⟩ : Ch)).length c6)) ⟨fun q => by rcases q with q | q | q | q; exact HZn.out.1 (.inl q); exact HZn.out.1 (.inr (.inl q)); exact HZ6.out q; exact HZn.out.1 (.inr (.inr (.inr q))), HZn.out.2⟩).bel, ((HF6.out.far (i := 0) (v := .int .i64 4096) ⟨fun q => by rcases q with q | q | q | q; exact HZn.out.1 (.inl q); exact HZn.out.1 (.inr (.inl q)); exact HZ6.out q; exact HZn.out.1 (.inr (.inr (.inr q))), HZn.out.2⟩).far (i := 1) (v := (.slice a6 (addL M 4096 (⟨ac, ar, sq, ds, kd, nc, nr, pc, pr, fc, fr, nm, vl⟩ : Ch)).length c6)) ⟨fun q => by rcases q with q | q | q | q; exact HZn.out.1 (.inl q); exact HZn.out.1 (.inr (.inl q)); exact HZ6.out q; exact HZn.out.1 (.inr (.inr (.inr q))), HZn.out.2⟩).box⟩) (fun hHeld2 => ?_)
        clear hK K hHeld
        have hHeld := hHeld2
        clear hHeld2
        (try simp only [Act.put, List.setIfInBounds_toArray, List.set_cons_zero, List.set_cons_succ])
        have HA9 : Hid (UnS w la lb Fa Fb G2 A B (addL M 4096 (⟨ac, ar, sq, ds, kd, nc, nr, pc, pr, fc, fr, nm, vl⟩ : Ch)) yb (.slice a6 (addL M 4096 (⟨ac, ar, sq, ds, kd, nc, nr, pc, pr, fc, fr, nm, vl⟩ : Ch)).length c6) (.slice ay M.length cy) [] (.slice none 0 0) [] (.slice none 0 0) ((Ug1u2.setCell ⟨zb, 0, none⟩ (.int .i64 4096)).setCell ⟨zb, 1, none⟩ (.slice a6 (addL M 4096 (⟨ac, ar, sq, ds, kd, nc, nr, pc, pr, fc, fr, nm, vl⟩ : Ch)).length c6))) := (HF6.out.far (i := 0) (v := .int .i64 4096) ⟨fun q => by rcases q with q | q | q | q; exact HZn.out.1 (.inl q); exact HZn.out.1 (.inr (.inl q)); exact HZ6.out q; exact HZn.out.1 (.inr (.inr (.inr q))), HZn.out.2⟩).far (i := 1) (v := (.slice a6 (addL M 4096 (⟨ac, ar, sq, ds, kd, nc, nr, pc, pr, fc, fr, nm, vl⟩ : Ch)).length c6)) ⟨fun q => by rcases q with q | q | q | q; exact HZn.out.1 (.inl q); exact HZn.out.1 (.inr (.inl q)); exact HZ6.out q; exact HZn.out.1 (.inr (.inr (.inr q))), HZn.out.2⟩
        have HZ9 : Hid (((Ug1u2.setCell ⟨zb, 0, none⟩ (.int .i64 4096)).setCell ⟨zb, 1, none⟩ (.slice a6 (addL M 4096 (⟨ac, ar, sq, ds, kd, nc, nr, pc, pr, fc, fr, nm, vl⟩ : Ch)).length c6)).heap[zb]? = some (.cells #[.int .i64 4096, (.slice a6 (addL M 4096 (⟨ac, ar, sq, ds, kd, nc, nr, pc, pr, fc, fr, nm, vl⟩ : Ch)).length c6)] 26)) := row_set2 HZ.out
        obtain ⟨W9, eW9⟩ : ∃ X, X = ((Ug1u2.setCell ⟨zb, 0, none⟩ (.int .i64 4096)).setCell ⟨zb, 1, none⟩ (.slice a6 (addL M 4096 (⟨ac, ar, sq, ds, kd, nc, nr, pc, pr, fc, fr, nm, vl⟩ : Ch)).length c6)) := ⟨_, rfl⟩
        rw [← eW9] at HA9 HZ9 hHeld ⊢
        clear eW9 r_0 r_1 r_2 r_3 HF6 HZ HA HZ6 HZn
        refine tkW 12 (some 12) (v := ?_) ?_ hHeld ?_
        rotate_left
        · (intro w _; go_simp; try with_reducible rfl)
        refine wpAnyH_done (by kernel_rfl) ?_ _
        clear hHeld
        obtain ⟨z_0, z_1, _, _⟩ := row2_cells HZ9.out
        obtain ⟨y_0, y_1, y_2, y_3⟩ := row2_cells HA9.out.box
        have HX : Hid (UnS w la lb Fa Fb G2 A B (addL M 4096 (⟨ac, ar, sq, ds, kd, nc, nr, pc, pr, fc, fr, nm, vl⟩ : Ch)) yb (.slice a6 (addL M 4096 (⟨ac, ar, sq, ds, kd, nc, nr, pc, pr, fc, fr, nm, vl⟩ : Ch)).length c6) (.slice a6 (addL M 4096 (⟨ac, ar, sq, ds, kd, nc, nr, pc, pr, fc, fr, nm, vl⟩ : Ch)).length c6) [] (.slice none 0 0) [] (.slice none 0 0) ((W9.setCell ⟨yb, 0, none⟩ (.int .i64 4096)).setCell ⟨yb, 1, none⟩ (.slice a6 (addL M 4096 (⟨ac, ar, sq, ds, kd, nc, nr, pc, pr, fc, fr, nm, vl⟩ : Ch)).length c6))) := HA9.out.put
        obtain ⟨b_0, b_1, k_0, k_1, k_2, k_3, k_4, k_5, k_6, k_7, k_8, k_9, k_10, k_11, k_12⟩ := HC.out _ HX.out.bel
        have HUP2 : Hid (UnP (addL M 4096 (⟨ac, ar, sq, ds, kd, nc, nr, pc, pr, fc, fr, nm, vl⟩ : Ch)) A B ∧ (whyR M 4096 (⟨ac, ar, sq, ds, kd, nc, nr, pc, pr, fc, fr, nm, vl⟩ : Ch) = 0 → (⟨ac, ar, sq, ds, kd, nc, nr, pc, pr, fc, fr, nm, vl⟩ : Ch) ∈ (addL M 4096 (⟨ac, ar, sq, ds, kd, nc, nr, pc, pr, fc, fr, nm, vl⟩ : Ch)))) := by
          by_cases hw : whyR M 4096 (⟨ac, ar, sq, ds, kd, nc, nr, pc, pr, fc, fr, nm, vl⟩ : Ch) = 0
          · exact ⟨HUP.out.whole hw, fun _ => (addL_new hw _).2 (.inr rfl)⟩
          · refine ⟨?_, fun e => absurd e hw⟩
            have e : (addL M 4096 (⟨ac, ar, sq, ds, kd, nc, nr, pc, pr, fc, fr, nm, vl⟩ : Ch)) = M := by unfold addL; rw [if_neg hw]
            rw [e]
            exact HUP.out
        clear HA9 HZ9 HUP
        obtain ⟨M5, eK5⟩ : ∃ X, X = (addL M 4096 (⟨ac, ar, sq, ds, kd, nc, nr, pc, pr, fc, fr, nm, vl⟩ : Ch)) := ⟨_, rfl⟩
        rw [← eK5] at HX HUP2 b_0 b_1 k_0 k_1 k_2 k_3 k_4 k_5 k_6 k_7 k_8 k_9 k_10 k_11 k_12 z_1 ⊢
        clear eK5
        generalize whyR M 4096 (⟨ac, ar, sq, ds, kd, nc, nr, pc, pr, fc, fr, nm, vl⟩ : Ch) = we at *
        by_cases hwe : we = 0
        · subst hwe
          have HUP : Hid (UnP M5 A B) := HUP2.out.1
          have HCK : Hid ((⟨ac, ar, sq, ds, kd, nc, nr, pc, pr, fc, fr, nm, vl⟩ : Ch) ∈ M5) := HUP2.out.2 rfl
          clear HUP2
          by_cases hwh : i < wd.length
          · obtain ⟨_, _, e, _, _, hrow⟩ := HW.out
            simp only [Value.slice.injEq] at e
            obtain ⟨e1, _, e3⟩ := e
            subst e1 e3
            obtain ⟨b8, o8, e8, hrow2⟩ := hrow.resolve_left (by intro e; rw [e] at hwh; simp at hwh)
            subst e8
            have HWc : Hid (∀ W', Below w.heap.size w W' → W'.cell? ⟨b8, o8 + i, none⟩ = some (.bool wd[i])) := fun W' hb => (hb.cell (p := ⟨b8, o8 + i, none⟩) (cell_lt (hrow2 i hwh))).trans (hrow2 i hwh)
            have g1 : ¬ (wd.length : Int) ≤ (i : Int) := by omega
            have g2 : decide ((wd.length : Int) ≤ (i : Int)) = false := by simp; omega
            have g3 : (i : Int) < (wd.length : Int) := by omega
            have x_8 := HWc.out _ HX.out.bel
            clear hrow hrow2
            generalize wd[i] = who at *
            cases who with
            | true =>
              go_wp2_with fail
              clear b_0 b_1 k_0 k_1 k_2 k_3 k_4 k_5 k_6 k_7 k_8 k_9 k_10 k_11 k_12
              refine (add_any Fa la 4096 A (⟨ac, ar, sq, ds, kd, nc, nr, pc, pr, fc, fr, nm, vl⟩ : Ch) (.slice a3 ds.length c3) _ HX.out.loga HUP.out.ga (by have := HUP.out.lea; omega) (by omega) (HIc.out.below HX.out.bel) HSz.out).mono ?_
              rintro e w5 ⟨rfl, F5, hL5, _, hf5, ht5⟩
              have HX5 : Hid (UnS w la lb F5 Fb G2 (addL A 4096 (⟨ac, ar, sq, ds, kd, nc, nr, pc, pr, fc, fr, nm, vl⟩ : Ch)) B M5 yb (.slice a6 M5.length c6) (.slice a6 M5.length c6) [] (.slice none 0 0) [] (.slice none 0 0) w5) := HX.out.addA hL5 hf5 ht5
              replace HUP : Hid (UnP M5 (addL A 4096 (⟨ac, ar, sq, ds, kd, nc, nr, pc, pr, fc, fr, nm, vl⟩ : Ch)) B) := HUP.out.addA HCK.out
              generalize whyR A 4096 (⟨ac, ar, sq, ds, kd, nc, nr, pc, pr, fc, fr, nm, vl⟩ : Ch) = eA at *
              clear hL5 hf5 ht5 HX
              obtain ⟨b_0, b_1, k_0, k_1, k_2, k_3, k_4, k_5, k_6, k_7, k_8, k_9, k_10, k_11, k_12⟩ := HC.out _ HX5.out.bel
              obtain ⟨A5, eA5⟩ : ∃ X, X = addL A 4096 (⟨ac, ar, sq, ds, kd, nc, nr, pc, pr, fc, fr, nm, vl⟩ : Ch) := ⟨_, rfl⟩
              rw [← eA5] at HX5 HUP
              clear eA5
              (try clear x_8)
              have x_8 := HWc.out _ HX5.out.bel
              go_wp2
              go_roundw
              case rel => exact ⟨i + 1, M5, A5, B, F5, Fb, G2, (.slice a6 M5.length c6), by omega, by go_num, HX5, HUP⟩
              case measure => simp [intOf]; omega
            | false =>
              go_wp2_with fail
              clear b_0 b_1 k_0 k_1 k_2 k_3 k_4 k_5 k_6 k_7 k_8 k_9 k_10 k_11 k_12
              refine (add_any Fb lb 4096 B (⟨ac, ar, sq, ds, kd, nc, nr, pc, pr, fc, fr, nm, vl⟩ : Ch) (.slice a3 ds.length c3) _ HX.out.logb HUP.out.gb (by have := HUP.out.leb; omega) (by omega) (HIc.out.below HX.out.bel) HSz.out).mono ?_
              rintro e w6 ⟨rfl, F6, hL5, _, hf5, ht5⟩
              have HX6 : Hid (UnS w la lb Fa F6 G2 A (addL B 4096 (⟨ac, ar, sq, ds, kd, nc, nr, pc, pr, fc, fr, nm, vl⟩ : Ch)) M5 yb (.slice a6 M5.length c6) (.slice a6 M5.length c6) [] (.slice none 0 0) [] (.slice none 0 0) w6) := HX.out.addB hL5 hf5 ht5
              replace HUP : Hid (UnP M5 A (addL B 4096 (⟨ac, ar, sq, ds, kd, nc, nr, pc, pr, fc, fr, nm, vl⟩ : Ch))) := HUP.out.addB HCK.out
              generalize whyR B 4096 (⟨ac, ar, sq, ds, kd, nc, nr, pc, pr, fc, fr, nm, vl⟩ : Ch) = eB at *
              clear hL5 hf5 ht5 HX
              obtain ⟨b_0, b_1, k_0, k_1, k_2, k_3, k_4, k_5, k_6, k_7, k_8, k_9, k_10, k_11, k_12⟩ := HC.out _ HX6.out.bel
              obtain ⟨B5, eB5⟩ : ∃ X, X = addL B 4096 (⟨ac, ar, sq, ds, kd, nc, nr, pc, pr, fc, fr, nm, vl⟩ : Ch) := ⟨_, rfl⟩
              rw [← eB5] at HX6 HUP
              clear eB5
              go_wp2
              go_roundw
              case rel => exact ⟨i + 1, M5, A, B5, Fa, F6, G2, (.slice a6 M5.length c6), by omega, by go_num, HX6, HUP⟩
              case measure => simp [intOf]; omega
          · have g1 : (wd.length : Int) ≤ (i : Int) := by omega
            have g2 : decide ((wd.length : Int) ≤ (i : Int)) = true := by simp; omega
            go_wp2_with fail
            clear b_0 b_1 k_0 k_1 k_2 k_3 k_4 k_5 k_6 k_7 k_8 k_9 k_10 k_11 k_12
            refine (add_any Fa la 4096 A (⟨ac, ar, sq, ds, kd, nc, nr, pc, pr, fc, fr, nm, vl⟩ : Ch) (.slice a3 ds.length c3) _ HX.out.loga HUP.out.ga (by have := HUP.out.lea; omega) (by omega) (HIc.out.below HX.out.bel) HSz.out).mono ?_
            rintro e w5 ⟨rfl, F5, hL5, _, hf5, ht5⟩
            have HX5 : Hid (UnS w la lb F5 Fb G2 (addL A 4096 (⟨ac, ar, sq, ds, kd, nc, nr, pc, pr, fc, fr, nm, vl⟩ : Ch)) B M5 yb (.slice a6 M5.length c6) (.slice a6 M5.length c6) [] (.slice none 0 0) [] (.slice none 0 0) w5) := HX.out.addA hL5 hf5 ht5
            replace HUP : Hid (UnP M5 (addL A 4096 (⟨ac, ar, sq, ds, kd, nc, nr, pc, pr, fc, fr, nm, vl⟩ : Ch)) B) := HUP.out.addA HCK.out
            generalize whyR A 4096 (⟨ac, ar, sq, ds, kd, nc, nr, pc, pr, fc, fr, nm, vl⟩ : Ch) = eA at *
            clear hL5 hf5 ht5 HX
            obtain ⟨b_0, b_1, k_0, k_1, k_2, k_3, k_4, k_5, k_6, k_7, k_8, k_9, k_10, k_11, k_12⟩ := HC.out _ HX5.out.bel
            obtain ⟨A5, eA5⟩ : ∃ X, X = addL A 4096 (⟨ac, ar, sq, ds, kd, nc, nr, pc, pr, fc, fr, nm, vl⟩ : Ch) := ⟨_, rfl⟩
            rw [← eA5] at HX5 HUP
            clear eA5
            go_wp2_with fail
            clear b_0 b_1 k_0 k_1 k_2 k_3 k_4 k_5 k_6 k_7 k_8 k_9 k_10 k_11 k_12
            refine (add_any Fb lb 4096 B (⟨ac, ar, sq, ds, kd, nc, nr, pc, pr, fc, fr, nm, vl⟩ : Ch) (.slice a3 ds.length c3) _ HX5.out.logb HUP.out.gb (by have := HUP.out.leb; omega) (by omega) (HIc.out.below HX5.out.bel) HSz.out).mono ?_
            rintro e w6 ⟨rfl, F6, hL5, _, hf5, ht5⟩
            have HX6 : Hid (UnS w la lb F5 F6 G2 A5 (addL B 4096 (⟨ac, ar, sq, ds, kd, nc, nr, pc, pr, fc, fr, nm, vl⟩ : Ch)) M5 yb (.slice a6 M5.length c6) (.slice a6 M5.length c6) [] (.slice none 0 0) [] (.slice none 0 0) w6) := HX5.out.addB hL5 hf5 ht5
            replace HUP : Hid (UnP M5 A5 (addL B 4096 (⟨ac, ar, sq, ds, kd, nc, nr, pc, pr, fc, fr, nm, vl⟩ : Ch))) := HUP.out.addB HCK.out
            generalize whyR B 4096 (⟨ac, ar, sq, ds, kd, nc, nr, pc, pr, fc, fr, nm, vl⟩ : Ch) = eB at *
            clear hL5 hf5 ht5 HX5
            obtain ⟨b_0, b_1, k_0, k_1, k_2, k_3, k_4, k_5, k_6, k_7, k_8, k_9, k_10, k_11, k_12⟩ := HC.out _ HX6.out.bel
            obtain ⟨B5, eB5⟩ : ∃ X, X = addL B 4096 (⟨ac, ar, sq, ds, kd, nc, nr, pc, pr, fc, fr, nm, vl⟩ : Ch) := ⟨_, rfl⟩
            rw [← eB5] at HX6 HUP
            clear eB5
            go_wp2
            go_roundw
            case rel => exact ⟨i + 1, M5, A5, B5, F5, F6, G2, (.slice a6 M5.length c6), by omega, by go_num, HX6, HUP⟩
            case measure => simp [intOf]; omega
        · have hw2 : (we == 0) = false := by simp [hwe]
          have HUP : Hid (UnP M5 A B) := HUP2.out.1
          clear HUP2
          go_wp2
          go_roundw
          case rel => exact ⟨i + 1, M5, A, B, Fa, Fb, G2, (.slice a6 M5.length c6), by omega, by go_num, HX, HUP⟩
          case measure => simp [intOf]; omega
      · have HZ0 : Hid (¬ (Fa Ug1u0.heap.size ∨ Fb Ug1u0.heap.size ∨ G Ug1u0.heap.size ∨ Ug1u0.heap.size = yb) ∧ w.heap.size ≤ Ug1u0.heap.size) := HA.out.fresh
        go_simp
        refine hK.out _ _ (⟨hHeld.1.trans (((Below.refl _ _).alloc (Nat.le_refl _) _).mono hHeld.1.size), (((Below.refl _ _).alloc (Nat.le_refl _) _).block _ (row_lt hHeld.2)).trans hHeld.2⟩) (fun hHeld2 => ?_)
        clear hK K hHeld
        have hHeld := hHeld2
        clear hHeld2
        (try simp only [Act.put, List.setIfInBounds_toArray, List.set_cons_zero, List.set_cons_succ])
        obtain ⟨Ug1u4, eW⟩ : ∃ X, X = Ug1u0.alloc (.cells #[.int .i64 0, .slice none 0 0] 26) := ⟨_, rfl⟩
        have hb : Below Ug1u0.heap.size Ug1u0 Ug1u4 := by rw [eW]; exact (Below.refl _ _).alloc (Nat.le_refl _) _
        replace HA : Hid (UnS w la lb Fa Fb G A B M yb (.slice ay M.length cy) (.slice ay M.length cy) [] (.slice none 0 0) [] (.slice none 0 0) Ug1u4) := HA.out.below hb
        obtain ⟨zb, ezb⟩ : ∃ b, b = Ug1u0.heap.size := ⟨_, rfl⟩
        rw [← eW] at hHeld ⊢
        (try rw [← ezb])
        have HZ : Hid (BxL zb Ug1u4) := by rw [ezb, eW]; exact heap_alloc_new _ _
        have HZn : Hid (¬ (Fa zb ∨ Fb zb ∨ G zb ∨ zb = yb) ∧ w.heap.size ≤ zb) := by rw [ezb]; exact HZ0.out
        clear eW
        clear ezb
        clear hb
        refine wpAnyH_ready (rs := [6]) (by kernel_rfl) (by simp) ?_
        refine AllReadyH.cons (o := ⟨some 65, _, _, _, _, _⟩) rfl (fun K hK => ?_) AllReadyH.nil
        have HZl : Hid (zb < Ug1u4.heap.size) := row_lt HZ.out
        have HN6 : Hid (UnS w la lb Fa Fb G A B M yb (.slice ay M.length cy) (.slice ay M.length cy) [] (.slice none 0 0) [] (.slice none 0 0) Ug1u4) := HA.out
        go_simp
        refine (refAdd_any G _ M 4096 ac ar sq (.slice a3 ds.length c3) kd nc nr pc pr fc fr nm vl ds Ug1u4 HA.out.doc (HIc.out.below HA.out.bel) HSz.out HUP.out.le).mono ?_
        rintro e Ug1u5 ⟨v6, rfl, hf6, hb⟩
        (try go_wp2_with fail)
        refine hK.out _ _ (⟨hHeld.1.trans (hb.mono hHeld.1.size), (hb.block _ (row_lt hHeld.2)).trans hHeld.2⟩) (fun hHeld2 => ?_)
        clear hK K hHeld
        have hHeld := hHeld2
        clear hHeld2
        (try simp only [Act.put, List.setIfInBounds_toArray, List.set_cons_zero, List.set_cons_succ])
        replace HA : Hid (UnS w la lb Fa Fb G A B M yb (.slice ay M.length cy) (.slice ay M.length cy) [] (.slice none 0 0) [] (.slice none 0 0) Ug1u5) := HA.out.below hb
        replace HZ : Hid (BxL zb Ug1u5) := HZ.out.below hb
        obtain ⟨a6, c6, e6⟩ := hf6.isH.form
        subst e6
        obtain ⟨G2, eG2⟩ : ∃ G2 : Nat → Prop, G2 = fun k => G k ∨ (Ug1u4.heap.size ≤ k ∧ k < Ug1u5.heap.size) := ⟨_, rfl⟩
        have HF6 : Hid (UnS w la lb Fa Fb G2 A B (addL M 4096 (⟨ac, ar, sq, ds, kd, nc, nr, pc, pr, fc, fr, nm, vl⟩ : Ch)) yb (.slice a6 (addL M 4096 (⟨ac, ar, sq, ds, kd, nc, nr, pc, pr, fc, fr, nm, vl⟩ : Ch)).length c6) (.slice ay M.length cy) [] (.slice none 0 0) [] (.slice none 0 0) Ug1u5) := by rw [eG2]; exact (HN6.out.grow hb (fun k q => .inl q) (fun k q => q)).docTo hf6
        have HZ6 : Hid (¬ G2 zb) := fun hk => by rw [eG2] at hk; rcases hk with q | q; exact HZn.out.1 (.inr (.inr (.inl q))); have := HZl.out; omega
        clear hf6 eG2 HN6
        clear hb
        refine tkW 7 (some 58) (v := ?_) ?_ hHeld ?_
        rotate_left
        · (intro w _; go_simp; try with_reducible rfl)
        refine tkW 8 (some 66) (v := ?_) ?_ hHeld ?_
        rotate_left
        · (intro w _; go_simp; try with_reducible rfl)
        refine tkW 9 (some 67) (v := ?_) ?_ hHeld ?_
        rotate_left
        · (intro w _; go_simp; try with_reducible rfl)
        refine wpAnyH_ready (rs := [11]) (by kernel_rfl) (by simp) ?_
        refine AllReadyH.cons (o := ⟨none, _, _, _, _, _⟩) rfl (fun K hK => ?_) AllReadyH.nil
        obtain ⟨r_0, r_1, r_2, r_3⟩ := row2_cells HZ.out
        go_simp
        refine hK.out _ _ (⟨((HF6.out.far (i := 0) (v := .int .i64 4096) ⟨fun q => by rcases q with q | q | q | q; exact HZn.out.1 (.inl q); exact HZn.out.1 (.inr (.inl q)); exact HZ6.out q; exact HZn.out.1 (.inr (.inr (.inr q))), HZn.out.2⟩).far (i := 1) (v := (.slice a6 (addL M 4096 (⟨ac, ar, sq, ds, kd, nc, nr, pc, pr, fc, fr, nm, vl⟩ : Ch)).length c6)) ⟨fun q => by rcases q with q | q | q | q; exact HZn.out.1 (.inl q); exact HZn.out.1 (.inr (.inl q)); exact HZ6.out q; exact HZn.out.1 (.inr (.inr (.inr q))), HZn.out.2⟩).bel, ((HF6.out.far (i := 0) (v := .int .i64 4096) ⟨fun q => by rcases q with q | q | q | q; exact HZn.out.1 (.inl q); exact HZn.out.1 (.inr (.inl q)); exact HZ6.out q; exact HZn.out.1 (.inr (.inr (.inr q))), HZn.out.2⟩).far (i := 1) (v := (.slice a6 (addL M 4096 (⟨ac, ar, sq, ds, kd, nc, nr, pc, pr, fc, fr, nm, vl⟩ : Ch)).length c6)) ⟨fun q => by rcases q with q | q | q | q; exact HZn.out.1 (.inl q); exact HZn.out.1 (.inr (.inl q)); exact HZ6.out q; exact HZn.out.1 (.inr (.inr (.inr q))), HZn.out.2⟩).box⟩) (fun hHeld2 => ?_)
        clear hK K hHeld
        have hHeld := hHeld2
        clear hHeld2
        (try simp only [Act.put, List.setIfInBounds_toArray, List.set_cons_zero, List.set_cons_succ])
        have HA9 : Hid (UnS w la lb Fa Fb G2 A B (addL M 4096 (⟨ac, ar, sq, ds, kd, nc, nr, pc, pr, fc, fr, nm, vl⟩ : Ch)) yb (.slice a6 (addL M 4096 (⟨ac, ar, sq, ds, kd, nc, nr, pc, pr, fc, fr, nm, vl⟩ : Ch)).length c6) (.slice ay M.length cy) [] (.slice none 0 0) [] (.slice none 0 0) ((Ug1u5.setCell ⟨zb, 0, none⟩ (.int .i64 4096)).setCell ⟨zb, 1, none⟩ (.slice a6 (addL M 4096 (⟨ac, ar, sq, ds, kd, nc, nr, pc, pr, fc, fr, nm, vl⟩ : Ch)).length c6))) := (HF6.out.far (i := 0) (v := .int .i64 4096) ⟨fun q => by rcases q with q | q | q | q; exact HZn.out.1 (.inl q); exact HZn.out.1 (.inr (.inl q)); exact HZ6.out q; exact HZn.out.1 (.inr (.inr (.inr q))), HZn.out.2⟩).far (i := 1) (v := (.slice a6 (addL M 4096 (⟨ac, ar, sq, ds, kd, nc, nr, pc, pr, fc, fr, nm, vl⟩ : Ch)).length c6)) ⟨fun q => by rcases q with q | q | q | q; exact HZn.out.1 (.inl q); exact HZn.out.1 (.inr (.inl q)); exact HZ6.out q; exact HZn.out.1 (.inr (.inr (.inr q))), HZn.out.2⟩
        have HZ9 : Hid (((Ug1u5.setCell ⟨zb, 0, none⟩ (.int .i64 4096)).setCell ⟨zb, 1, none⟩ (.slice a6 (addL M 4096 (⟨ac, ar, sq, ds, kd, nc, nr, pc, pr, fc, fr, nm, vl⟩ : Ch)).length c6)).heap[zb]? = some (.cells #[.int .i64 4096, (.slice a6 (addL M 4096 (⟨ac, ar, sq, ds, kd, nc, nr, pc, pr, fc, fr, nm, vl⟩ : Ch)).length c6)] 26)) := row_set2 HZ.out
        obtain ⟨W9, eW9⟩ : ∃ X, X = ((Ug1u5.setCell ⟨zb, 0, none⟩ (.int .i64 4096)).setCell ⟨zb, 1, none⟩ (.slice a6 (addL M 4096 (⟨ac, ar, sq, ds, kd, nc, nr, pc, pr, fc, fr, nm, vl⟩ : Ch)).length c6)) := ⟨_, rfl⟩
        rw [← eW9] at HA9 HZ9 hHeld ⊢
        clear eW9 r_0 r_1 r_2 r_3 HF6 HZ HA HZ6 HZn
        refine tkW 12 (some 12) (v := ?_) ?_ hHeld ?_
        rotate_left
        · (intro w _; go_simp; try with_reducible rfl)
        refine wpAnyH_done (by kernel_rfl) ?_ _
        clear hHeld
        obtain ⟨z_0, z_1, _, _⟩ := row2_cells HZ9.out
        obtain ⟨y_0, y_1, y_2, y_3⟩ := row2_cells HA9.out.box
        have HX : Hid (UnS w la lb Fa Fb G2 A B (addL M 4096 (⟨ac, ar, sq, ds, kd, nc, nr, pc, pr, fc, fr, nm, vl⟩ : Ch)) yb (.slice a6 (addL M 4096 (⟨ac, ar, sq, ds, kd, nc, nr, pc, pr, fc, fr, nm, vl⟩ : Ch)).length c6) (.slice a6 (addL M 4096 (⟨ac, ar, sq, ds, kd, nc, nr, pc, pr, fc, fr, nm, vl⟩ : Ch)).length c6) [] (.slice none 0 0) [] (.slice none 0 0) ((W9.setCell ⟨yb, 0, none⟩ (.int .i64 4096)).setCell ⟨yb, 1, none⟩ (.slice a6 (addL M 4096 (⟨ac, ar, sq, ds, kd, nc, nr, pc, pr, fc, fr, nm, vl⟩ : Ch)).length c6))) := HA9.out.put
        obtain ⟨b_0, b_1, k_0, k_1, k_2, k_3, k_4, k_5, k_6, k_7, k_8, k_9, k_10, k_11, k_12⟩ := HC.out _ HX.out.bel
        have HUP2 : Hid (UnP (addL M 4096 (⟨ac, ar, sq, ds, kd, nc, nr, pc, pr, fc, fr, nm, vl⟩ : Ch)) A B ∧ (whyR M 4096 (⟨ac, ar, sq, ds, kd, nc, nr, pc, pr, fc, fr, nm, vl⟩ : Ch) = 0 → (⟨ac, ar, sq, ds, kd, nc, nr, pc, pr, fc, fr, nm, vl⟩ : Ch) ∈ (addL M 4096 (⟨ac, ar, sq, ds, kd, nc, nr, pc, pr, fc, fr, nm, vl⟩ : Ch)))) := by
          by_cases hw : whyR M 4096 (⟨ac, ar, sq, ds, kd, nc, nr, pc, pr, fc, fr, nm, vl⟩ : Ch) = 0
          · exact ⟨HUP.out.whole hw, fun _ => (addL_new hw _).2 (.inr rfl)⟩
          · refine ⟨?_, fun e => absurd e hw⟩
            have e : (addL M 4096 (⟨ac, ar, sq, ds, kd, nc, nr, pc, pr, fc, fr, nm, vl⟩ : Ch)) = M := by unfold addL; rw [if_neg hw]
            rw [e]
            exact HUP.out
        clear HA9 HZ9 HUP
        obtain ⟨M5, eK5⟩ : ∃ X, X = (addL M 4096 (⟨ac, ar, sq, ds, kd, nc, nr, pc, pr, fc, fr, nm, vl⟩ : Ch)) := ⟨_, rfl⟩
        rw [← eK5] at HX HUP2 b_0 b_1 k_0 k_1 k_2 k_3 k_4 k_5 k_6 k_7 k_8 k_9 k_10 k_11 k_12 z_1 ⊢
        clear eK5
        generalize whyR M 4096 (⟨ac, ar, sq, ds, kd, nc, nr, pc, pr, fc, fr, nm, vl⟩ : Ch) = we at *
        by_cases hwe : we = 0
        · subst hwe
          have HUP : Hid (UnP M5 A B) := HUP2.out.1
          have HCK : Hid ((⟨ac, ar, sq, ds, kd, nc, nr, pc, pr, fc, fr, nm, vl⟩ : Ch) ∈ M5) := HUP2.out.2 rfl
          clear HUP2
          by_cases hwh : i < wd.length
          · obtain ⟨_, _, e, _, _, hrow⟩ := HW.out
            simp only [Value.slice.injEq] at e
            obtain ⟨e1, _, e3⟩ := e
            subst e1 e3
            obtain ⟨b8, o8, e8, hrow2⟩ := hrow.resolve_left (by intro e; rw [e] at hwh; simp at hwh)
            subst e8
            have HWc : Hid (∀ W', Below w.heap.size w W' → W'.cell? ⟨b8, o8 + i, none⟩ = some (.bool wd[i])) := fun W' hb => (hb.cell (p := ⟨b8, o8 + i, none⟩) (cell_lt (hrow2 i hwh))).trans (hrow2 i hwh)
            have g1 : ¬ (wd.length : Int) ≤ (i : Int) := by omega
            have g2 : decide ((wd.length : Int) ≤ (i : Int)) = false := by simp; omega
            have g3 : (i : Int) < (wd.length : Int) := by omega
            have x_8 := HWc.out _ HX.out.bel
            clear hrow hrow2
            generalize wd[i] = who at *
            cases who with
            | true =>
              go_wp2_with fail
              clear b_0 b_1 k_0 k_1 k_2 k_3 k_4 k_5 k_6 k_7 k_8 k_9 k_10 k_11 k_12
              refine (add_any Fa la 4096 A (⟨ac, ar, sq, ds, kd, nc, nr, pc, pr, fc, fr, nm, vl⟩ : Ch) (.slice a3 ds.length c3) _ HX.out.loga HUP.out.ga (by have := HUP.out.lea; omega) (by omega) (HIc.out.below HX.out.bel) HSz.out).mono ?_
              rintro e w5 ⟨rfl, F5, hL5, _, hf5, ht5⟩
              have HX5 : Hid (UnS w la lb F5 Fb G2 (addL A 4096 (⟨ac, ar, sq, ds, kd, nc, nr, pc, pr, fc, fr, nm, vl⟩ : Ch)) B M5 yb (.slice a6 M5.length c6) (.slice a6 M5.length c6) [] (.slice none 0 0) [] (.slice none 0 0) w5) := HX.out.addA hL5 hf5 ht5
              replace HUP : Hid (UnP M5 (addL A 4096 (⟨ac, ar, sq, ds, kd, nc, nr, pc, pr, fc, fr, nm, vl⟩ : Ch)) B) := HUP.out.addA HCK.out
              generalize whyR A 4096 (⟨ac, ar, sq, ds, kd, nc, nr, pc, pr, fc, fr, nm, vl⟩ : Ch) = eA at *
              clear hL5 hf5 ht5 HX
              obtain ⟨b_0, b_1, k_0, k_1, k_2, k_3, k_4, k_5, k_6, k_7, k_8, k_9, k_10, k_11, k_12⟩ := HC.out _ HX5.out.bel
              obtain ⟨A5, eA5⟩ : ∃ X, X = addL A 4096 (⟨ac, ar, sq, ds, kd, nc, nr, pc, pr, fc, fr, nm, vl⟩ : Ch) := ⟨_, rfl⟩
              rw [← eA5] at HX5 HUP
              clear eA5
              (try clear x_8)
              have x_8 := HWc.out _ HX5.out.bel
              go_wp2
              go_roundw
              case rel => exact ⟨i + 1, M5, A5, B, F5, Fb, G2, (.slice a6 M5.length c6), by omega, by go_num, HX5, HUP⟩
              case measure => simp [intOf]; omega
            | false =>
              go_wp2_with fail
              clear b_0 b_1 k_0 k_1 k_2 k_3 k_4 k_5 k_6 k_7 k_8 k_9 k_10 k_11 k_12
              refine (add_any Fb lb 4096 B (⟨ac, ar, sq, ds, kd, nc, nr, pc, pr, fc, fr, nm, vl⟩ : Ch) (.slice a3 ds.length c3) _ HX.out.logb HUP.out.gb (by have := HUP.out.leb; omega) (by omega) (HIc.out.below HX.out.bel) HSz.out).mono ?_
              rintro e w6 ⟨rfl, F6, hL5, _, hf5, ht5⟩
              have HX6 : Hid (UnS w la lb Fa F6 G2 A (addL B 4096 (⟨ac, ar, sq, ds, kd, nc, nr, pc, pr, fc, fr, nm, vl⟩ : Ch)) M5 yb (.slice a6 M5.length c6) (.slice a6 M5.length c6) [] (.slice none 0 0) [] (.slice none 0 0) w6) := HX.out.addB hL5 hf5 ht5
              replace HUP : Hid (UnP M5 A (addL B 4096 (⟨ac, ar, sq, ds, kd, nc, nr, pc, pr, fc, fr, nm, vl⟩ : Ch))) := HUP.out.addB HCK.out
              generalize whyR B 4096 (⟨ac, ar, sq, ds, kd, nc, nr, pc, pr, fc, fr, nm, vl⟩ : Ch) = eB at *
              clear hL5 hf5 ht5 HX
              obtain ⟨b_0, b_1, k_0, k_1, k_2, k_3, k_4, k_5, k_6, k_7, k_8, k_9, k_10, k_11, k_12⟩ := HC.out _ HX6.out.bel
              obtain ⟨B5, eB5⟩ : ∃ X, X = addL B 4096 (⟨ac, ar, sq, ds, kd, nc, nr, pc, pr, fc, fr, nm, vl⟩ : Ch) := ⟨_, rfl⟩
              rw [← eB5] at HX6 HUP
              clear eB5
              go_wp2
              go_roundw
              case rel => exact ⟨i + 1, M5, A, B5, Fa, F6, G2, (.slice a6 M5.length c6), by omega, by go_num, HX6, HUP⟩
              case measure => simp [intOf]; omega
          · have g1 : (wd.length : Int) ≤ (i : Int) := by omega
            have g2 : decide ((wd.length : Int) ≤ (i : Int)) = true := by simp; omega
            go_wp2_with fail
            clear b_0 b_1 k_0 k_1 k_2 k_3 k_4 k_5 k_6 k_7 k_8 k_9 k_10 k_11 k_12
            refine (add_any Fa la 4096 A (⟨ac, ar, sq, ds, kd, nc, nr, pc, pr, fc, fr, nm, vl⟩ : Ch) (.slice a3 ds.length c3) _ HX.out.loga HUP.out.ga (by have := HUP.out.lea; omega) (by omega) (HIc.out.below HX.out.bel) HSz.out).mono ?_
            rintro e w5 ⟨rfl, F5, hL5, _, hf5, ht5⟩
            have HX5 : Hid (UnS w la lb F5 Fb G2 (addL A 4096 (⟨ac, ar, sq, ds, kd, nc, nr, pc, pr, fc, fr, nm, vl⟩ : Ch)) B M5 yb (.slice a6 M5.length c6) (.slice a6 M5.length c6) [] (.slice none 0 0) [] (.slice none 0 0) w5) := HX.out.addA hL5 hf5 ht5
            replace HUP : Hid (UnP M5 (addL A 4096 (⟨ac, ar, sq, ds, kd, nc, nr, pc, pr, fc, fr, nm, vl⟩ : Ch)) B) := HUP.out.addA HCK.out
            generalize whyR A 4096 (⟨ac, ar, sq, ds, kd, nc, nr, pc, pr, fc, fr, nm, vl⟩ : Ch) = eA at *
            clear hL5 hf5 ht5 HX
            obtain ⟨b_0, b_1, k_0, k_1, k_2, k_3, k_4, k_5, k_6, k_7, k_8, k_9, k_10, k_11, k_12⟩ := HC.out _ HX5.out.bel
            obtain ⟨A5, eA5⟩ : ∃ X, X = addL A 4096 (⟨ac, ar, sq, ds, kd, nc, nr, pc, pr, fc, fr, nm, vl⟩ : Ch) := ⟨_, rfl⟩
            rw [← eA5] at HX5 HUP
            clear eA5
            go_wp2_with fail
            clear b_0 b_1 k_0 k_1 k_2 k_3 k_4 k_5 k_6 k_7 k_8 k_9 k_10 k_11 k_12
            refine (add_any Fb lb 4096 B (⟨ac, ar, sq, ds, kd, nc, nr, pc, pr, fc, fr, nm, vl⟩ : Ch) (.slice a3 ds.length c3) _ HX5.out.logb HUP.out.gb (by have := HUP.out.leb; omega) (by omega) (HIc.out.below HX5.out.bel) HSz.out).mono ?_
            rintro e w6 ⟨rfl, F6, hL5, _, hf5, ht5⟩
            have HX6 : Hid (UnS w la lb F5 F6 G2 A5 (addL B 4096 (⟨ac, ar, sq, ds, kd, nc, nr, pc, pr, fc, fr, nm, vl⟩ : Ch)) M5 yb (.slice a6 M5.length c6) (.slice a6 M5.length c6) [] (.slice none 0 0) [] (.slice none 0 0) w6) := HX5.out.addB hL5 hf5 ht5
            replace HUP : Hid (UnP M5 A5 (addL B 4096 (⟨ac, ar, sq, ds, kd, nc, nr, pc, pr, fc, fr, nm, vl⟩ : Ch))) := HUP.out.addB HCK.out
            generalize whyR B 4096 (⟨ac, ar, sq, ds, kd, nc, nr, pc, pr, fc, fr, nm, vl⟩ : Ch) = eB at *
            clear hL5 hf5 ht5 HX5
            obtain ⟨b_0, b_1, k_0, k_1, k_2, k_3, k_4, k_5, k_6, k_7, k_8, k_9, k_10, k_11, k_12⟩ := HC.out _ HX6.out.bel
            obtain ⟨B5, eB5⟩ : ∃ X, X = addL B 4096 (⟨ac, ar, sq, ds, kd, nc, nr, pc, pr, fc, fr, nm, vl⟩ : Ch) := ⟨_, rfl⟩
            rw [← eB5] at HX6 HUP
            clear eB5
            go_wp2
            go_roundw
            case rel => exact ⟨i + 1, M5, A5, B5, F5, F6, G2, (.slice a6 M5.length c6), by omega, by go_num, HX6, HUP⟩
            case measure => simp [intOf]; omega
        · have hw2 : (we == 0) = false := by simp [hwe]
          have HUP : Hid (UnP M5 A B) := HUP2.out.1
          clear HUP2
          go_wp2
          go_roundw
          case rel => exact ⟨i + 1, M5, A, B, Fa, Fb, G2, (.slice a6 M5.length c6), by omega, by go_num, HX, HUP⟩
          case measure => simp [intOf]; omega
    · obtain ⟨b_0, b_1⟩ := HC0.out _ HA.out.bel
      obtain ⟨f, hf9, ef⟩ := from_lt9 most
      have HM : Hid (wrap64 ((IntKind.u64.wrap most).tmod 9) = (f : Int)) := ef
      clear ef
      go_upto_region 19 with fail
      rw [HM.out, show wrap64 (1 + (f : Int)) = 1 + (f : Int) by unfold wrap64; omega]
      go_wp2_with fail
      refine (all_any _ 4096 B Fb _ HA.out.logb.v HUP.out.gb HUP.out.leb).mono ?_
      rintro e w1 ⟨v1, E1, rfl, hE1, hO1, hD1, hb1⟩
      have hl1 : E1.length ≤ 4096 := by have := congrArg List.length hE1; rw [List.length_map] at this; rw [this]; exact HUP.out.leb
      have hf1 := HFirm.made hO1 hD1 hl1
      rw [hE1] at hf1
      obtain ⟨au, cu, eu⟩ := hf1.isH.form
      subst eu
      obtain ⟨w2, eW2⟩ : ∃ X, X = w1.alloc (.cells #[.int .i64 4096, .slice au B.length cu] 26) := ⟨_, rfl⟩
      obtain ⟨ub, eub⟩ : ∃ b, b = w1.heap.size := ⟨_, rfl⟩
      have hb2 : Below w1.heap.size w1 w2 := by rw [eW2]; exact (Below.refl _ _).alloc (Nat.le_refl _) _
      have HA2 : Hid (UnS w la lb Fa Fb (fun k => wr.heap.size ≤ k ∧ k < w1.heap.size) A B B ub (.slice au B.length cu) (.slice au B.length cu) [] (.slice none 0 0) [] (.slice none 0 0) w2) := by
        have h1 := hb1.size
        refine HA.out.anew (hb1.trans (hb2.mono hb1.size)) (hf1.below hb2) (fun k q => q.1) ?_ (by omega) (fun q => by omega)
        rw [eub, eW2]; exact heap_alloc_new _ _
      clear hE1 hO1 hD1 hb1 hl1 hf1 hb2 HA
      go_wp2_with fail
      rw [← eW2]
      rw [← eub]
      clear eW2 eub
      refine (all_any _ 4096 A Fa _ HA2.out.loga.v HUP.out.ga HUP.out.lea).mono ?_
      rintro e w3 ⟨v3, E3, rfl, hE3, hO3, hD3, hb3⟩
      have hl3 : E3.length ≤ 4096 := by have := congrArg List.length hE3; rw [List.length_map] at this; rw [this]; exact HUP.out.lea
      have hf3 := HFirm.made hO3 hD3 hl3
      rw [hE3] at hf3
      obtain ⟨G3, eG3⟩ : ∃ G3 : Nat → Prop, G3 = fun k => (wr.heap.size ≤ k ∧ k < w1.heap.size) ∨ (w2.heap.size ≤ k ∧ k < w3.heap.size) := ⟨_, rfl⟩
      have HA3 : Hid (UnS w la lb Fa Fb G3 A B B ub (.slice au B.length cu) (.slice au B.length cu) A v3 [] (.slice none 0 0) w3) := by
        have hg := HA2.out.grow hb3 (G' := G3) (fun k q => by rw [eG3]; exact .inl q) (fun k q => by rw [eG3] at q; exact q)
        exact hg.othTo (hf3.mono (fun k q => by rw [eG3]; exact .inr q) hg.doc.1)
      obtain ⟨ao, co, eo⟩ := HA3.out.oth.isH.form
      subst eo
      have HU3 : Hid (UniP A B 0 B) := UniP.start HUP.out
      clear hE3 hO3 hD3 hb3 hl3 hf3 eG3 HA2
      go_wp2
      go_loopw [15] (fun iv wr => ∃ (i : Nat) (U : List Ch) (G : Nat → Prop) (uv : Value), i ≤ A.length ∧ iv = .int .i64 (i : Int) ∧ Hid (UnS w la lb Fa Fb G A B U ub uv uv A (.slice ao A.length co) [] (.slice none 0 0) wr) ∧ Hid (UniP A B i U)) (fun iv _ => A.length - (intOf iv).toNat)
      case atStart => exact ⟨0, B, G3, _, Nat.zero_le _, rfl, HA3, HU3⟩
      case round =>
        obtain ⟨i, U, G, uv, hi, rfl, HA, HUU⟩ := hrel
        clear HA3 HU3
        obtain ⟨au, cu, eu⟩ := HA.out.doc.isH.form
        subst eu
        have hAl : A.length ≤ 4096 := HUP.out.lea
        by_cases hi2 : i < A.length
        · obtain ⟨_, _, e, _, hone⟩ := HA.out.oth.one
          simp only [Value.slice.injEq] at e
          obtain ⟨e1, _, e3⟩ := e
          subst e1 e3
          obtain ⟨b, o, a3, c3, eb, hI3, hS3, hcl⟩ := hone i hi2
          subst eb
          obtain ⟨x, ex⟩ : ∃ x, x = A[i] := ⟨_, rfl⟩
          have HX0 : Hid (x = A[i]) := ex
          rw [← ex] at hI3 hS3 hcl
          clear ex hone
          obtain ⟨ac, ar, sq, ds, kd, nc, nr, pc, pr, fc, fr, nm, vl⟩ := x
          simp only at hI3 hcl
          have HC : Hid (∀ W', KeepsS G wr W' → W'.cell? ⟨b, o + i * 13, none⟩ = some (.int .i64 ac) ∧ W'.cell? ⟨b, o + i * 13 + 1, none⟩ = some (.int .i64 ar) ∧ W'.cell? ⟨b, o + i * 13 + 2, none⟩ = some (.int .i64 sq) ∧ W'.cell? ⟨b, o + i * 13 + 3, none⟩ = some (.slice a3 ds.length c3) ∧ W'.cell? ⟨b, o + i * 13 + 4, none⟩ = some (.int .i64 kd) ∧ W'.cell? ⟨b, o + i * 13 + 5, none⟩ = some (.int .i64 nc) ∧ W'.cell? ⟨b, o + i * 13 + 6, none⟩ = some (.int .i64 nr) ∧ W'.cell? ⟨b, o + i * 13 + 7, none⟩ = some (.int .i64 pc) ∧ W'.cell? ⟨b, o + i * 13 + 8, none⟩ = some (.int .i64 pr) ∧ W'.cell? ⟨b, o + i * 13 + 9, none⟩ = some (.int .i64 fc) ∧ W'.cell? ⟨b, o + i * 13 + 10, none⟩ = some (.int .i64 fr) ∧ W'.cell? ⟨b, o + i * 13 + 11, none⟩ = some (.string nm) ∧ W'.cell? ⟨b, o + i * 13 + 12, none⟩ = some (.string vl)) := fun W' hk => chAll (hcl W' hk)
          have HIc : Hid (∀ W', KeepsS G wr W' → IsI W' (.slice a3 ds.length c3) ds) := fun W' hk => (hI3.keep hk).isI
          have HSz : Hid (Sized (⟨ac, ar, sq, ds, kd, nc, nr, pc, pr, fc, fr, nm, vl⟩ : Ch)) := hS3
          have HGu : Hid (¬ G ub) := HA.out.yG
          have i1 : (i : Int) < (A.length : Int) := by omega
          have i0 : (0 : Int) ≤ (i : Int) := by omega
          clear hI3 hS3 hcl
          go_upto_region 24 with fail
          refine wp_region_held_drew (S := fun W' => KeepsS G wr W' ∧ Below w.heap.size w W') (by kernel_rfl) ⟨⟨Nat.le_refl _, fun k _ => rfl⟩, HA.out.bel.trans ((Below.refl _ _).drew.mono HA.out.bel.size)⟩ (fun hHeld => ?_)
          obtain ⟨Uh2u0, eW⟩ : ∃ X, X = wr.drew := ⟨_, rfl⟩
          have hb : Below wr.heap.size wr Uh2u0 := by rw [eW]; exact (Below.refl _ _).drew
          replace HA : Hid (UnS w la lb Fa Fb G A B U ub (.slice au U.length cu) (.slice au U.length cu) A (.slice (some ⟨b, o, none⟩) A.length co) [] (.slice none 0 0) Uh2u0) := HA.out.below hb
          rw [← eW] at hHeld ⊢
          clear eW hb
          refine tkW 1 (some 128) (v := ?_) ?_ hHeld ?_
          rotate_left
          · (intro w _; go_simp; try with_reducible rfl)
          refine tkW 2 (some 129) (v := ?_) ?_ hHeld ?_
          rotate_left
          · (intro w _; go_simp; try with_reducible rfl)
          refine tkW 3 (some 130) (v := ?_) ?_ hHeld ?_
          rotate_left
          · (intro w hSw; (try dsimp only at hSw); obtain ⟨hk, _⟩ := hSw; obtain ⟨k_0, k_1, k_2, k_3, k_4, k_5, k_6, k_7, k_8, k_9, k_10, k_11, k_12⟩ := HC.out _ hk; go_simp; try with_reducible rfl)
          refine tkW 4 (some 131) (v := ?_) ?_ hHeld ?_
          rotate_left
          · (intro w hSw; (try dsimp only at hSw); obtain ⟨hk, _⟩ := hSw; obtain ⟨k_0, k_1, k_2, k_3, k_4, k_5, k_6, k_7, k_8, k_9, k_10, k_11, k_12⟩ := HC.out _ hk; go_simp; try with_reducible rfl)
          refine wpAnyH_ready (rs := [0]) (by kernel_rfl) (by simp) ?_
          refine AllReadyH.cons (o := ⟨some 127, _, _, _, _, _⟩) rfl (fun K hK => ?_) AllReadyH.nil
          obtain ⟨x_0, x_1, _, _⟩ := row2_cells HA.out.box
          go_simp
          refine hK.out _ _ (hHeld) (fun hHeld2 => ?_)
          clear hK K hHeld
          have hHeld := hHeld2
          clear hHeld2
          (try simp only [Act.put, List.setIfInBounds_toArray, List.set_cons_zero, List.set_cons_succ])
          clear x_0 x_1
          refine wpAnyH_ready (rs := [5]) (by kernel_rfl) (by simp) ?_
          refine AllReadyH.cons (o := ⟨some 132, _, _, _, _, _⟩) rfl (fun K hK => ?_) AllReadyH.nil
          have HN6 : Hid (UnS w la lb Fa Fb G A B U ub (.slice au U.length cu) (.slice au U.length cu) A (.slice (some ⟨b, o, none⟩) A.length co) [] (.slice none 0 0) Uh2u0) := HA.out
          go_simp
          refine (refAdd_any G _ U 4096 ac ar sq (.slice a3 ds.length c3) kd nc nr pc pr fc fr nm vl ds Uh2u0 HA.out.doc (HIc.out _ hHeld.1) HSz.out (HUU.out.le HUP.out)).mono ?_
          rintro e Uh2u2 ⟨v6, rfl, hf6, hb⟩
          (try go_wp2_with fail)
          refine hK.out _ _ (⟨hHeld.1.trans (KeepsS.of_below hb HN6.out.doc.1), hHeld.2.trans (hb.mono hHeld.2.size)⟩) (fun hHeld2 => ?_)
          clear hK K hHeld
          have hHeld := hHeld2
          clear hHeld2
          (try simp only [Act.put, List.setIfInBounds_toArray, List.set_cons_zero, List.set_cons_succ])
          obtain ⟨a6, c6, e6⟩ := hf6.isH.form
          subst e6
          obtain ⟨G2, eG2⟩ : ∃ G2 : Nat → Prop, G2 = fun k => G k ∨ (Uh2u0.heap.size ≤ k ∧ k < Uh2u2.heap.size) := ⟨_, rfl⟩
          have HF6 : Hid (UnS w la lb Fa Fb G2 A B (addL U 4096 (⟨ac, ar, sq, ds, kd, nc, nr, pc, pr, fc, fr, nm, vl⟩ : Ch)) ub (.slice a6 (addL U 4096 (⟨ac, ar, sq, ds, kd, nc, nr, pc, pr, fc, fr, nm, vl⟩ : Ch)).length c6) (.slice au U.length cu) A (.slice (some ⟨b, o, none⟩) A.length co) [] (.slice none 0 0) Uh2u2) := by rw [eG2]; exact (HN6.out.grow hb (fun k q => .inl q) (fun k q => q)).docTo hf6
          clear hf6 eG2 HN6 HA
          refine tkW 6 (some 126) (v := ?_) ?_ hHeld ?_
          rotate_left
          · (intro w _; go_simp; try with_reducible rfl)
          refine tkW 7 (some 133) (v := ?_) ?_ hHeld ?_
          rotate_left
          · (intro w _; go_simp; try with_reducible rfl)
          refine tkW 8 (some 134) (v := ?_) ?_ hHeld ?_
          rotate_left
          · (intro w _; go_simp; try with_reducible rfl)
          refine wpAnyH_ready (rs := [9]) (by kernel_rfl) (by simp) ?_
          refine AllReadyH.cons (o := ⟨none, _, _, _, _, _⟩) rfl (fun K hK => ?_) AllReadyH.nil
          obtain ⟨r_0, r_1, r_2, r_3⟩ := row2_cells HF6.out.box
          have HG0 : Hid (¬ G ub) := HGu.out
          go_simp
          refine hK.out _ _ (⟨hHeld.1.trans ⟨by simp [World.setCell], fun k hk => (RowKit.Below.heap_setCell _ _ _ _ (fun (e : k = ub) => HG0.out (e ▸ hk))).trans (RowKit.Below.heap_setCell _ _ _ _ (fun (e : k = ub) => HG0.out (e ▸ hk)))⟩, HF6.out.put.bel⟩) (fun hHeld2 => ?_)
          clear hK K hHeld
          have hHeld := hHeld2
          clear hHeld2
          (try simp only [Act.put, List.setIfInBounds_toArray, List.set_cons_zero, List.set_cons_succ])
          have HA9 : Hid (UnS w la lb Fa Fb G2 A B (addL U 4096 (⟨ac, ar, sq, ds, kd, nc, nr, pc, pr, fc, fr, nm, vl⟩ : Ch)) ub (.slice a6 (addL U 4096 (⟨ac, ar, sq, ds, kd, nc, nr, pc, pr, fc, fr, nm, vl⟩ : Ch)).length c6) (.slice a6 (addL U 4096 (⟨ac, ar, sq, ds, kd, nc, nr, pc, pr, fc, fr, nm, vl⟩ : Ch)).length c6) A (.slice (some ⟨b, o, none⟩) A.length co) [] (.slice none 0 0) ((Uh2u2.setCell ⟨ub, 0, none⟩ (.int .i64 4096)).setCell ⟨ub, 1, none⟩ (.slice a6 (addL U 4096 (⟨ac, ar, sq, ds, kd, nc, nr, pc, pr, fc, fr, nm, vl⟩ : Ch)).length c6))) := HF6.out.put
          obtain ⟨W9, eW9⟩ : ∃ X, X = ((Uh2u2.setCell ⟨ub, 0, none⟩ (.int .i64 4096)).setCell ⟨ub, 1, none⟩ (.slice a6 (addL U 4096 (⟨ac, ar, sq, ds, kd, nc, nr, pc, pr, fc, fr, nm, vl⟩ : Ch)).length c6)) := ⟨_, rfl⟩
          rw [← eW9] at HA9 hHeld ⊢
          clear eW9 r_0 r_1 r_2 r_3 HF6
          refine wpAnyH_done (by kernel_rfl) ?_ _
          clear hHeld
          have HU9 : Hid (UniP A B (i + 1) (addL U 4096 (⟨ac, ar, sq, ds, kd, nc, nr, pc, pr, fc, fr, nm, vl⟩ : Ch))) := by have := HUU.out.step HUP.out hi2; rw [← HX0.out] at this; exact this
          obtain ⟨U9, eU9⟩ : ∃ X, X = (addL U 4096 (⟨ac, ar, sq, ds, kd, nc, nr, pc, pr, fc, fr, nm, vl⟩ : Ch)) := ⟨_, rfl⟩
          rw [← eU9] at HA9 HU9 ⊢
          clear eU9
          generalize whyR U 4096 (⟨ac, ar, sq, ds, kd, nc, nr, pc, pr, fc, fr, nm, vl⟩ : Ch) = we at *
          go_wp2
          go_roundw
          case rel => exact ⟨i + 1, U9, G2, _, by omega, by go_num, HA9, HU9⟩
          case measure => simp [intOf]; omega
        · obtain rfl : i = A.length := by omega
          clear hi hi2
          go_wp2_with fail
          refine (clock_any _ 4096 A Fa _ HA.out.loga.v).mono ?_
          rintro e w4 ⟨v4, rfl, ho4, hb4⟩
          obtain ⟨a4, c4, e4⟩ := ho4.form
          subst e4
          have HA4 : Hid (UnS w la lb Fa Fb G A B U ub (.slice au U.length cu) (.slice au U.length cu) A (.slice ao A.length co) [] (.slice none 0 0) w4) := HA.out.below hb4
          have HI4 : Hid (IsI w4 (.slice a4 (clockL A).length c4) (clockL A)) := ho4.isI (Nat.le_trans (clockL_length A) (by decide))
          clear ho4 hb4 HA
          go_wp2_with fail
          refine (clock_any _ 4096 B Fb _ HA4.out.logb.v).mono ?_
          rintro e w5 ⟨v5, rfl, ho5, hb5⟩
          obtain ⟨a5, c5, e5⟩ := ho5.form
          subst e5
          have HA5 : Hid (UnS w la lb Fa Fb G A B U ub (.slice au U.length cu) (.slice au U.length cu) A (.slice ao A.length co) [] (.slice none 0 0) w5) := HA4.out.below hb5
          have HI5 : Hid (IsI w5 (.slice a4 (clockL A).length c4) (clockL A) ∧ IsI w5 (.slice a5 (clockL B).length c5) (clockL B)) := ⟨HI4.out.below hb5, ho5.isI (Nat.le_trans (clockL_length B) (by decide))⟩
          have HOk : Hid (twoL (clockL A) (clockL B) = 0) := (twoL_ok _ _).2 ⟨clockL_okC HUP.out.lea, clockL_okC HUP.out.leb⟩
          clear ho5 hb5 HA4 HI4
          go_wp2_with fail
          refine (refMerge_ok _ _ _ _ _ HI5.out.1 HI5.out.2 HOk.out).mono ?_
          rintro e w6 ⟨v6, rfl, ho6, hb6⟩
          have HML : Hid (mergeL (clockL A) (clockL B) = clockL U) := (HUU.out.clock HUP.out).symm
          rw [HML.out] at ho6
          obtain ⟨a6, c6, e6⟩ := ho6.form
          subst e6
          obtain ⟨G4, eG4⟩ : ∃ G4 : Nat → Prop, G4 = fun k => G k ∨ (w5.heap.size ≤ k ∧ k < w6.heap.size) := ⟨_, rfl⟩
          have HA6 : Hid (UnS w la lb Fa Fb G4 A B U ub (.slice au U.length cu) (.slice au U.length cu) [] (.slice none 0 0) (clockL U) (.slice a6 (clockL U).length c6) w6) := by
            have hg := HA5.out.grow hb6 (G' := G4) (fun k q => by rw [eG4]; exact .inl q) (fun k q => by rw [eG4] at q; exact q)
            exact (hg.clTo (IsG.own ho6 (Nat.le_trans (clockL_length U) (by decide)) (fun k h1 h2 => by rw [eG4]; exact .inr ⟨h1, h2⟩))).othTo ⟨hg.doc.1, none, 0, rfl, Nat.le_refl _, by simp, .inl rfl⟩
          have HQ6 : Hid (AskP M A B B) := ⟨HUP.out, fun x h => h, fun x h => .inl h⟩
          clear ho6 hb6 eG4 HA5 HI5 HOk HML
          go_wp2
          go_loopg [18] ((lackL A (clockL B)).length + 1) (fun gk mv wr => ∃ (Z : List Ch) (Fb G : Nat → Prop), Hid (UnS w la lb Fa Fb G A Z U ub (.slice au U.length cu) (.slice au U.length cu) [] (.slice none 0 0) (clockL U) (.slice a6 (clockL U).length c6) wr) ∧ Hid (AskP M A B Z) ∧ ((mv = .bool true ∧ gk = (lackL A (clockL Z)).length + 1) ∨ (mv = .bool false ∧ gk = 0 ∧ Z = U)))
          case atStart => exact ⟨B, Fb, G4, HA6, HQ6, .inl ⟨rfl, rfl⟩⟩
          case round =>
            obtain ⟨Z, Fb, G, HA, HQ, hcase⟩ := hrel
            clear HA6 HQ6
            rcases hcase with ⟨rfl, hgk⟩ | ⟨rfl, hgk, hZU⟩
            · have HGK : Hid (gk = (lackL A (clockL Z)).length + 1) := hgk
              clear hgk
              go_wp2_with fail
              refine (clock_any _ 4096 Z Fb _ HA.out.logb.v).mono ?_
              rintro e w7 ⟨v7, rfl, ho7, hb7⟩
              obtain ⟨a7, c7, e7⟩ := ho7.form
              subst e7
              have HA7 : Hid (UnS w la lb Fa Fb G A Z U ub (.slice au U.length cu) (.slice au U.length cu) [] (.slice none 0 0) (clockL U) (.slice a6 (clockL U).length c6) w7) := HA.out.below hb7
              have HI7 : Hid (IsI w7 (.slice a7 (clockL Z).length c7) (clockL Z)) := ho7.isI (Nat.le_trans (clockL_length Z) (by decide))
              clear ho7 hb7 HA
              go_wp2_with fail
              refine (since_any _ 4096 A Fa _ (clockL Z) _ _ HA7.out.loga.v HUP.out.ga.srt HUP.out.lea HI7.out).mono ?_
              rintro e w8 ⟨v8, E8, rfl, hE8, hO8, hD8, hb8⟩
              have hsin : sinceR A (clockL Z) (1 + (f : Int)) = ((lackL A (clockL Z)).take (f + 1), decide (1 + (f : Int) < ((lackL A (clockL Z)).length : Int)), 0) := by
                unfold sinceR
                rw [if_neg (by rw [(checkL_ok _).2 (clockL_okC HQ.out.un.leb)]; simp), if_neg (by omega), show (1 + (f : Int)).toNat = f + 1 by omega]
              rw [hsin] at hE8 ⊢
              simp only at hE8 ⊢
              obtain ⟨X, eX⟩ : ∃ X, X = lackL A (clockL Z) := ⟨_, rfl⟩
              have HXe : Hid (X = lackL A (clockL Z)) := eX
              have hXl : X.length ≤ 4096 := by rw [eX]; exact Nat.le_trans (List.length_filter_le _ _) HUP.out.lea
              rw [← eX] at hE8 HGK ⊢
              obtain ⟨Y, eY⟩ : ∃ Y, Y = X.take (f + 1) := ⟨_, rfl⟩
              have HYe : Hid (Y = X.take (f + 1)) := eY
              have hYl : Y.length ≤ 4096 := by rw [eY, List.length_take]; omega
              rw [← eY] at hE8
              have hl8 : E8.length ≤ 4096 := by have := congrArg List.length hE8; rw [List.length_map] at this; omega
              have hf8 := HFirm.made hO8 hD8 hl8
              rw [hE8] at hf8
              obtain ⟨G8, eG8⟩ : ∃ G8 : Nat → Prop, G8 = fun k => G k ∨ (w7.heap.size ≤ k ∧ k < w8.heap.size) := ⟨_, rfl⟩
              have HA8 : Hid (UnS w la lb Fa Fb G8 A Z U ub (.slice au U.length cu) (.slice au U.length cu) Y v8 (clockL U) (.slice a6 (clockL U).length c6) w8) := by
                have hg := HA7.out.grow hb8 (G' := G8) (fun k q => by rw [eG8]; exact .inl q) (fun k q => by rw [eG8] at q; exact q)
                exact hg.othTo (hf8.mono (fun k q => by rw [eG8]; exact .inr q) hg.doc.1)
              obtain ⟨a8, c8, e8⟩ := HA8.out.oth.isH.form
              subst e8
              have HL8 : Hid (LackP X Z 0 Z) := LackP.start HQ.out.un.gb
              clear hE8 hO8 hD8 hb8 hl8 hf8 eG8 HA7 HI7 hsin eX eY
              obtain ⟨m, em⟩ : ∃ m : Bool, m = decide (1 + (f : Int) < (X.length : Int)) := ⟨_, rfl⟩
              have HMo : Hid (m = decide (1 + (f : Int) < (X.length : Int))) := em
              rw [← em]
              clear em
              have qY : m = true → ((Y.length : Int) == 0) = false := fun hm => by
                have h1 := HMo.out
                rw [hm] at h1
                have h2 := of_decide_eq_true h1.symm
                have h3 : Y.length = f + 1 := by rw [HYe.out, List.length_take]; omega
                rw [beq_eq_false_iff_ne]
                omega
              have HqY : Hid (m = true → ((Y.length : Int) == 0) = false) := qY
              clear qY
              cases m with
              | true =>
                have qY := HqY.out rfl
                go_wp2
                go_loopw [22] (fun iv wr => ∃ (j : Nat) (V : List Ch) (Fb : Nat → Prop), j ≤ Y.length ∧ iv = .int .i64 (j : Int) ∧ Hid (UnS w la lb Fa Fb G8 A V U ub (.slice au U.length cu) (.slice au U.length cu) Y (.slice a8 Y.length c8) (clockL U) (.slice a6 (clockL U).length c6) wr) ∧ Hid (LackP X Z j V)) (fun iv _ => Y.length - (intOf iv).toNat)
                case atStart => exact ⟨0, Z, Fb, Nat.zero_le _, rfl, HA8, HL8⟩
                case round =>
                  rename World => wq
                  obtain ⟨j, V, Fb, hj, rfl, HA, HL⟩ := hrel
                  clear HA8 HL8
                  by_cases hj2 : j < Y.length
                  · obtain ⟨_, _, e, _, hone⟩ := HA.out.oth.one
                    simp only [Value.slice.injEq] at e
                    obtain ⟨e1, _, e3⟩ := e
                    subst e1 e3
                    obtain ⟨b, o, a3, c3, eb, hI3, hS3, hcl⟩ := hone j hj2
                    subst eb
                    have hXj : j < X.length := by have h1 := congrArg List.length HYe.out; rw [List.length_take] at h1; omega
                    obtain ⟨x, ex⟩ : ∃ x, x = Y[j] := ⟨_, rfl⟩
                    have HX0 : Hid (x = X[j]) := by
                      show _ = _
                      have h1 : Y[j]? = X[j]? := by rw [HYe.out, List.getElem?_take_of_lt (by have h1 := congrArg List.length HYe.out; rw [List.length_take] at h1; omega)]
                      rw [List.getElem?_eq_getElem hj2, List.getElem?_eq_getElem hXj] at h1
                      rw [ex]
                      exact Option.some.inj h1
                    rw [← ex] at hI3 hS3 hcl
                    clear ex hone
                    have HWy : Hid (whyR V 4096 x = 0) := by
                      show _ = _
                      have h1 := HL.out
                      rw [HX0.out]
                      rw [HXe.out] at h1
                      have h2 := h1.why HQ.out.un (by rw [← HXe.out]; exact hXj)
                      have h3 : ∀ (P Q : List Ch) (e : P = Q) (hp : j < P.length) (hq : j < Q.length), P[j] = Q[j] := fun P Q e hp hq => by subst e; rfl
                      rw [h3 X _ HXe.out hXj (by rw [← HXe.out]; exact hXj)]
                      exact h2
                    have HVl : Hid (V.length ≤ 4096 ∧ Good V) := by
                      have h1 := HL.out
                      rw [HXe.out] at h1
                      exact ⟨h1.le HQ.out.un, h1.gv⟩
                    have HSt : Hid (LackP X Z (j + 1) (addL V 4096 x)) := by
                      have h1 := HL.out
                      rw [HXe.out] at h1
                      have h2 := h1.step HQ.out.un (by rw [← HXe.out]; exact hXj)
                      have h3 : ∀ (P Q : List Ch) (e : P = Q) (hp : j < P.length) (hq : j < Q.length), P[j] = Q[j] := fun P Q e hp hq => by subst e; rfl
                      have h4 : x = (lackL A (clockL Z))[j]'(by rw [← HXe.out]; exact hXj) := by rw [HX0.out]; exact h3 X _ HXe.out hXj _
                      rw [← h4, ← HXe.out] at h2
                      exact h2
                    obtain ⟨ac, ar, sq, ds, kd, nc, nr, pc, pr, fc, fr, nm, vl⟩ := x
                    simp only at hI3 hcl
                    obtain ⟨k_0, k_1, k_2, k_3, k_4, k_5, k_6, k_7, k_8, k_9, k_10, k_11, k_12⟩ := chAll (hcl _ (KeepsS.refl _ _))
                    simp only at k_0 k_1 k_2 k_3 k_4 k_5 k_6 k_7 k_8 k_9 k_10 k_11 k_12
                    have HIc : Hid (IsI wq (.slice a3 ds.length c3) ds) := hI3.isI
                    have HSz : Hid (Sized (⟨ac, ar, sq, ds, kd, nc, nr, pc, pr, fc, fr, nm, vl⟩ : Ch)) := hS3
                    have j1 : (j : Int) < (Y.length : Int) := by omega
                    have j0 : (0 : Int) ≤ (j : Int) := by omega
                    clear hI3 hS3 hcl HX0 HL
                    go_wp2_with fail
                    clear k_0 k_1 k_2 k_3 k_4 k_5 k_6 k_7 k_8 k_9 k_10 k_11 k_12
                    refine (add_any Fb lb 4096 V (⟨ac, ar, sq, ds, kd, nc, nr, pc, pr, fc, fr, nm, vl⟩ : Ch) (.slice a3 ds.length c3) _ HA.out.logb HVl.out.2 (by have := HVl.out.1; omega) (by omega) HIc.out HSz.out).mono ?_
                    rintro e w9 ⟨rfl, F9, hL9, _, hf9, ht9⟩
                    have HA9 : Hid (UnS w la lb Fa F9 G8 A (addL V 4096 (⟨ac, ar, sq, ds, kd, nc, nr, pc, pr, fc, fr, nm, vl⟩ : Ch)) U ub (.slice au U.length cu) (.slice au U.length cu) Y (.slice (some ⟨b, o, none⟩) Y.length c8) (clockL U) (.slice a6 (clockL U).length c6) w9) := HA.out.addB hL9 hf9 ht9
                    rw [HWy.out]
                    clear hL9 hf9 ht9 HA
                    go_wp2
                    go_roundw
                    case rel => exact ⟨j + 1, _, F9, by omega, by go_num, HA9, HSt⟩
                    case measure => simp [intOf]; omega
                  · obtain rfl : j = Y.length := by omega
                    have HNx : Hid (LackP (lackL A (clockL Z)) Z (f + 1) V) := by
                      have h1 := HL.out
                      have h2 := congrArg List.length HYe.out
                      rw [List.length_take] at h2
                      rw [HXe.out] at h1 h2
                      have h3 : ∀ (P : List Ch) (n : Nat), P.take (min n P.length) = P.take n := fun P n => by
                        rcases Nat.le_total n P.length with q | q
                        · rw [Nat.min_eq_left q]
                        · rw [Nat.min_eq_right q, List.take_length, List.take_of_length_le q]
                      exact ⟨h1.gv, fun x => by rw [h1.mem, h2, h3]⟩
                    have HAz : Hid (UnS w la lb Fa Fb G8 A V U ub (.slice au U.length cu) (.slice au U.length cu) [] (.slice none 0 0) (clockL U) (.slice a6 (clockL U).length c6) wq) := HA.out.othTo ⟨HA.out.doc.1, none, 0, rfl, Nat.le_refl _, by simp, .inl rfl⟩
                    clear HA HL
                    go_wp2
                    go_roundg ((lackL A (clockL V)).length + 1)
                    case measure =>
                      rw [HGK.out, HXe.out]
                      have h1 := of_decide_eq_true HMo.out.symm
                      have := HQ.out.less HNx.out (by omega) (by rw [← HXe.out]; omega)
                      omega
                    case rel => exact ⟨V, Fb, G8, HAz, HQ.out.next HNx.out, .inl ⟨rfl, rfl⟩⟩
              | false =>
                go_wp2
                go_loopw [22] (fun iv wr => ∃ (j : Nat) (V : List Ch) (Fb : Nat → Prop), j ≤ Y.length ∧ iv = .int .i64 (j : Int) ∧ Hid (UnS w la lb Fa Fb G8 A V U ub (.slice au U.length cu) (.slice au U.length cu) Y (.slice a8 Y.length c8) (clockL U) (.slice a6 (clockL U).length c6) wr) ∧ Hid (LackP X Z j V)) (fun iv _ => Y.length - (intOf iv).toNat)
                case atStart => exact ⟨0, Z, Fb, Nat.zero_le _, rfl, HA8, HL8⟩
                case round =>
                  rename World => wq
                  obtain ⟨j, V, Fb, hj, rfl, HA, HL⟩ := hrel
                  clear HA8 HL8
                  by_cases hj2 : j < Y.length
                  · obtain ⟨_, _, e, _, hone⟩ := HA.out.oth.one
                    simp only [Value.slice.injEq] at e
                    obtain ⟨e1, _, e3⟩ := e
                    subst e1 e3
                    obtain ⟨b, o, a3, c3, eb, hI3, hS3, hcl⟩ := hone j hj2
                    subst eb
                    have hXj : j < X.length := by have h1 := congrArg List.length HYe.out; rw [List.length_take] at h1; omega
                    obtain ⟨x, ex⟩ : ∃ x, x = Y[j] := ⟨_, rfl⟩
                    have HX0 : Hid (x = X[j]) := by
                      show _ = _
                      have h1 : Y[j]? = X[j]? := by rw [HYe.out, List.getElem?_take_of_lt (by have h1 := congrArg List.length HYe.out; rw [List.length_take] at h1; omega)]
                      rw [List.getElem?_eq_getElem hj2, List.getElem?_eq_getElem hXj] at h1
                      rw [ex]
                      exact Option.some.inj h1
                    rw [← ex] at hI3 hS3 hcl
                    clear ex hone
                    have HWy : Hid (whyR V 4096 x = 0) := by
                      show _ = _
                      have h1 := HL.out
                      rw [HX0.out]
                      rw [HXe.out] at h1
                      have h2 := h1.why HQ.out.un (by rw [← HXe.out]; exact hXj)
                      have h3 : ∀ (P Q : List Ch) (e : P = Q) (hp : j < P.length) (hq : j < Q.length), P[j] = Q[j] := fun P Q e hp hq => by subst e; rfl
                      rw [h3 X _ HXe.out hXj (by rw [← HXe.out]; exact hXj)]
                      exact h2
                    have HVl : Hid (V.length ≤ 4096 ∧ Good V) := by
                      have h1 := HL.out
                      rw [HXe.out] at h1
                      exact ⟨h1.le HQ.out.un, h1.gv⟩
                    have HSt : Hid (LackP X Z (j + 1) (addL V 4096 x)) := by
                      have h1 := HL.out
                      rw [HXe.out] at h1
                      have h2 := h1.step HQ.out.un (by rw [← HXe.out]; exact hXj)
                      have h3 : ∀ (P Q : List Ch) (e : P = Q) (hp : j < P.length) (hq : j < Q.length), P[j] = Q[j] := fun P Q e hp hq => by subst e; rfl
                      have h4 : x = (lackL A (clockL Z))[j]'(by rw [← HXe.out]; exact hXj) := by rw [HX0.out]; exact h3 X _ HXe.out hXj _
                      rw [← h4, ← HXe.out] at h2
                      exact h2
                    obtain ⟨ac, ar, sq, ds, kd, nc, nr, pc, pr, fc, fr, nm, vl⟩ := x
                    simp only at hI3 hcl
                    obtain ⟨k_0, k_1, k_2, k_3, k_4, k_5, k_6, k_7, k_8, k_9, k_10, k_11, k_12⟩ := chAll (hcl _ (KeepsS.refl _ _))
                    simp only at k_0 k_1 k_2 k_3 k_4 k_5 k_6 k_7 k_8 k_9 k_10 k_11 k_12
                    have HIc : Hid (IsI wq (.slice a3 ds.length c3) ds) := hI3.isI
                    have HSz : Hid (Sized (⟨ac, ar, sq, ds, kd, nc, nr, pc, pr, fc, fr, nm, vl⟩ : Ch)) := hS3
                    have j1 : (j : Int) < (Y.length : Int) := by omega
                    have j0 : (0 : Int) ≤ (j : Int) := by omega
                    clear hI3 hS3 hcl HX0 HL
                    go_wp2_with fail
                    clear k_0 k_1 k_2 k_3 k_4 k_5 k_6 k_7 k_8 k_9 k_10 k_11 k_12
                    refine (add_any Fb lb 4096 V (⟨ac, ar, sq, ds, kd, nc, nr, pc, pr, fc, fr, nm, vl⟩ : Ch) (.slice a3 ds.length c3) _ HA.out.logb HVl.out.2 (by have := HVl.out.1; omega) (by omega) HIc.out HSz.out).mono ?_
                    rintro e w9 ⟨rfl, F9, hL9, _, hf9, ht9⟩
                    have HA9 : Hid (UnS w la lb Fa F9 G8 A (addL V 4096 (⟨ac, ar, sq, ds, kd, nc, nr, pc, pr, fc, fr, nm, vl⟩ : Ch)) U ub (.slice au U.length cu) (.slice au U.length cu) Y (.slice (some ⟨b, o, none⟩) Y.length c8) (clockL U) (.slice a6 (clockL U).length c6) w9) := HA.out.addB hL9 hf9 ht9
                    rw [HWy.out]
                    clear hL9 hf9 ht9 HA
                    go_wp2
                    go_roundw
                    case rel => exact ⟨j + 1, _, F9, by omega, by go_num, HA9, HSt⟩
                    case measure => simp [intOf]; omega
                  · obtain rfl : j = Y.length := by omega
                    have HNx : Hid (LackP (lackL A (clockL Z)) Z (f + 1) V) := by
                      have h1 := HL.out
                      have h2 := congrArg List.length HYe.out
                      rw [List.length_take] at h2
                      rw [HXe.out] at h1 h2
                      have h3 : ∀ (P : List Ch) (n : Nat), P.take (min n P.length) = P.take n := fun P n => by
                        rcases Nat.le_total n P.length with q | q
                        · rw [Nat.min_eq_left q]
                        · rw [Nat.min_eq_right q, List.take_length, List.take_of_length_le q]
                      exact ⟨h1.gv, fun x => by rw [h1.mem, h2, h3]⟩
                    have HAz : Hid (UnS w la lb Fa Fb G8 A V U ub (.slice au U.length cu) (.slice au U.length cu) [] (.slice none 0 0) (clockL U) (.slice a6 (clockL U).length c6) wq) := HA.out.othTo ⟨HA.out.doc.1, none, 0, rfl, Nat.le_refl _, by simp, .inl rfl⟩
                    clear HA HL
                    go_wp2
                    go_roundg 0
                    case measure => rw [HGK.out]; omega
                    case rel =>
                      have h1 := of_decide_eq_false HMo.out.symm
                      exact ⟨V, Fb, G8, HAz, HQ.out.next HNx.out, .inr ⟨rfl, rfl, HQ.out.done HNx.out (by rw [← HXe.out]; omega) HUU.out⟩⟩
            · have HZU : Hid (Z = U) := hZU
              clear hgk hZU
              have HZ : Hid (UnS w la lb Fa Fb G A U U ub (.slice au U.length cu) (.slice au U.length cu) [] (.slice none 0 0) (clockL U) (.slice a6 (clockL U).length c6) wr) := by have h1 := HA.out; rw [HZU.out] at h1; exact h1
              clear HA HZU HQ
              go_upto_region 37 with fail
              refine wp_region_held_drew (S := fun W' => Below w.heap.size w W' ∧ W'.heap[ub]? = some (.cells #[.int .i64 4096, .slice au U.length cu] 26)) (by kernel_rfl) ⟨HZ.out.bel.trans ((Below.refl _ _).drew.mono HZ.out.bel.size), HZ.out.box⟩ (fun hHeld => ?_)
              obtain ⟨Uk3u0, eW⟩ : ∃ X, X = wr.drew := ⟨_, rfl⟩
              have hb : Below wr.heap.size wr Uk3u0 := by rw [eW]; exact (Below.refl _ _).drew
              replace HZ : Hid (UnS w la lb Fa Fb G A U U ub (.slice au U.length cu) (.slice au U.length cu) [] (.slice none 0 0) (clockL U) (.slice a6 (clockL U).length c6) Uk3u0) := HZ.out.below hb
              rw [← eW] at hHeld ⊢
              clear eW hb
              refine tkW 0 (some 177) (v := ?_) ?_ hHeld ?_
              rotate_left
              · (intro w _; go_simp; try with_reducible rfl)
              refine tkW 2 (some 179) (v := ?_) ?_ hHeld ?_
              rotate_left
              · (intro w _; go_simp; try with_reducible rfl)
              refine tkW 3 (some 180) (v := ?_) ?_ hHeld ?_
              rotate_left
              · (intro w hSw; (try dsimp only at hSw); obtain ⟨_, hy⟩ := hSw; obtain ⟨x_0, x_1, _, _⟩ := row2_cells hy; go_simp; try with_reducible rfl)
              refine wpAnyH_ready (rs := [1]) (by kernel_rfl) (by simp) ?_
              refine AllReadyH.cons (o := ⟨some 178, _, _, _, _, _⟩) rfl (fun K hK => ?_) AllReadyH.nil
              go_simp
              refine (all_any _ 4096 U Fb Uk3u0 HZ.out.logb.v HUU.out.gu (HUU.out.le HUP.out)).mono ?_
              rintro e Uk3u1 ⟨v9, E9, rfl, hE9, hO9, hD9, hb⟩
              (try go_wp2_with fail)
              refine hK.out _ _ (⟨hHeld.1.trans (hb.mono hHeld.1.size), (hb.block _ (row_lt hHeld.2)).trans hHeld.2⟩) (fun hHeld2 => ?_)
              clear hK K hHeld
              have hHeld := hHeld2
              clear hHeld2
              (try simp only [Act.put, List.setIfInBounds_toArray, List.set_cons_zero, List.set_cons_succ])
              replace HZ : Hid (UnS w la lb Fa Fb G A U U ub (.slice au U.length cu) (.slice au U.length cu) [] (.slice none 0 0) (clockL U) (.slice a6 (clockL U).length c6) Uk3u1) := HZ.out.below hb
              have HI9 : Hid (IsH Uk3u1 v9 U) := by have h1 := (HFirm.made hO9 hD9 (by have := congrArg List.length hE9; rw [List.length_map] at this; have := HUU.out.le HUP.out; omega)).isH; rw [hE9] at h1; exact h1
              clear hE9 hO9 hD9
              clear hb
              refine wpAnyH_ready (rs := [4]) (by kernel_rfl) (by simp) ?_
              refine AllReadyH.cons (o := ⟨some 181, _, _, _, _, _⟩) rfl (fun K hK => ?_) AllReadyH.nil
              go_simp
              refine (sameAll_eq _ _ U Uk3u1 HI9.out HZ.out.doc.isH).mono ?_
              rintro e Uk3u2 ⟨rfl, hb⟩
              (try go_wp2_with fail)
              refine hK.out _ _ (⟨hHeld.1.trans (hb.mono hHeld.1.size), (hb.block _ (row_lt hHeld.2)).trans hHeld.2⟩) (fun hHeld2 => ?_)
              clear hK K hHeld
              have hHeld := hHeld2
              clear hHeld2
              (try simp only [Act.put, List.setIfInBounds_toArray, List.set_cons_zero, List.set_cons_succ])
              replace HZ : Hid (UnS w la lb Fa Fb G A U U ub (.slice au U.length cu) (.slice au U.length cu) [] (.slice none 0 0) (clockL U) (.slice a6 (clockL U).length c6) Uk3u2) := HZ.out.below hb
              replace HI9 : Hid (IsH Uk3u2 v9 U) := HI9.out.below hb
              clear hb
              refine tkW 5 (some 182) (v := ?_) ?_ hHeld ?_
              rotate_left
              · (intro w _; go_simp; try with_reducible rfl)
              refine tkW 6 (some 183) (v := ?_) ?_ hHeld ?_
              rotate_left
              · (intro w _; go_simp; try with_reducible rfl)
              refine tkW 8 (some 185) (v := ?_) ?_ hHeld ?_
              rotate_left
              · (intro w _; go_simp; try with_reducible rfl)
              refine wpAnyH_ready (rs := [7]) (by kernel_rfl) (by simp) ?_
              refine AllReadyH.cons (o := ⟨some 184, _, _, _, _, _⟩) rfl (fun K hK => ?_) AllReadyH.nil
              go_simp
              refine (clock_any _ 4096 U Fb Uk3u2 HZ.out.logb.v).mono ?_
              rintro e Uk3u3 ⟨v7, rfl, ho7, hb⟩
              (try go_wp2_with fail)
              refine hK.out _ _ (⟨hHeld.1.trans (hb.mono hHeld.1.size), (hb.block _ (row_lt hHeld.2)).trans hHeld.2⟩) (fun hHeld2 => ?_)
              clear hK K hHeld
              have hHeld := hHeld2
              clear hHeld2
              (try simp only [Act.put, List.setIfInBounds_toArray, List.set_cons_zero, List.set_cons_succ])
              replace HZ : Hid (UnS w la lb Fa Fb G A U U ub (.slice au U.length cu) (.slice au U.length cu) [] (.slice none 0 0) (clockL U) (.slice a6 (clockL U).length c6) Uk3u3) := HZ.out.below hb
              replace HI9 : Hid (IsH Uk3u3 v9 U) := HI9.out.below hb
              have HI7 : Hid (IsI Uk3u3 v7 (clockL U)) := ho7.isI (Nat.le_trans (clockL_length U) (by decide))
              clear ho7
              clear hb
              refine wpAnyH_ready (rs := [9]) (by kernel_rfl) (by simp) ?_
              refine AllReadyH.cons (o := ⟨some 186, _, _, _, _, _⟩) rfl (fun K hK => ?_) AllReadyH.nil
              go_simp
              refine (sameI_any _ _ (clockL U) (clockL U) Uk3u3 HI7.out HZ.out.cl.isI).mono ?_
              rintro e Uk3u4 ⟨rfl, hb⟩
              (try go_wp2_with fail)
              refine hK.out _ _ (⟨hHeld.1.trans (hb.mono hHeld.1.size), (hb.block _ (row_lt hHeld.2)).trans hHeld.2⟩) (fun hHeld2 => ?_)
              clear hK K hHeld
              have hHeld := hHeld2
              clear hHeld2
              (try simp only [Act.put, List.setIfInBounds_toArray, List.set_cons_zero, List.set_cons_succ])
              replace HZ : Hid (UnS w la lb Fa Fb G A U U ub (.slice au U.length cu) (.slice au U.length cu) [] (.slice none 0 0) (clockL U) (.slice a6 (clockL U).length c6) Uk3u4) := HZ.out.below hb
              replace HI9 : Hid (IsH Uk3u4 v9 U) := HI9.out.below hb
              replace HI7 : Hid (IsI Uk3u4 v7 (clockL U)) := HI7.out.below hb
              (try rw [decide_eq_true (rfl : clockL U = clockL U)])
              clear hb
              refine tkW 10 (some 187) (v := ?_) ?_ hHeld ?_
              rotate_left
              · (intro w _; go_simp; try with_reducible rfl)
              refine tkW 11 (some 188) (v := ?_) ?_ hHeld ?_
              rotate_left
              · (intro w _; go_simp; try with_reducible rfl)
              refine wpAnyH_ready (rs := [12]) (by kernel_rfl) (by simp) ?_
              refine AllReadyH.cons (o := ⟨some 189, _, _, _, _, _⟩) rfl (fun K hK => ?_) AllReadyH.nil
              go_simp
              refine (awake_any Uk3u4).mono ?_
              rintro e Uk3u5 ⟨rfl, hb⟩
              (try go_wp2_with fail)
              refine hK.out _ _ (⟨hHeld.1.trans (hb.mono hHeld.1.size), (hb.block _ (row_lt hHeld.2)).trans hHeld.2⟩) (fun hHeld2 => ?_)
              clear hK K hHeld
              have hHeld := hHeld2
              clear hHeld2
              (try simp only [Act.put, List.setIfInBounds_toArray, List.set_cons_zero, List.set_cons_succ])
              replace HZ : Hid (UnS w la lb Fa Fb G A U U ub (.slice au U.length cu) (.slice au U.length cu) [] (.slice none 0 0) (clockL U) (.slice a6 (clockL U).length c6) Uk3u5) := HZ.out.below hb
              replace HI9 : Hid (IsH Uk3u5 v9 U) := HI9.out.below hb
              replace HI7 : Hid (IsI Uk3u5 v7 (clockL U)) := HI7.out.below hb
              clear hb
              refine tkW 13 (some 190) (v := ?_) ?_ hHeld ?_
              rotate_left
              · (intro w _; go_simp; try with_reducible rfl)
              refine tkW 14 (some 4) (v := ?_) ?_ hHeld ?_
              rotate_left
              · (intro w _; go_simp; try with_reducible rfl)
              refine wpAnyH_done (by kernel_rfl) ?_ _
              have HBz : Hid (Below w0.heap.size w0 Uk3u5) := HB0w.out.trans (HZ.out.bel.mono HB0w.out.size)
              clear hHeld HZ
              go_wp2
              go_ret
              exact ⟨rfl, HBz.out⟩

end Go.Proofs.YtngldpabfpcaiaaGreat

namespace Go.Proofs.YtngldpabfpcaiaaGreat
open Go.ChangeShapes Go.WideShapes Go.ChangeAt Go.RowKit
open Go.ChangeMaps (open_string shut_string)
set_option linter.unusedVariables false

set_option maxRecDepth 100000 in
theorem oplogUnion_lifted (os : Os) (started : os.Started) (H : Type) (enc : TypeId × Value → H) :
    ReturnsInHanded {} Tryz.checked os 4 .any (Rows.oplogUnionSpec.pre6 enc Tryz.prog Tryz.f4 Rows.oplogUnionRow.domain false) (Rows.oplogUnionSpec.post enc Tryz.prog Tryz.f4 false true false false) := by
  refine returnsInHanded_of_change_sized (C := Tryz.checked) ownI started (by kernel_rfl) Tryz.func4
    (ChangeSpec.witness6 (enc := enc) (C := Tryz.checked) false ⟨#[], #[.agg #[.slice none 0 0, .slice none 0 0], .int .i64 0], []⟩ 8 (by kernel_rfl) (by kernel_rfl) (by kernel_rfl) (by kernel_rfl)) ?_
  intro W base args ds gs before hval0 hW _ hsz0 _
  have hval : ∀ (j : Nat) t v, Tryz.f4.params[j]? = some t → args[j]? = some v → Value.okWide Tryz.prog W .any base t v := hval0
  have hW' := hW
  obtain ⟨p, q, hA0, hV, rfl, hfz, hnd⟩ := hW
  have hA : DataW.TrodAll enc Tryz.prog W 0 (fun _ => true) true Tryz.f4.params.toList args.toList ds p := hA0
  rw [Tryz.params4] at hA hval
  obtain ⟨v0, v1, d0, d1, p0, p1, rfl, rfl, rfl, h0, h1⟩ := trodAll_two hA
  obtain ⟨rfl, rfl⟩ := trodVars_none hV
  have hk0 := h0
  obtain ⟨x1, rfl, rfl, rfl, wx1⟩ := open_int Tryz.underlying3 (hval 1 3 v1 rfl rfl) h1
  have hsz : (DataW.weightsEach Tryz.prog (Tryz.f4.params.toList ++ Rows.oplogUnionSpec.plain.varTypes Tryz.prog) (_ ++ _)).all (· ≤ reachBytes) = true := hsz0
  rw [Tryz.params4] at hsz
  have hw0 : ∀ n ∈ d0.weights Tryz.prog 46, n ≤ reachBytes := fun n hn => by
    have h1 := List.all_eq_true.1 hsz n (DataW.weights_mem_each (j := 0) rfl rfl n hn)
    simpa using h1
  obtain ⟨lv0, l0, wv0, wd0, ev0, is0, iw0⟩ := open_splitV (hval 0 46 v0 rfl rfl) h0 hw0
  subst ev0
  have hlt0 : ∀ x ∈ p0, x.block < W.heap.size := fun x hx => by simpa using hW'.lt x (by simp [hx])
  clear hA0 hval0
  refine (unionWalk lv0 l0 wv0 wd0 x1 W is0 iw0).mono fun e W' ⟨he, bel⟩ => ?_
  subst he
  exact ⟨_, rfl, _, _, _, [], _, [], hW', trodAll_mk1 (shut_bool Tryz.underlying4 _), trodAll_mk2 (Below.trod laidOutI (by kernel_rfl) (of_decide_eq_true (by kernel_rfl)) hk0 bel hlt0) (shut_int Tryz.underlying3 wx1), rfl, bel.frame _, fun h => by cases h⟩

theorem oplogUnion_holds : Rows.OplogUnionSaid :=
  OpenClaim.holds_of_wide 4 Tryz.f4 rfl rfl rfl rfl rfl rfl rfl ⟨rfl, rfl, rfl, rfl, rfl⟩ rfl rfl rfl rfl rfl (by kernel_rfl) Tryz.func4 (by kernel_rfl)
    (of_decide_eq_true (by kernel_rfl)) (by unfold Func.isWrapper; first | (rw [if_pos (by decide +kernel)]; kernel_rfl) | (rw [if_neg (by decide +kernel)]; exact ⟨rfl, rfl⟩))
    (fun os started H enc _ => oplogUnion_lifted os started H enc)
#print axioms oplogUnion_holds
end Go.Proofs.YtngldpabfpcaiaaGreat
