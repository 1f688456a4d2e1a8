/- What the iterator of the ways does. -/
import Derived.Test.YtlcnfoljkcfplaaBgW
namespace Go.Proofs.Ytlcnfoljkcfplaa
open Go.RowKit Go.Shelf
set_option linter.unusedVariables false
set_option linter.unusedSimpArgs false

attribute [local go_sem] Oper.semAt_some

theorem KeepsS.cell {S : Nat → Prop} {A B : World} (h : KeepsS S A B) {p : Addr} (h1 : S p.block) : B.cell? p = A.cell? p := World.cell?_of_block (w := A) (h.2 p.block h1)
theorem KeepsS.of_grown {S : Nat → Prop} {W W' : World} {row : Option Nat} (h : W.grownBy W' row) (hh : ∀ k, S k → k < W.heap.size) (hr : ∀ r, row = some r → ¬ S r) : KeepsS S W W' :=
  ⟨h.size, fun k h1 => h.block k (hh k h1) (fun e => hr k e.symm h1)⟩
/-- A way as yield's argument. -/
def encW (x : Nat × Nat × Nat) : Array Value := #[.agg #[.int .i64 (x.1 : Int), .int .i64 (x.2.1 : Int), .int .i64 (x.2.2 : Int)]]
def WaysIn (S : Nat → Prop) (W : World) (a : Option Addr) (D : List (Nat × Nat × Nat)) : Prop := D = [] ∨ ∃ b, a = some ⟨b, 0, none⟩ ∧ S b ∧ ∀ i (h : i < D.length), W.cell? ⟨b, i * 3, none⟩ = some (.int .i64 (D[i].1 : Int)) ∧ W.cell? ⟨b, i * 3 + 1, none⟩ = some (.int .i64 (D[i].2.1 : Int)) ∧ W.cell? ⟨b, i * 3 + 2, none⟩ = some (.int .i64 (D[i].2.2 : Int))
theorem WaysIn.kept {S : Nat → Prop} {A B : World} {a : Option Addr} {D : List (Nat × Nat × Nat)} (h : WaysIn S A a D) (hb : KeepsS S A B) : WaysIn S B a D :=
  h.imp id fun ⟨b, e, hs, hr⟩ => ⟨b, e, hs, fun i hi => ⟨(hb.cell (p := ⟨b, i * 3, none⟩) hs).trans (hr i hi).1, (hb.cell (p := ⟨b, i * 3 + 1, none⟩) hs).trans (hr i hi).2.1, (hb.cell (p := ⟨b, i * 3 + 2, none⟩) hs).trans (hr i hi).2.2⟩⟩
theorem OwnV.ways {b : Nat} {w : World} {a : Option Addr} {c : Nat} {D : List (Nat × Nat × Nat)} (h : OwnV b w (.slice a D.length c) D) (S : Nat → Prop) (hS : ∀ k, b ≤ k → k < w.heap.size → S k) : WaysIn S w a D := by
  have h0 := h
  rcases h.2 with ⟨e, hn⟩ | ⟨g, cap, cur, e, hg, hc, hcap, rest⟩
  · exact .inl (List.eq_nil_of_length_eq_zero hn)
  · injection e with e1 _ e3
    subst e1 e3
    refine .inr ⟨g, rfl, hS g hg (row_lt hc), fun i hi => ?_⟩
    have hf := flatW_get D i hi
    exact ⟨(World.ownsRow.cellAt h0 (i * 3) (by omega)).trans hf.1, (World.ownsRow.cellAt h0 (i * 3 + 1) (by omega)).trans hf.2.1, (World.ownsRow.cellAt h0 (i * 3 + 2) (by omega)).trans hf.2.2⟩
def KeepsH (S : Nat → Prop) (W X : World) : Prop := KeepsS S W X ∧ ∀ k, S k → k < W.heap.size
theorem KeepsH.below {S : Nat → Prop} {W X Y : World} (h : KeepsH S W X) (hb : Below X.heap.size X Y) : KeepsH S W Y := ⟨h.1.trans (KeepsS.of_below hb (fun k hk => Nat.lt_of_lt_of_le (h.2 k hk) h.1.1)), h.2⟩
def JH (B : Nat) (J : Nat → World → Prop) (k : Nat) (X : World) : Prop := J k X ∧ AbidesFrom B J
theorem JH.below {B : Nat} {J : Nat → World → Prop} {k : Nat} {X Y : World} (h : JH B J k X) (hb : Below X.heap.size X Y) : JH B J k Y := ⟨h.2 k X Y none h.1 (grownBy.ofBelow hb none) (fun r e => by cases e), h.2⟩

set_option maxRecDepth 100000 in
set_option maxHeartbeats 8000000 in
theorem values1_in (n : Nat) (hn : 2 ≤ n) (l B1 c : Nat) (S : Nat → Prop) (a : Option Addr) (D : List (Nat × Nat × Nat)) (J Jx : Nat → World → Prop) (W : World)
    (hS1 : S B1) (hSl : ∀ k, S k → k < W.heap.size) (hB1 : W.cell? ⟨B1, 0, none⟩ = some (.slice a D.length c)) (hR : WaysIn S W a D) (hl : D.length ≤ 8192)
    (hJ : AbidesFrom W.heap.size J)
    (hY : ∀ k (h : k < D.length) W1, J k W1 → YieldAt Fence.wide (n - 1) Try.prog l (encW D[k]) W1 fun e W' => (e = .returned (.bool true) ∧ J (k + 1) W' ∧ KeepsS S W1 W') ∨ (e = .returned (.bool false) ∧ Jx (k + 1) W')) (h0 : J 0 W) :
    CallsIn Fence.wide n Try.prog 38 #[.func (.yield l) #[] #[], .pointer (some ⟨B1, 0, none⟩)] W fun e W' => (∃ v, e = .returned v) ∧ (J D.length W' ∨ ∃ k, k ≤ D.length ∧ Jx k W') := by
  have HR : Hid (WaysIn S W a D) := hR
  have HSl : Hid (∀ k, S k → k < W.heap.size) := hSl
  have HJ : Hid (AbidesFrom W.heap.size J) := hJ
  clear hR hJ hSl
  refine callsIn_of_wp Try.func38 rfl trivial ?_ rfl
  simp only [Try.ntmps38, List.size_toArray, List.length_cons, List.length_nil, Nat.reduceAdd, Nat.reduceSub, Array.replicate_succ, Array.replicate_zero, List.push_toArray, List.append_toArray, List.nil_append, List.cons_append]
  gi_wp2
  gi_loopw [4, 7] (fun _ i wr => ∃ k : Nat, k ≤ D.length ∧ i = .int .i64 k ∧ Hid (JH W.heap.size J k wr) ∧ Hid (KeepsH S W wr))
    (fun _ i _ => D.length - (intOf i).toNat)
  case atStart => exact ⟨0, Nat.zero_le _, rfl, ⟨h0, HJ.out⟩, ⟨KeepsS.refl _ _, HSl.out⟩⟩
  case round =>
    obtain ⟨k, hk, rfl, HJr, HKr⟩ := hrel
    by_cases hlt : k < D.length
    · obtain ⟨b, rfl, hSb, hcs⟩ := (HR.out.kept HKr.out.1).resolve_left (by intro e; subst e; simp at hlt)
      obtain ⟨y1, y2, y3⟩ := hcs k hlt
      have kk1 : (k : Int) < (D.length : Int) := by omega
      have kk0 : (0 : Int) ≤ (k : Int) := by omega
      have hYk := hY k hlt
      have HJl : Hid (k + 1 ≤ D.length) := hlt
      clear hcs
      generalize D[k] = x at *
      obtain ⟨f, t, q⟩ := x
      obtain ⟨W4, eW4⟩ : ∃ X, X = wr.alloc (.cells #[.int .i64 (f : Int), .int .i64 (t : Int), .int .i64 (q : Int)] 71) := ⟨_, rfl⟩
      have hb4 : Below wr.heap.size wr W4 := by rw [eW4]; exact (Below.refl _ _).alloc (Nat.le_refl _) _
      have HKx : Hid (KeepsH S W W4) := HKr.out.below hb4
      have HJx : Hid (JH W.heap.size J k W4) := HJr.out.below hb4
      obtain ⟨fn, tmps, assign, body, hy, hRd⟩ := hYk _ HJx.out.1
      simp only [encW] at hy
      have hy2 := hy
      rw [eW4] at hy2
      clear hb4 hYk hy
      gi_wp2
      rw [← eW4]
      refine ⟨fun _ => by omega, hRd.mono ?_⟩
      rintro e W3 (⟨rfl, hJ3, hk3⟩ | ⟨rfl, hJx3⟩)
      · have HJ3 : Hid (JH W.heap.size J (k + 1) W3) := ⟨hJ3, HJ.out⟩
        have HK3 : Hid (KeepsH S W W3) := ⟨HKx.out.1.trans hk3, HSl.out⟩
        clear hJ3 hk3 eW4 hy2
        gi_wp2
        go_roundw
        case rel => exact ⟨k + 1, by omega, by go_num, HJ3, HK3⟩
        case measure => simp [intOf]; omega
      · have HJ3 : Hid (Jx (k + 1) W3) := hJx3
        clear hJx3 eW4 hy2
        gi_wp2
        refine bodyPost_ret (results_none rfl _ _ _) rfl ?_
        exact ⟨⟨_, rfl⟩, .inr ⟨_, HJl.out, HJ3.out⟩⟩
    · have HE : Hid (J D.length wr) := by
        have := HJr.out.1
        obtain rfl : k = D.length := by omega
        exact this
      gi_wp2
      go_end0
      exact ⟨⟨_, rfl⟩, .inl HE.out⟩

/-- The iterator of the ways, wherever it is gone over. -/
theorem values_seq (n : Nat) (hn : 2 ≤ n) (B1 c : Nat) (S : Nat → Prop) (a : Option Addr) (D : List (Nat × Nat × Nat)) (w : World) (hS1 : S B1) (hSl : ∀ k, S k → k < w.heap.size) (hB1 : w.cell? ⟨B1, 0, none⟩ = some (.slice a D.length c)) (hR : WaysIn S w a D) (hl : D.length ≤ 8192) :
    SeqOf n Try.prog 38 #[.pointer (some ⟨B1, 0, none⟩)] encW (KeepsS S) D w := fun l J Jx W hW hJ _ hY h0 =>
  have hk : KeepsS S w W := KeepsS.of_below hW hSl
  values1_in n hn l B1 c S a D J Jx W hS1 (fun k h => Nat.lt_of_lt_of_le (hSl k h) hW.size) ((hk.cell (p := ⟨B1, 0, none⟩) hS1).trans hB1) (hR.kept hk) hl hJ hY h0

set_option maxHeartbeats 1000000 in
theorem values_any (v : Value) (w : World) (hf : ∃ a n c, v = .slice a n c) :
    Calls Try.prog 36 #[v] w fun e w' => e = .returned (.func (.func 38) #[] #[.pointer (some ⟨w.heap.size, 0, none⟩)]) ∧ w' = w.alloc (.cells #[v] 67) := by
  obtain ⟨a, n, c, rfl⟩ := hf
  go_enter Try.func36, Try.ntmps36
  go_wp2
  go_ret
  exact ⟨rfl, rfl⟩

/-- What Ways answers: an iterator of these ways, in blocks from b on. -/
def WaysV (b : Nat) (w : World) (v : Value) (D : List (Nat × Nat × Nat)) : Prop := ∃ B1 a c, v = .func (.func 38) #[] #[.pointer (some ⟨B1, 0, none⟩)] ∧ b ≤ B1 ∧ Boxed w B1 67 (.slice a D.length c) ∧ OwnV b w (.slice a D.length c) D

set_option maxHeartbeats 1000000 in
theorem ways_any (F : Nat → Prop) (nb n : Nat) (B : Nat → List Pc) (w : World) (h : NetOk F w nb n B) :
    Calls Try.prog 35 #[.pointer (some ⟨nb, 0, none⟩)] w fun e w' => ∃ v, e = .returned v ∧ WaysV w.heap.size w' v (wall n B n) ∧ Below w.heap.size w w' := by
  go_enter Try.func35, Try.ntmps35
  go_wp2_with fail
  refine (ways0_any F nb n B _ h).mono ?_
  rintro e w1 ⟨v, rfl, ho, hb⟩
  obtain ⟨a, c, e1⟩ := ho.form
  subst e1
  have HO : Hid (OwnV w.heap.size w1 (.slice a (wall n B n).length c) (wall n B n)) := ho
  have HB : Hid (Below w.heap.size w w1) := hb
  clear ho hb
  go_wp2_with fail
  refine (values_any _ _ ⟨_, _, _, rfl⟩).mono ?_
  rintro e w2 ⟨rfl, hw⟩
  have hb2 : Below w1.heap.size w1 w2 := by rw [hw]; exact (Below.refl _ _).alloc (Nat.le_refl _) _
  have HX : Hid (Boxed w2 w1.heap.size 67 (.slice a (wall n B n).length c)) := by rw [hw]; exact Boxed.new _ _ _
  have HO2 : Hid (OwnV w.heap.size w2 (.slice a (wall n B n).length c) (wall n B n)) := HO.out.below hb2
  have HB2 : Hid (Below w.heap.size w w2) := HB.out.trans (hb2.mono HB.out.size)
  clear hw hb2
  go_wp2
  go_ret
  exact ⟨_, rfl, ⟨w1.heap.size, a, c, rfl, HB.out.size, HX.out, HO2.out⟩, HB2.out⟩

end Go.Proofs.Ytlcnfoljkcfplaa
