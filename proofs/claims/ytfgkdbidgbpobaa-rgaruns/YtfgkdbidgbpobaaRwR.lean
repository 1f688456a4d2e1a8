/- slices.Backward of stamps as an iterator. -/
import Derived.Test.YtfgkdbidgbpobaaRgR
namespace Go.Proofs.Ytfgkdbidgbpobaa
open Go.RowKit Go.Shelf
set_option linter.unusedVariables false
set_option linter.unusedSimpArgs false

attribute [local go_sem] Oper.semAt_some

theorem KeepsS.of_grown {S : Nat → Prop} {W W' : World} {row : Option Nat} (h : W.grownBy W' row) (hh : ∀ k, S k → k < W.heap.size) (hr : ∀ r, row = some r → ¬ S r) : KeepsS S W W' :=
  ⟨h.size, fun k h1 => h.block k (hh k h1) (fun e => hr k e.symm h1)⟩
def KeepsH (S : Nat → Prop) (W X : World) : Prop := KeepsS S W X ∧ ∀ k, S k → k < W.heap.size
theorem KeepsH.below {S : Nat → Prop} {W X Y : World} (h : KeepsH S W X) (hb : Below X.heap.size X Y) : KeepsH S W Y := ⟨h.1.trans (KeepsS.of_below hb (fun k hk => Nat.lt_of_lt_of_le (h.2 k hk) h.1.1)), h.2⟩
def JH (B : Nat) (J : Nat → World → Prop) (k : Nat) (X : World) : Prop := J k X ∧ AbidesFrom B J
theorem JH.below {B : Nat} {J : Nat → World → Prop} {k : Nat} {X Y : World} (h : JH B J k X) (hb : Below X.heap.size X Y) : JH B J k Y := ⟨h.2 k X Y none h.1 (grownBy.ofBelow hb none) (fun r e => by cases e), h.2⟩
/-- A stamp and its place as yield's arguments. -/
def encB (x : St × Nat) : Array Value := #[.int .i64 (x.2 : Int), .agg #[.int .i64 x.1.1, .int .i64 x.1.2]]
/-- The last one first. -/
def backL (l : List St) : List (St × Nat) := l.zipIdx.reverse
theorem backL_length (l : List St) : (backL l).length = l.length := by simp [backL]
theorem backL_get (l : List St) {k m : Nat} (h : k < l.length) (hm : k + m + 1 = l.length) : (backL l)[k]'(by rw [backL_length]; exact h) = (l[m]'(by omega), m) := by
  unfold backL
  rw [List.getElem_reverse, List.getElem_zipIdx]
  simp only [List.length_zipIdx, Nat.zero_add]
  have : l.length - 1 - k = m := by omega
  simp [this]
theorem backL_fst (l : List St) : (backL l).map Prod.fst = l.reverse := by
  unfold backL
  rw [List.map_reverse]
  congr 1
  exact List.zipIdx_map_fst 0 l

set_option maxRecDepth 100000 in
set_option maxHeartbeats 8000000 in
theorem back1_in (n : Nat) (hn : 2 ≤ n) (l B1 c : Nat) (S : Nat → Prop) (a : Option Addr) (D : List St) (J Jx : Nat → World → Prop) (W : World)
    (hS1 : S B1) (hSl : ∀ k, S k → k < W.heap.size) (hB1 : W.cell? ⟨B1, 0, none⟩ = some (.slice a D.length c)) (hR : LsE stCells 2 S W (.slice a D.length c) D) (hl : D.length ≤ 8192)
    (hJ : AbidesFrom W.heap.size J)
    (hY : ∀ k (h : k < (backL D).length) W1, J k W1 → YieldAt Fence.wide (n - 1) Try.prog l (encB (backL D)[k]) W1 fun e W' => (e = .returned (.bool true) ∧ J (k + 1) W' ∧ KeepsS S W1 W') ∨ (e = .returned (.bool false) ∧ Jx (k + 1) W')) (h0 : J 0 W) :
    CallsIn Fence.wide n Try.prog 39 #[.func (.yield l) #[] #[], .pointer (some ⟨B1, 0, none⟩)] W fun e W' => (∃ v, e = .returned v) ∧ (J (backL D).length W' ∨ ∃ k, k ≤ (backL D).length ∧ Jx k W') := by
  have HR : Hid (LsE stCells 2 S W (.slice a D.length c) D) := hR
  have HSl : Hid (∀ k, S k → k < W.heap.size) := hSl
  have HJ : Hid (AbidesFrom W.heap.size J) := hJ
  have HB1 : Hid (W.cell? ⟨B1, 0, none⟩ = some (.slice a D.length c)) := hB1
  clear hR hJ hSl
  refine callsIn_of_wp Try.func39 rfl trivial ?_ rfl
  simp only [Try.ntmps39, List.size_toArray, List.length_cons, List.length_nil, Nat.reduceAdd, Nat.reduceSub, Array.replicate_succ, Array.replicate_zero, List.push_toArray, List.append_toArray, List.nil_append, List.cons_append]
  gi_wp2
  clear hB1
  gi_loopw [3] (fun i wr => ∃ k m : Nat, k + m = D.length ∧ i = .int .i64 ((m : Int) - 1) ∧ Hid (JH W.heap.size J k wr) ∧ Hid (KeepsH S W wr))
    (fun i _ => (intOf i + 1).toNat)
  case atStart => exact ⟨0, D.length, by omega, rfl, ⟨h0, HJ.out⟩, ⟨KeepsS.refl _ _, HSl.out⟩⟩
  case round =>
    obtain ⟨k, m, hkm, rfl, HJr, HKr⟩ := hrel
    cases m with
    | zero =>
      have HE : Hid (J (backL D).length wr) := by
        have := HJr.out.1
        rw [backL_length, ← hkm]
        exact this
      clear hkm
      gi_wp2
      go_end0
      exact ⟨⟨_, rfl⟩, .inl HE.out⟩
    | succ m =>
      have em : ((m + 1 : Nat) : Int) - 1 = (m : Int) := by omega
      rw [em]
      have hlt : k < D.length := by omega
      have hmd : m < D.length := by omega
      have HKM : Hid (k + m + 1 = D.length) := by (show _ = _; omega)
      have b1 : wr.cell? ⟨B1, 0, none⟩ = some (.slice a D.length c) := (HKr.out.1.cell (p := ⟨B1, 0, none⟩) hS1).trans HB1.out
      obtain ⟨a', cap', e', hc', hl', hrow⟩ := HR.out.keep HKr.out.1
      injection e' with e1 _ e3
      subst e1 e3
      obtain ⟨b, o, rfl, hSb, hbl, hcs⟩ := hrow.resolve_left (by intro e; subst e; simp at hlt)
      have y1 : wr.cell? ⟨b, o + m * 2, none⟩ = some (.int .i64 D[m].1) := hcs m hmd 0 (.int .i64 D[m].1) rfl
      have y2 : wr.cell? ⟨b, o + m * 2 + 1, none⟩ = some (.int .i64 D[m].2) := hcs m hmd 1 (.int .i64 D[m].2) rfl
      have kk1 : (m : Int) < (D.length : Int) := by omega
      have kk0 : (0 : Int) ≤ (m : Int) := by omega
      have hYk := hY k (by rw [backL_length]; exact hlt)
      have HJl : Hid (k + 1 ≤ (backL D).length) := by (show _ ≤ _; rw [backL_length]; exact hlt)
      rw [backL_get D hlt HKM.out] at hYk
      clear hcs hkm em hrow hc' hl'
      generalize D[m] = x at *
      obtain ⟨f, t⟩ := x
      obtain ⟨fn, tmps, assign, body, hy, hRd⟩ := hYk _ HJr.out.1
      simp only [encB] at hy
      clear hYk
      have hmn : ¬ (m : Int) < 0 := by omega
      gi_wp2
      refine ⟨fun _ => by omega, hRd.mono ?_⟩
      rintro e W3 (⟨rfl, hJ3, hk3⟩ | ⟨rfl, hJx3⟩)
      · have HJ3 : Hid (JH W.heap.size J (k + 1) W3) := ⟨hJ3, HJ.out⟩
        have HK3 : Hid (KeepsH S W W3) := ⟨HKr.out.1.trans hk3, HSl.out⟩
        clear hJ3 hk3 hy b1 y1 y2
        gi_wp2
        go_roundw
        case rel => exact ⟨k + 1, m, by have := HKM.out; omega, rfl, HJ3, HK3⟩
        case measure => (simp [intOf]; try omega)
      · have HJ3 : Hid (Jx (k + 1) W3) := hJx3
        clear hJx3 hy b1 y1 y2
        gi_wp2
        refine bodyPost_ret (results_none rfl _ _ _) rfl ?_
        exact ⟨⟨_, rfl⟩, .inr ⟨_, HJl.out, HJ3.out⟩⟩

/-- The iterator, wherever it is gone over. -/
theorem back_seq (n : Nat) (hn : 2 ≤ n) (B1 c : Nat) (S : Nat → Prop) (a : Option Addr) (D : List St) (w : World) (hS1 : S B1) (hSl : ∀ k, S k → k < w.heap.size) (hB1 : w.cell? ⟨B1, 0, none⟩ = some (.slice a D.length c)) (hR : LsE stCells 2 S w (.slice a D.length c) D) (hl : D.length ≤ 8192) :
    SeqOf n Try.prog 39 #[.pointer (some ⟨B1, 0, none⟩)] encB (KeepsS S) (backL D) w := fun l J Jx W hW hJ _ hY h0 =>
  have hk : KeepsS S w W := KeepsS.of_below hW hSl
  back1_in n hn l B1 c S a D J Jx W hS1 (fun k h => Nat.lt_of_lt_of_le (hSl k h) hW.size) ((hk.cell (p := ⟨B1, 0, none⟩) hS1).trans hB1) (hR.keep hk) hl hJ hY h0

set_option maxHeartbeats 1000000 in
theorem back_any (v : Value) (w : World) (hf : ∃ a n c, v = .slice a n c) :
    Calls Try.prog 25 #[v] w fun e w' => e = .returned (.func (.func 39) #[] #[.pointer (some ⟨w.heap.size, 0, none⟩)]) ∧ w' = w.alloc (.cells #[v] 38) := by
  obtain ⟨a, n, c, rfl⟩ := hf
  go_enter Try.func25, Try.ntmps25
  go_wp2
  go_ret
  exact ⟨rfl, rfl⟩

end Go.Proofs.Ytfgkdbidgbpobaa
