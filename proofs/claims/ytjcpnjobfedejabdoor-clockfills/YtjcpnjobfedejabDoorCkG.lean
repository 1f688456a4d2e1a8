/- What the iterator of gaps does: it hands out the gaps of two clocks, one by one, till the end or till no more is wanted. -/
import Derived.RangeFuncNested
import Derived.RangeFuncBound
import Derived.RangeFuncCalls
import Derived.RangeFuncLeaves
import Derived.Shelf.Abstract
import Derived.Shelf.RegionOpen
import Derived.WalkKit
import Derived.OwnWalkIn
import Derived.TacticsInMore
import Derived.LoopNIn
import Derived.LoopIn
import Derived.Sort.QuietIn
import Derived.Test.YtjcpnjobfedejabDoorCkM
namespace Go.Proofs.YtjcpnjobfedejabDoor
open Go.RowKit Go.Shelf
set_option linter.unusedVariables false

attribute [local go_sem] Oper.semAt_some

/-- A gap as yield's argument. -/
def encG (x : Int × Int × Int) : Array Value := #[.agg #[.int .i64 x.1, .int .i64 x.2.1, .int .i64 x.2.2]]
/-- The blocks of S lie as they lay. -/
def KeepsS (S : Nat → Prop) (W W' : World) : Prop := W.heap.size ≤ W'.heap.size ∧ ∀ k, S k → W'.heap[k]? = W.heap[k]?
theorem KeepsS.refl (S : Nat → Prop) (W : World) : KeepsS S W W := ⟨Nat.le_refl _, fun _ _ => rfl⟩
theorem KeepsS.trans {S : Nat → Prop} {A B C : World} (h : KeepsS S A B) (k : KeepsS S B C) : KeepsS S A C := ⟨Nat.le_trans h.1 k.1, fun j h1 => (k.2 j h1).trans (h.2 j h1)⟩
theorem KeepsS.cell {S : Nat → Prop} {A B : World} (h : KeepsS S A B) {p : Addr} (h1 : S p.block) : B.cell? p = A.cell? p := World.cell?_of_block (w := A) (h.2 p.block h1)
theorem KeepsS.of_below {S : Nat → Prop} {B : Nat} {W W' : World} (h : Below B W W') (hB : ∀ k, S k → k < B) : KeepsS S W W' := ⟨h.size, fun k h2 => h.block k (hB k h2)⟩
theorem KeepsS.of_grown {S : Nat → Prop} {W W' : World} {row : Option Nat} (h : W.grownBy W' row) (hh : ∀ k, S k → k < W.heap.size) (hr : ∀ r, row = some r → ¬ S r) : KeepsS S W W' :=
  ⟨h.size, fun k h1 => h.block k (hh k h1) (fun e => hr k e.symm h1)⟩
theorem KeepsS.drewN {S : Nat → Prop} {W W' : World} (h : KeepsS S W W') (n : Nat) : KeepsS S W (W'.drewN n) := ⟨h.1, fun k hk => h.2 k hk⟩
theorem keepsSK_b {S : Nat → Prop} {w : World} (hn : ∀ k, S k → k < w.heap.size) (W : World) (l : Nat) (o o' : Obj) (hl : w.heap.size ≤ l) (h : W.heap[l]? = some o) (h1 : o.isCells = false) (h2 : o.isWalk = false) : KeepsS S W (W.putObj l o') :=
  KeepsS.of_below (belowK_b (w := w) (Nat.le_refl _) W l o o' hl h h1 h2) hn
theorem grownBy_drewN (W : World) (n : Nat) (row : Option Nat) : W.grownBy (W.drewN n) row := ⟨rfl, rfl, rfl, Nat.le_refl _, fun _ _ _ => rfl⟩

/-- The row behind a slice's address, in a block of S. -/
def RowIn (S : Nat → Prop) (W : World) (a : Option Addr) (d : List Int) : Prop := d = [] ∨ ∃ b o, a = some ⟨b, o, none⟩ ∧ S b ∧ IntsAt W b o d
theorem RowIn.kept {S : Nat → Prop} {A B : World} {a : Option Addr} {d : List Int} (h : RowIn S A a d) (hb : KeepsS S A B) : RowIn S B a d :=
  h.imp id fun ⟨b, o, e, hs, hr⟩ => ⟨b, o, e, hs, fun i hi => (hb.cell (p := ⟨b, o + i, none⟩) hs).trans (hr i hi)⟩
theorem RowIn.isI {S : Nat → Prop} {W : World} {a : Option Addr} {d : List Int} {c : Nat} (h : RowIn S W a d) (hc : d.length ≤ c) (hl : d.length ≤ 17592186044416) : IsI W (.slice a d.length c) d :=
  ⟨a, c, rfl, hc, hl, h.imp id fun ⟨b, o, e, _, hr⟩ => ⟨b, o, e, hr⟩⟩
theorem gapAt_yes {a b : List Int} {r : Nat} (h : b.getD r 0 < a.getD r 0) : gapAt a b r = [((r : Int), b.getD r 0 + 1, a.getD r 0)] := by unfold gapAt; rw [if_pos h]
theorem gapAt_no {a b : List Int} {r : Nat} (h : ¬ b.getD r 0 < a.getD r 0) : gapAt a b r = [] := by unfold gapAt; rw [if_neg h]
theorem gapsTo_prefix (a b : List Int) (n : Nat) : ∀ m, gapsTo a b n <+: gapsTo a b (n + m) := by
  intro m
  induction m with
  | zero => exact List.prefix_refl _
  | succ m ih => rw [← Nat.add_assoc, gapsTo_succ]; exact ih.trans (List.prefix_append _ _)
theorem gapsTo_pre {a b : List Int} {n : Nat} (h : n ≤ a.length) : gapsTo a b n <+: gapsL a b := by
  have := gapsTo_prefix a b n (a.length - n)
  rw [show n + (a.length - n) = a.length by omega] at this
  exact this

set_option maxRecDepth 100000 in
set_option maxHeartbeats 2000000 in
theorem gaps1_in (n : Nat) (hn : 2 ≤ n) (l B1 B2 c1 c2 : Nat) (S : Nat → Prop) (a1 a2 : Option Addr) (d1 d2 : List Int) (hk1 : OkC d1) (hk2 : OkC d2) (hc1 : d1.length ≤ c1) (hc2 : d2.length ≤ c2) (hS1 : S B1) (hS2 : S B2) (J Jx : List (Int × Int × Int) → World → Prop) (W : World)
    (hJ : AbidesFrom W.heap.size J)
    (hY : ∀ pre x W1, J pre W1 → pre.length < (gapsL d1 d2).length → YieldAt Fence.wide (n - 1) Tryd.prog l (encG x) W1 fun e W' =>
      (e = .returned (.bool true) ∧ J (pre ++ [x]) W' ∧ KeepsS S W1 W') ∨ (e = .returned (.bool false) ∧ Jx (pre ++ [x]) W'))
    (hn0 : ∀ k, S k → k < W.heap.size) (hB1 : W.cell? ⟨B1, 0, none⟩ = some (.slice a1 d1.length c1)) (hB2 : W.cell? ⟨B2, 0, none⟩ = some (.slice a2 d2.length c2)) (hr1 : RowIn S W a1 d1) (hr2 : RowIn S W a2 d2) (h0 : J [] W) :
    CallsIn Fence.wide n Tryd.prog 32 #[.func (.yield l) #[] #[], .pointer (some ⟨B1, 0, none⟩), .pointer (some ⟨B2, 0, none⟩)] W fun e W' => (∃ v, e = .returned v) ∧
      ((∃ ys, ys = gapsL d1 d2 ∧ J ys W') ∨ (∃ pre, pre <+: gapsL d1 d2 ∧ Jx pre W')) := by
  have hl1 := hk1.1
  have hl2 := hk2.1
  have HK1 : Hid (OkC d1) := hk1
  have HK2 : Hid (OkC d2) := hk2
  have HR1 : Hid (RowIn S W a1 d1) := hr1
  have HR2 : Hid (RowIn S W a2 d2) := hr2
  clear hk1 hk2 hr1 hr2
  refine callsIn_of_wp Tryd.func32 rfl trivial ?_ rfl
  simp only [Tryd.ntmps32, List.size_toArray, List.length_cons, List.length_nil, Nat.reduceAdd, Nat.reduceSub, Array.replicate_succ, Array.replicate_zero, List.push_toArray, List.append_toArray, List.nil_append, List.cons_append]
  gi_wp2
  gi_loopw [9] (fun i wr => ∃ k : Nat, k ≤ d1.length ∧ i = .int .i64 k ∧ Hid (J (gapsTo d1 d2 k) wr) ∧ Hid (KeepsS S W wr))
    (fun i _ => d1.length - (intOf i).toNat)
  case atStart => exact ⟨0, Nat.zero_le _, rfl, h0, KeepsS.refl _ _⟩
  case round =>
    obtain ⟨k, hk, rfl, HJ, HKp⟩ := hrel
    by_cases hlt : k < d1.length
    · have HT : Hid (gapsTo d1 d2 (k + 1) = gapsTo d1 d2 k ++ gapAt d1 d2 k) := gapsTo_succ d1 d2 k
      have HP : Hid (gapsTo d1 d2 (k + 1) <+: gapsL d1 d2) := gapsTo_pre (by omega)
      have x1 : wr.cell? ⟨B1, 0, none⟩ = some (.slice a1 d1.length c1) := (HKp.out.cell (p := ⟨B1, 0, none⟩) hS1).trans hB1
      have x2 : wr.cell? ⟨B2, 0, none⟩ = some (.slice a2 d2.length c2) := (HKp.out.cell (p := ⟨B2, 0, none⟩) hS2).trans hB2
      have HR1w : Hid (RowIn S wr a1 d1) := HR1.out.kept HKp.out
      have HR2w : Hid (RowIn S wr a2 d2) := HR2.out.kept HKp.out
      obtain ⟨b, o, rfl, hb, hr⟩ := HR1w.out.resolve_left (by intro e; subst e; simp at hlt)
      have x3 := hr k hlt
      have e3 := getD_at hlt
      rw [← e3] at x3
      clear hr e3 HR1w
      have hz := HKp.out.1
      have k1 : (k : Int) < (d1.length : Int) := by omega
      have k0 : (0 : Int) ≤ (k : Int) := by omega
      obtain ⟨b11, b12⟩ := HK1.out.getD k
      obtain ⟨b21, b22⟩ := HK2.out.getD k
      have HG : Hid (gapAt d1 d2 k = if d2.getD k 0 < d1.getD k 0 then [((k : Int), d2.getD k 0 + 1, d1.getD k 0)] else []) := rfl
      have HA : Hid (∀ nq, CallsIn Fence.wide (n - 1) Tryd.prog 23 #[.slice a2 d2.length c2, .int .i64 (k : Int)] (wr.drewN nq) fun e w' => e = .returned (.int .i64 (d2.getD k 0)) ∧ w' = wr.drewN nq) := fun nq => by
        have := (callsIn_wide (n := n - 1)).2 (at_any (.slice a2 d2.length c2) d2 (k : Int) (wr.drewN nq) (RowIn.isI (HR2w.out.kept ((KeepsS.refl _ _).drewN nq)) hc2 (by omega)))
        rw [atL_nat] at this
        exact this
      generalize d1.getD k 0 = p at *
      generalize d2.getD k 0 = q at *
      gi_wp2
      refine wpIn_region_quiet_lit rfl (by kernel_rfl) (by kernel_rfl) ?_
      repeat (gi_big_quiet_step (fail))
      refine wpQuietIn_step (by go_simp; exact trivial) (fun K hK => ?_)
      go_simp
      refine ⟨.int .i64 q, fun _ => ⟨fun _ => by omega, CallsIn.quiet_of_same (HA.out _)⟩, hK _ ?_⟩
      clear hK K
      repeat (gi_big_quiet_step (fail))
      refine wpQuietIn_nil ?_
      intro _ hw'
      obtain ⟨nq, hw''⟩ := hw'
      subst hw''
      clear x1 x2 x3 HA
      have HJ2 : Hid (J (gapsTo d1 d2 k) (wr.drewN nq)) := hJ _ _ _ none HJ.out (grownBy_drewN wr nq none) (by simp)
      have HK2p : Hid (KeepsS S W (wr.drewN nq)) := HKp.out.drewN nq
      by_cases hqp : q < p
      · have HT2 : Hid (gapsTo d1 d2 (k + 1) = gapsTo d1 d2 k ++ [((k : Int), q + 1, p)]) := by show _ = _; rw [HT.out, HG.out, if_pos hqp]
        have hlen : (gapsTo d1 d2 k).length < (gapsL d1 d2).length := by
          have := HP.out.length_le
          rw [HT2.out] at this
          simp at this
          omega
        obtain ⟨fn, tmps, assign, body, hy, hR⟩ := hY _ ((k : Int), q + 1, p) _ HJ2.out hlen
        simp only [encG] at hy
        clear hlen
        gi_wp2
        refine ⟨fun _ => by omega, hR.mono ?_⟩
        rintro e W3 (⟨rfl, hJ3, hk3⟩ | ⟨rfl, hJx3⟩)
        · have HJ3 : Hid (J (gapsTo d1 d2 (k + 1)) W3) := by show J _ _; rw [HT2.out]; exact hJ3
          have HK3 : Hid (KeepsS S W W3) := HK2p.out.trans hk3
          clear hJ3 hk3
          gi_wp2
          go_roundw
          case rel => exact ⟨k + 1, by omega, by go_num, HJ3, HK3⟩
          case measure => simp [intOf]; omega
        · have HJ3 : Hid (Jx (gapsTo d1 d2 (k + 1)) W3) := by show Jx _ _; rw [HT2.out]; exact hJx3
          clear hJx3
          gi_wp2
          refine bodyPost_ret (results_none rfl _ _ _) rfl ?_
          exact ⟨⟨_, rfl⟩, .inr ⟨_, HP.out, HJ3.out⟩⟩
      · have HT2 : Hid (gapsTo d1 d2 (k + 1) = gapsTo d1 d2 k) := by show _ = _; rw [HT.out, HG.out, if_neg hqp, List.append_nil]
        have hqd : decide (q < p) = false := by simp [hqp]
        gi_wp2
        refine ⟨fun f h => (by cases h), ?_⟩
        gi_wp2
        go_roundw
        case rel => exact ⟨k + 1, by omega, by go_num, by rw [HT2.out]; exact HJ2, HK2p⟩
        case measure => simp [intOf]; omega
    · have HE : Hid (J (gapsL d1 d2) wr) := by
        have := HJ.out
        obtain rfl : k = d1.length := by omega
        exact this
      gi_wp2
      go_end0
      exact ⟨⟨_, rfl⟩, .inl ⟨_, rfl, HE.out⟩⟩

/-- What the iterator of gaps hands out, wherever it is gone over. -/
theorem gaps_stops (n : Nat) (hn : 2 ≤ n) (B1 B2 c1 c2 : Nat) (S : Nat → Prop) (a1 a2 : Option Addr) (d1 d2 : List Int) (hk1 : OkC d1) (hk2 : OkC d2) (hc1 : d1.length ≤ c1) (hc2 : d2.length ≤ c2) (hS1 : S B1) (hS2 : S B2) (w : World)
    (hn0 : ∀ k, S k → k < w.heap.size) (hB1 : w.cell? ⟨B1, 0, none⟩ = some (.slice a1 d1.length c1)) (hB2 : w.cell? ⟨B2, 0, none⟩ = some (.slice a2 d2.length c2)) (hr1 : RowIn S w a1 d1) (hr2 : RowIn S w a2 d2) :
    SeqStopsK Fence.wide n Tryd.prog 32 #[.pointer (some ⟨B1, 0, none⟩), .pointer (some ⟨B2, 0, none⟩)] encG (KeepsS S) (fun ys => ys = gapsL d1 d2) (fun pre => pre <+: gapsL d1 d2) (gapsL d1 d2).length w := fun l J Jx W hW hJ _ hY h0 =>
  gaps1_in n hn l B1 B2 c1 c2 S a1 a2 d1 d2 hk1 hk2 hc1 hc2 hS1 hS2 J Jx W hJ hY (fun k hk => Nat.lt_of_lt_of_le (hn0 k hk) hW.size) ((hW.cell (p := ⟨B1, 0, none⟩) (hn0 _ hS1)).trans hB1) ((hW.cell (p := ⟨B2, 0, none⟩) (hn0 _ hS2)).trans hB2)
    (hr1.kept (KeepsS.of_below hW hn0)) (hr2.kept (KeepsS.of_below hW hn0)) h0

set_option maxHeartbeats 1000000 in
/-- clock.gaps: the iterator's value, with the two lists in boxes. -/
theorem gaps_any (a1 a2 : Option Addr) (n1 n2 c1 c2 : Nat) (w : World) :
    Calls Tryd.prog 25 #[.slice a1 n1 c1, .slice a2 n2 c2] w fun e w' => e = .returned (.func (.func 32) #[] #[.pointer (some ⟨w.heap.size, 0, none⟩), .pointer (some ⟨w.heap.size + 1, 0, none⟩)]) ∧ w' = (w.alloc (.cells #[.slice a1 n1 c1] 22)).alloc (.cells #[.slice a2 n2 c2] 22) := by
  go_enter Tryd.func25, Tryd.ntmps25
  go_wp2
  go_ret
  exact ⟨rfl, rfl⟩

end Go.Proofs.YtjcpnjobfedejabDoor
