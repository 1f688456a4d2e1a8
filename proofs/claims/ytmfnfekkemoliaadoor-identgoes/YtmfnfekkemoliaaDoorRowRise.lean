/- What ident.Rising's iterator does: it hands out the stamps of its own row, one by one, till the row's end or till no more is wanted. -/
import Derived.RangeFuncNested
import Derived.RangeFuncBound
import Derived.RangeFuncCalls
import Derived.RangeFuncLeaves
import Derived.Shelf.Abstract
import Derived.Shelf.RegionOpen
import Derived.WalkKit
import Derived.OwnWalkIn
import Derived.TacticsInMore
import Derived.LoopNIn
import Derived.LoopIn
import Derived.Test.YtmfnfekkemoliaaDoorRowEqS
namespace Go.Proofs.YtmfnfekkemoliaaDoor
open Go.RowKit Go.Shelf
set_option linter.unusedVariables false

attribute [local go_sem] Oper.semAt_some

/-- A stamp as yield's argument. -/
def encP (x : Int × Int) : Array Value := #[.agg #[.int .i64 x.1, .int .i64 x.2]]
/-- The blocks from lo to below hi lie as they lay. -/
def KeepsIn (lo hi : Nat) (W W' : World) : Prop := W.heap.size ≤ W'.heap.size ∧ ∀ k, lo ≤ k → k < hi → W'.heap[k]? = W.heap[k]?
theorem KeepsIn.refl (lo hi : Nat) (W : World) : KeepsIn lo hi W W := ⟨Nat.le_refl _, fun _ _ _ => rfl⟩
theorem KeepsIn.trans {lo hi : Nat} {A B C : World} (h : KeepsIn lo hi A B) (k : KeepsIn lo hi B C) : KeepsIn lo hi A C := ⟨Nat.le_trans h.1 k.1, fun j h1 h2 => (k.2 j h1 h2).trans (h.2 j h1 h2)⟩
theorem KeepsIn.cell {lo hi : Nat} {A B : World} (h : KeepsIn lo hi A B) {p : Addr} (h1 : lo ≤ p.block) (h2 : p.block < hi) : B.cell? p = A.cell? p := World.cell?_of_block (w := A) (h.2 p.block h1 h2)
theorem KeepsIn.of_below {B lo hi : Nat} {W W' : World} (h : Below B W W') (hB : hi ≤ B) : KeepsIn lo hi W W' := ⟨h.size, fun k _ h2 => h.block k (by omega)⟩
theorem KeepsIn.of_grown {lo hi : Nat} {W W' : World} {row : Option Nat} (h : W.grownBy W' row) (hh : hi ≤ W.heap.size) (hr : ∀ r, row = some r → r < lo ∨ hi ≤ r) : KeepsIn lo hi W W' :=
  ⟨h.size, fun k h1 h2 => h.block k (by omega) (fun e => by rcases hr k e.symm with h | h <;> omega)⟩
theorem keepsInK_b {lo hi : Nat} {w : World} (hn : hi ≤ w.heap.size) (W : World) (l : Nat) (o o' : Obj) (hl : w.heap.size ≤ l) (h : W.heap[l]? = some o) (_ : o.isCells = false) (_ : o.isWalk = false) : KeepsIn lo hi W (W.putObj l o') :=
  KeepsIn.of_below (B := hi) (belowK_b hn W l o o' hl h ‹_› ‹_›) (Nat.le_refl _)

/-- The row behind a slice's address, in a block from lo to below hi. -/
def RowB (lo hi : Nat) (W : World) (a : Option Addr) (d : List (Int × Int)) : Prop := d = [] ∨ ∃ b o, a = some ⟨b, o, none⟩ ∧ (lo ≤ b ∧ b < hi) ∧ RowAt W b o d
theorem RowB.kept {lo hi : Nat} {A B : World} {a : Option Addr} {d : List (Int × Int)} (h : RowB lo hi A a d) (hb : KeepsIn lo hi A B) : RowB lo hi B a d :=
  h.imp id fun ⟨b, o, e, hlt, hr⟩ => ⟨b, o, e, hlt, fun i hi => ⟨(hb.cell (p := ⟨b, o + i * 2, none⟩) hlt.1 hlt.2).trans (hr i hi).1, (hb.cell (p := ⟨b, o + i * 2 + 1, none⟩) hlt.1 hlt.2).trans (hr i hi).2⟩⟩

set_option maxRecDepth 100000 in
set_option maxHeartbeats 2000000 in
theorem rise1_in (F : Fence) (n : Nat) (h7 : F.fn 40) (hro : F.round = none) (hn : 1 ≤ n) (l Bs lo hi cap : Nat) (a : Option Addr) (d : List (Int × Int)) (hl : d.length ≤ 8796093022208) (hBn : lo ≤ Bs ∧ Bs < hi) (J Jx : List (Int × Int) → World → Prop) (W : World)
    (hJ : AbidesFrom W.heap.size J)
    (hY : ∀ pre x W1, J pre W1 → pre.length < d.length → YieldAt F (n - 1) Tryd.prog l (encP x) W1 fun e W' =>
      (e = .returned (.bool true) ∧ J (pre ++ [x]) W' ∧ KeepsIn lo hi W1 W') ∨ (e = .returned (.bool false) ∧ Jx (pre ++ [x]) W'))
    (hn0 : hi ≤ W.heap.size) (hBs : W.cell? ⟨Bs, 0, none⟩ = some (.slice a d.length cap)) (hc : RowB lo hi W a d) (h0 : J [] W) :
    CallsIn F n Tryd.prog 40 #[.func (.yield l) #[] #[], .pointer (some ⟨Bs, 0, none⟩)] W fun e W' => (∃ v, e = .returned v) ∧
      ((∃ ys, ys = d ∧ J ys W') ∨ (∃ pre, pre <+: d ∧ Jx pre W')) := by
  refine callsIn_of_wp Tryd.func40 rfl h7 ?_ hro
  simp only [Tryd.ntmps40, List.size_toArray, List.length_cons, List.length_nil, Nat.reduceAdd, Nat.reduceSub, Array.replicate_succ, Array.replicate_zero, List.push_toArray, List.append_toArray, List.nil_append, List.cons_append]
  gi_wp2
  gi_loopw [7] (fun i wr => ∃ k : Nat, k ≤ d.length ∧ i = .int .i64 k ∧ J (d.take k) wr ∧ KeepsIn lo hi W wr)
    (fun i _ => d.length - (intOf i).toNat)
  case atStart => exact ⟨0, Nat.zero_le _, rfl, by simpa using h0, KeepsIn.refl _ _ _⟩
  case round =>
    obtain ⟨k, hk, rfl, hJs, hnx⟩ := hrel
    by_cases hlt : k < d.length
    · have HT : Hid (d.take (k + 1) = d.take k ++ [d[k]]) := List.take_succ_eq_append_getElem hlt
      obtain ⟨b, o, rfl, hb, hr⟩ := (hc.kept hnx).resolve_left (by intro e; subst e; simp at hlt)
      obtain ⟨x1, x2⟩ := hr k hlt
      have hz := hnx.1
      have hJ1 := hJ _ _ _ none hJs (World.grownBy_alloc wr (.cells #[.int .i64 d[k].1, .int .i64 d[k].2] 23) none) (by simp)
      obtain ⟨fn, tmps, assign, body, hy, hR⟩ := hY _ d[k] _ hJ1 (by simp; omega)
      simp only [encP] at hy
      have k1 : (k : Int) < (d.length : Int) := by omega
      have k0 : (0 : Int) ≤ (k : Int) := by omega
      clear hr hc
      gi_wp2
      refine hR.mono ?_
      rintro e W3 (⟨rfl, hJ3, hk3⟩ | ⟨rfl, hJx3⟩)
      · gi_wp2
        go_roundw
        case rel => exact ⟨k + 1, by omega, by go_num, by rw [HT.out]; exact hJ3, hnx.trans ((KeepsIn.of_grown (World.grownBy_alloc _ _ none) (by omega) (by simp)).trans hk3)⟩
        case measure => simp [intOf]; omega
      · gi_wp2
        refine bodyPost_ret (results_none rfl _ _ _) rfl ?_
        exact ⟨⟨_, rfl⟩, .inr ⟨_, by rw [← HT.out]; exact List.take_prefix _ _, hJx3⟩⟩
    · have e : d.take k = d := List.take_of_length_le (by omega)
      rw [e] at hJs
      obtain rfl : k = d.length := by omega
      gi_wp2
      go_end0
      exact ⟨⟨_, rfl⟩, .inl ⟨_, rfl, hJs⟩⟩

/-- What Rising's iterator hands out, wherever it is gone over. -/
theorem rise_stops (F : Fence) (n : Nat) (h7 : F.fn 40) (hro : F.round = none) (hn : 1 ≤ n) (Bs lo hi cap : Nat) (a : Option Addr) (d : List (Int × Int)) (hl : d.length ≤ 8796093022208) (hBn : lo ≤ Bs ∧ Bs < hi) (w : World) (hn0 : hi ≤ w.heap.size)
    (hBs : w.cell? ⟨Bs, 0, none⟩ = some (.slice a d.length cap)) (hc : RowB lo hi w a d) :
    SeqStopsK F n Tryd.prog 40 #[.pointer (some ⟨Bs, 0, none⟩)] encP (KeepsIn lo hi) (fun ys => ys = d) (fun pre => pre <+: d) d.length w := fun l J Jx W hW hJ _ hY h0 =>
  rise1_in F n h7 hro hn l Bs lo hi cap a d hl hBn J Jx W hJ hY (by have := hW.size; omega) ((hW.cell (p := ⟨Bs, 0, none⟩) (by show Bs < _; omega)).trans hBs) (hc.kept (KeepsIn.of_below hW hn0)) h0

set_option maxHeartbeats 1000000 in
set_option maxRecDepth 100000 in
theorem rising_any (v : Value) (d : List (Int × Int)) (w : World) (h : IsS w v d) :
    Calls Tryd.prog 28 #[v] w fun e w' => ∃ Bs a cap, e = .returned (.func (.func 40) #[] #[.pointer (some ⟨Bs, 0, none⟩)]) ∧ Bs < w'.heap.size ∧ w.heap.size ≤ Bs ∧ w'.cell? ⟨Bs, 0, none⟩ = some (.slice a (sortL d).length cap) ∧ RowB w.heap.size w'.heap.size w' a (sortL d) ∧ (sortL d).length ≤ 8796093022208 ∧ Below w.heap.size w w' := by
  have HV : Hid (IsS w v d) := h
  clear h
  go_enter Tryd.func28, Tryd.ntmps28
  go_wp2_with fail
  refine (ordered_any v d _ HV.out).mono ?_
  rintro e w2 ⟨a, cap, rfl, hs, hg, hb⟩
  rw [comp_sort d] at hs hg ⊢
  have HG : Hid (sortL d = [] ∨ ∃ g, a = some ⟨g, 0, none⟩ ∧ w.heap.size ≤ g) := hg
  clear hg
  have HS : Hid (IsS w2 (.slice a (sortL d).length cap) (sortL d)) := hs
  clear hs
  go_wp2
  go_ret
  obtain ⟨a', cap', e1, hc, hl, hr⟩ := HS.out
  cases e1
  refine ⟨w2.heap.size, a, cap, rfl, by simp, hb.size, by simp, ?_, hl, hb.trans ((Below.refl _ _).alloc hb.size _)⟩
  rcases hr with e | ⟨b, o, e, hr⟩
  · exact .inl e
  · by_cases hd : sortL d = []
    · exact .inl hd
    · obtain ⟨g, e2, hg⟩ := HG.out.resolve_left hd
      rw [e] at e2
      cases e2
      exact .inr ⟨b, 0, e, ⟨hg, by have := hr.lt hd; simp; omega⟩, hr.below ((Below.refl _ _).alloc (Nat.le_refl _) _)⟩

end Go.Proofs.YtmfnfekkemoliaaDoor
